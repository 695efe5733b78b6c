/-
  TEXTS JOINED: DkLook, DkMay, DkUsed, DkList, DkWaits, DkVal, DkFiles. Each one's own words stand at its head.
-/
import Derived.Test.YtoempaagpgoilaaDoorJ5
import Derived.Test.YtoempaagpgoilaaDoorJ2
import Derived.Test.YtoempaagpgoilaaDoorJ4
import Derived.Lib.MinMax
import Derived.Sort.KeysCollected
import Derived.Sort.OwnSorted
/-
  LAYER 8 (disk), the program's own disk: what only tells: Size, Ops, Down, nearer, kept, and what keeps a job from being done (mayFind, mayReach, mayRename, mayFail). No condition.
-/
namespace Go.Proofs.YtoempaagpgoilaaDoor
open Go.RowKit
theorem zeroS (w : World) : (zeroValue 83).run Tryd.prog w = .ok zS w := by kernel_rfl
theorem size_le {s : ByteArray} (h : s.size ≤ 281474976710656) : s.size ≤ maxLen := by unfold maxLen; omega
set_option maxRecDepth 8000 in
theorem psize_any (w : World) (b bm : Nat) (l : List MF) (d : AD) (s : ByteArray) (h : Dk w b bm l d) (hs : s.size ≤ 281474976710656) :
    Calls Tryd.prog 22 #[ptr ⟨b, 0, none⟩, .string s] w fun e w' => e = .returned (.int .i64 (if d.has s then ((d.get s).n : Int) else 0)) ∧ w = w' := by
  have HM := Lib.hid h.map
  have HZ := Lib.hid (size_le hs)
  obtain ⟨fl, lf, hb, _⟩ := h.blk
  obtain ⟨c0, c1, c2, c3, c4, c5⟩ := hb.cells
  by_cases hh : d.has s
  · obtain ⟨x, _, hf, _, hl⟩ := h.has s hh
    rw [if_pos hh, ← hf]
    have HL := Lib.hid (hl.trans (show x.v = .slice (some ⟨x.g, 0, none⟩) x.f.n x.c from rfl))
    clear hb hs h hl hf hh
    go_enter Tryd.func22, Tryd.ntmps22
    go_wp2_with (first
      | (refine wpl_look secE rfl (.tmp 10) (.tmp 11) 53 rfl 9 83 Tryd.underlying9 Tryd.underlying53 (zeroS _) bm l rfl HM.out s rfl HZ.out ?_; rw [HL.out]))
    go_ret
    exact ⟨rfl, rfl⟩
  · have HL := Lib.hid (h.hasnt s hh)
    rw [if_neg hh]
    clear hb hs h hh
    go_enter Tryd.func22, Tryd.ntmps22
    go_wp2_with (first
      | (refine wpl_look secE rfl (.tmp 10) (.tmp 11) 53 rfl 9 83 Tryd.underlying9 Tryd.underlying53 (zeroS _) bm l rfl HM.out s rfl HZ.out ?_; rw [HL.out]))
    go_ret
    exact ⟨rfl, rfl⟩
theorem pops_any (w : World) (b bm : Nat) (l : List MF) (d : AD) (h : Dk w b bm l d) :
    Calls Tryd.prog 45 #[ptr ⟨b, 0, none⟩] w fun e w' => e = .returned (.int .i64 d.ops) ∧ w = w' := by
  obtain ⟨fl, lf, hb, _⟩ := h.blk
  obtain ⟨c0, c1, c2, c3, c4, c5⟩ := hb.cells
  clear hb h
  go_enter Tryd.func45, Tryd.ntmps45
  go_wp2
  go_ret
  exact ⟨rfl, rfl⟩
theorem pdown_any (w : World) (b bm : Nat) (l : List MF) (d : AD) (h : Dk w b bm l d) :
    Calls Tryd.prog 46 #[ptr ⟨b, 0, none⟩] w fun e w' => e = .returned (.bool d.down) ∧ w = w' := by
  obtain ⟨fl, lf, hb, _⟩ := h.blk
  obtain ⟨c0, c1, c2, c3, c4, c5⟩ := hb.cells
  clear hb h
  go_enter Tryd.func46, Tryd.ntmps46
  go_wp2
  go_ret
  exact ⟨rfl, rfl⟩
theorem nearer_any (n m : Int) (_hn : I63 n) (_hm : I63 m) (w : World) :
    Calls Tryd.prog 23 #[.int .i64 n, .int .i64 m] w fun e w' => e = .returned (.int .i64 (min (max n 0) m)) ∧ w = w' := by
  go_enter Tryd.func23, Tryd.ntmps23
  go_wp2
  go_ret
  refine ⟨?_, rfl⟩
  first | rfl | skip
/-- a job -/
abbrev jobC (p : Addr) (s t : ByteArray) (x n : Int) (v : Value) : Array Value := #[ptr p, .string s, .string t, .int .i64 x, .int .i64 n, v]
abbrev jobV (p : Addr) (s t : ByteArray) (x n : Int) (v : Value) : Value := .agg (jobC p s t x n v)
set_option maxRecDepth 8000 in
theorem mayFind_any (w : World) (b bm : Nat) (l : List MF) (d : AD) (s t : ByteArray) (x n : Int) (a : Option Addr) (m c : Nat) (h : Dk w b bm l d) (hg : Good d) (hs : s.size ≤ 281474976710656) :
    Calls Tryd.prog 51 #[jobV ⟨b, 0, none⟩ s t x n (.slice a m c)] w fun e w' => e = .returned (.int .i64 (if d.has s then 0 else 7)) ∧ Below w.heap.size w w' := by
  have HD := Lib.hid (h.below (below_alloc w (.cells (jobC ⟨b, 0, none⟩ s t x n (.slice a m c)) 67)))
  have HS := Lib.hid hs
  have HB := Lib.hid (below_alloc w (.cells (jobC ⟨b, 0, none⟩ s t x n (.slice a m c)) 67))
  by_cases hh : d.has s
  · have h1 := (hg.file _ (get_mem hh)).n1
    have h2 := (hg.file _ (get_mem hh)).n64
    obtain ⟨k, hk⟩ : ∃ k, (d.get s).n = k := ⟨_, rfl⟩
    rw [hk] at h1 h2
    have HK := Lib.hid (show (if d.has s then ((d.get s).n : Int) else 0) = (k : Int) by rw [if_pos hh, hk])
    rw [if_pos hh]
    clear h hs hg hh hk
    go_enter Tryd.func51, Tryd.ntmps51
    go_wp2_with (first
      | (go_at_call 22; (with_reducible refine (psize_any _ b bm l d s HD.out HS.out).mono ?_); rintro e w1 ⟨rfl, rfl⟩; rw [HK.out]))
    all_goals first | (exfalso; omega) | skip
    all_goals go_ret
    all_goals exact ⟨rfl, HB.out⟩
  · have HK := Lib.hid (show (if d.has s then ((d.get s).n : Int) else 0) = 0 by rw [if_neg hh])
    rw [if_neg hh]
    clear h hs hg hh
    go_enter Tryd.func51, Tryd.ntmps51
    go_wp2_with (first
      | (go_at_call 22; (with_reducible refine (psize_any _ b bm l d s HD.out HS.out).mono ?_); rintro e w1 ⟨rfl, rfl⟩; rw [HK.out]))
    all_goals go_ret
    all_goals exact ⟨rfl, HB.out⟩
/-- a job's box -/
def JB (w : World) (g : Nat) (cs : Array Value) : Prop := w.heap[g]? = some (.cells cs 67 (0, 0))
theorem JB.below {w w' : World} {g : Nat} {cs : Array Value} (h : JB w g cs) (hb : Below w.heap.size w w') : JB w' g cs := by
  unfold JB at *; rw [hb.block g (Array.getElem?_eq_some_iff.1 h).1]; exact h
theorem JB.new (w : World) (cs : Array Value) : JB (w.alloc (.cells cs 67)) w.heap.size cs := heap_alloc_last w _
theorem JB.cells {w : World} {g : Nat} {v0 v1 v2 v3 v4 v5 : Value} (h : JB w g #[v0, v1, v2, v3, v4, v5]) :
    w.cell? ⟨g, 0, none⟩ = some v0 ∧ w.cell? ⟨g, 1, none⟩ = some v1 ∧ w.cell? ⟨g, 2, none⟩ = some v2 ∧ w.cell? ⟨g, 3, none⟩ = some v3 ∧ w.cell? ⟨g, 4, none⟩ = some v4 ∧ w.cell? ⟨g, 5, none⟩ = some v5 := by
  have hc := fun j => cell_of_row w g j _ _ _ h
  exact ⟨hc 0, hc 1, hc 2, hc 3, hc 4, hc 5⟩
/-- where a job's function stands: its box, the disk -/
structure Jd (w : World) (b bm : Nat) (l : List MF) (d : AD) (s t : ByteArray) (x n : Int) (v : Value) (w' : World) : Prop where
  below : Below w.heap.size w w'
  size : w.heap.size < w'.heap.size
  jb : JB w' w.heap.size (jobC ⟨b, 0, none⟩ s t x n v)
  dk : Dk w' b bm l d
theorem Jd.start {w : World} {b bm : Nat} {l : List MF} {d : AD} (h : Dk w b bm l d) (s t : ByteArray) (x n : Int) (v : Value) : Jd w b bm l d s t x n v (w.alloc (.cells (jobC ⟨b, 0, none⟩ s t x n v) 67)) :=
  ⟨below_alloc w _, by rw [alloc_size]; omega, JB.new w _, h.below (below_alloc w _)⟩
theorem Jd.next {w w1 w2 : World} {b bm : Nat} {l : List MF} {d : AD} {s t : ByteArray} {x n : Int} {v : Value} (h : Jd w b bm l d s t x n v w1) (hb : Below w1.heap.size w1 w2) : Jd w b bm l d s t x n v w2 :=
  ⟨chain h.below hb, Nat.lt_of_lt_of_le h.size hb.size, h.jb.below hb, h.dk.below hb⟩
theorem Jd.drew {w w1 : World} {b bm : Nat} {l : List MF} {d : AD} {s t : ByteArray} {x n : Int} {v : Value} (h : Jd w b bm l d s t x n v w1) : Jd w b bm l d s t x n v w1.drew := h.next (Below.refl _ _).drew
end Go.Proofs.YtoempaagpgoilaaDoor
/-
  LAYER 8 (disk), the program's own disk: mayRename, mayFail, kept; how many sectors all files have (a range over the map), and whether a file may be made. No condition.
-/
namespace Go.Proofs.YtoempaagpgoilaaDoor
open Go.RowKit
theorem mayFail_any (w : World) (v0 v1 v2 v3 v5 : Value) (n : Int) :
    Calls Tryd.prog 43 #[.agg #[v0, v1, v2, v3, .int .i64 n, v5]] w fun e w' => e = .returned (.int .i64 (if n < 0 then 4 else 0)) ∧ Below w.heap.size w w' := by
  have HB := Lib.hid (below_alloc w (.cells #[v0, v1, v2, v3, .int .i64 n, v5] 67))
  obtain ⟨_, _, _, _, c4, _⟩ := (JB.new w #[v0, v1, v2, v3, .int .i64 n, v5]).cells
  by_cases h : n < 0
  · rw [if_pos h]
    go_enter Tryd.func43, Tryd.ntmps43
    go_wp2
    go_ret
    exact ⟨rfl, HB.out⟩
  · rw [if_neg h]
    go_enter Tryd.func43, Tryd.ntmps43
    go_wp2
    go_ret
    exact ⟨rfl, HB.out⟩
set_option maxRecDepth 8000 in
theorem mayRename_any (w : World) (b bm : Nat) (l : List MF) (d : AD) (s t : ByteArray) (x n : Int) (a : Option Addr) (m c : Nat) (h : Dk w b bm l d) (hg : Good d) (hs : s.size ≤ 281474976710656) (ht : t.size ≤ 281474976710656) (y : Int)
    (hy : (if ¬ d.has s then 7 else if rightB t = false then 10 else 0) = y) :
    Calls Tryd.prog 49 #[jobV ⟨b, 0, none⟩ s t x n (.slice a m c)] w fun e w' => e = .returned (.int .i64 y) ∧ Below w.heap.size w w' := by
  have HJ := Lib.hid (Jd.start h s t x n (.slice a m c))
  have HS := Lib.hid hs
  have HT := Lib.hid ht
  have HG := Lib.hid hg
  by_cases hh : d.has s
  · rw [if_neg (by simpa using hh)] at hy
    have HF := Lib.hid (show (if d.has s then (0 : Int) else 7) = 0 by rw [if_pos hh])
    obtain ⟨r, hr⟩ : ∃ r, nameN t.data.toList = r := ⟨_, rfl⟩
    have HR := Lib.hid hr
    have hr2 : rightB t = r := hr
    rw [hr2] at hy
    clear h hs ht hg hh hr hr2
    cases r with
    | true =>
      subst hy
      go_enter Tryd.func49, Tryd.ntmps49
      go_wp2_with (first
        | (refine wpList_load_row rfl 67 _ rfl w.heap.size rfl _ (jobC ⟨b, 0, none⟩ s t x n (.slice a m c)) (0, 0) _ HJ.out.jb Tryd.underlying67 rfl (by kernel_rfl) ?_)
        | (go_at_call 51; (with_reducible refine (mayFind_any _ b bm l d s t x n a m c HJ.out.dk HG.out HS.out).mono ?_); rintro e w1 ⟨rfl, hb⟩; rw [HF.out]; have HJ1 := Lib.hid (HJ.out.next hb); clear hb; obtain ⟨_, _, c2, _⟩ := HJ1.out.jb.cells)
        | (go_at_call 55; (with_reducible refine (right_any t _ HT.out).mono ?_); rintro e w2 ⟨rfl, rfl⟩; rw [HR.out]))
      go_ret
      exact ⟨rfl, HJ1.out.below⟩
    | false =>
      subst hy
      go_enter Tryd.func49, Tryd.ntmps49
      go_wp2_with (first
        | (refine wpList_load_row rfl 67 _ rfl w.heap.size rfl _ (jobC ⟨b, 0, none⟩ s t x n (.slice a m c)) (0, 0) _ HJ.out.jb Tryd.underlying67 rfl (by kernel_rfl) ?_)
        | (go_at_call 51; (with_reducible refine (mayFind_any _ b bm l d s t x n a m c HJ.out.dk HG.out HS.out).mono ?_); rintro e w1 ⟨rfl, hb⟩; rw [HF.out]; have HJ1 := Lib.hid (HJ.out.next hb); clear hb; obtain ⟨_, _, c2, _⟩ := HJ1.out.jb.cells)
        | (go_at_call 55; (with_reducible refine (right_any t _ HT.out).mono ?_); rintro e w2 ⟨rfl, rfl⟩; rw [HR.out]))
      go_ret
      exact ⟨rfl, HJ1.out.below⟩
  · rw [if_pos hh] at hy
    subst hy
    have HF := Lib.hid (show (if d.has s then (0 : Int) else 7) = 7 by rw [if_neg hh])
    clear h hs ht hg hh
    go_enter Tryd.func49, Tryd.ntmps49
    go_wp2_with (first
      | (refine wpList_load_row rfl 67 _ rfl w.heap.size rfl _ (jobC ⟨b, 0, none⟩ s t x n (.slice a m c)) (0, 0) _ HJ.out.jb Tryd.underlying67 rfl (by kernel_rfl) ?_)
      | (go_at_call 51; (with_reducible refine (mayFind_any _ b bm l d s t x n a m c HJ.out.dk HG.out HS.out).mono ?_); rintro e w1 ⟨rfl, hb⟩; rw [HF.out]; have HJ1 := Lib.hid (HJ.out.next hb); clear hb))
    go_ret
    exact ⟨rfl, HJ1.out.below⟩
/-- how many bytes of the i-th one that waits are kept -/
def keptN (kb : List Int) (torn cut : Int) (i : Nat) : Nat := if (i : Int) = torn then cutN cut else if bitI kb (i : Int) = true then 64 else 0
end Go.Proofs.YtoempaagpgoilaaDoor
/-
  LAYER 8 (disk), the program's own disk: how many sectors all files have (a range over the map, in whatever order), and whether a file may be made. No condition.
-/
namespace Go.Proofs.YtoempaagpgoilaaDoor
open Go.RowKit
/-- names that rise are apart -/
theorem Asc.nodup {L : List AF} (h : Asc L) : (L.map AF.name).Nodup := by
  unfold List.Nodup
  rw [List.pairwise_map]
  exact List.Pairwise.imp (R := fun f g : AF => gtN g.name f.name = true) (fun {f g} h e => gtN_ne h (Eq.symm e)) h
theorem Dk.names {w : World} {b bm : Nat} {l : List MF} {d : AD} (h : Dk w b bm l d) (hg : Good d) : (l.map MF.nm).Nodup := by
  have := hg.asc.nodup
  rw [h.files, List.map_map] at this
  exact this
abbrev RPk (w : World) (bm r : Nat) (l todo : List MF) (cnt : Nat) : Prop := RP MF.nm MF.dat secR Tryd.prog 9 w bm r l todo cnt
def usedM (l : List MF) : Nat := (l.map fun x => x.f.n).sum
theorem usedM_perm {l l' : List MF} (h : l.Perm l') : usedM l = usedM l' := (h.map _).sum_nat
theorem Dk.used_eq {w : World} {b bm : Nat} {l : List MF} {d : AD} (h : Dk w b bm l d) : usedN d.L = usedM l := by rw [h.files]; unfold usedN; rw [List.map_map]; rfl
set_option maxRecDepth 8000 in
set_option maxHeartbeats 1000000 in
theorem pused_any (w : World) (b bm : Nat) (l : List MF) (d : AD) (h : Dk w b bm l d) (hg : Good d) :
    Calls Tryd.prog 56 #[ptr ⟨b, 0, none⟩] w fun e w' => e = .returned (.int .i64 (usedN d.L : Int)) ∧ Below w.heap.size w w' := by
  have HN := Lib.hid (h.names hg)
  have hu := hg.used
  have hc := hg.cap1
  rw [h.used_eq] at hu ⊢
  have hub : (usedM l : Int) ≤ 1048576 := by omega
  have HM := Lib.hid h.map
  obtain ⟨fl, lf, hb, _⟩ := h.blk
  obtain ⟨c0, c1, c2, c3, c4, c5⟩ := hb.cells
  clear hb h hg hu hc
  go_enter Tryd.func56, Tryd.ntmps56
  go_wp2_with (first
    | (refine wpl_range rfl (.tmp 11) 53 rfl 9 83 Tryd.underlying9 Tryd.underlying53 bm l rfl HM.out ?_; intro w0 HR0 hG0 HS0; have HB0 := Lib.hid ((Below.refl w.heap.size w).grown hG0.out (Nat.le_refl _) (by simp)); clear hG0))
  go_frame
  go_loopw [3] (fun v wr => ∃ (todo : List MF) (cnt u : Nat), v = .int .i64 (u : Int) ∧ Hid (RPk wr bm w.heap.size l todo cnt) ∧ u + usedM todo = usedM l ∧ Hid (Below w.heap.size w wr)) (fun _ wr => wr.rangeLeft bm w.heap.size)
  case atStart => exact ⟨l, l.length, 0, rfl, HR0, by omega, HB0⟩
  case round =>
    obtain ⟨todo, cnt, u, rfl, HR, hsum, HB⟩ := hrel
    go_wp2_with (first
      | (refine wpl_next secE rfl (.tmp 12) rfl 9 Tryd.underlying9 bm w.heap.size l todo cnt rfl HR.out ?_ ?_))
    · intro h0
      subst h0
      obtain rfl : u = usedM l := by simpa [usedM] using hsum
      go_wp2
      go_ret
      exact ⟨rfl, HB.out⟩
    · intro x w1 cnt1 hx HR1 hlt hG1 hs1 hen
      have hnd : (todo.map MF.nm).Nodup := HN.out.sublist (HR.out.sub.map _)
      have hp := usedM_perm (out_perm hnd hx.out)
      have hp2 : usedM (x :: outBy MF.nm todo (MF.nm x)) = x.f.n + usedM (outBy MF.nm todo (MF.nm x)) := by simp [usedM]
      have hw : IntKind.i64.wrap ((u : Int) + (x.f.n : Int)) = (u : Int) + (x.f.n : Int) := IntWalk.i64_in _ (by omega)
      have HB1 := Lib.hid (HB.out.grown hG1.out HB.out.size (fun j hj => by cases hj; exact Nat.le_refl _))
      obtain ⟨xn, hxn⟩ : ∃ xn, x.f.n = xn := ⟨_, rfl⟩
      have hv : x.v = .slice (some ⟨x.g, 0, none⟩) xn x.c := by rw [← hxn]; rfl
      rw [hv] at hen ⊢
      rw [hxn] at hw hp2
      have HE := Lib.hid (HR.out.left_eq)
      have HE1 := Lib.hid (HR1.out.left_eq)
      clear hnd hG1 hs1 hx HR HB hv hxn
      go_wp2
      go_roundw
      case rel => exact ⟨_, cnt1, u + xn, by go_num, HR1, by omega, HB1⟩
      case measure => rw [HE.out, HE1.out]; exact hlt.out
/-- what mayMake reads -/
theorem Jd.seven {w w1 : World} {b bm : Nat} {l : List MF} {d : AD} {s t : ByteArray} {x n : Int} {v : Value} (h : Jd w b bm l d s t x n v w1) :
    w1.cell? ⟨w.heap.size, 0, none⟩ = some (ptr ⟨b, 0, none⟩) ∧ w1.cell? ⟨w.heap.size, 1, none⟩ = some (.string s) ∧ w1.cell? ⟨w.heap.size, 4, none⟩ = some (.int .i64 n) ∧ w1.cell? ⟨b, 0, none⟩ = some (.int .i64 d.cap) ∧ w1.cell? ⟨b, 1, none⟩ = some (.map (some bm)) ∧ Jd w b bm l d s t x n v w1 := by
  obtain ⟨c0, c1, _, c3, c4, _⟩ := h.jb.cells
  obtain ⟨fl, lf, hb, _⟩ := h.dk.blk
  obtain ⟨e0, e1, _⟩ := hb.cells
  exact ⟨c0, c1, c4, e0, e1, h⟩
set_option maxRecDepth 8000 in
set_option maxHeartbeats 1000000 in
theorem mayMake_any (w : World) (b bm : Nat) (l : List MF) (d : AD) (s t : ByteArray) (x n : Int) (a : Option Addr) (m c : Nat) (h : Dk w b bm l d) (hg : Good d) (hs : s.size ≤ 281474976710656) (_hn : I63 n) (y : Int)
    (hy : (if rightB s = false then 10 else if d.has s then 8 else if n < 1 ∨ 64 < n then 4 else if d.cap < (usedN d.L : Int) + n ∨ 64 ≤ d.L.length then 6 else 0) = y) :
    Calls Tryd.prog 35 #[jobV ⟨b, 0, none⟩ s t x n (.slice a m c)] w fun e w' => e = .returned (.int .i64 y) ∧ Below w.heap.size w w' := by
  have HJ := Lib.hid (Jd.start h s t x n (.slice a m c))
  have HS := Lib.hid hs
  have HG := Lib.hid hg
  obtain ⟨c0, c1, c4, e0, e1, _⟩ := HJ.out.seven
  obtain ⟨r, hr⟩ : ∃ r, nameN s.data.toList = r := ⟨_, rfl⟩
  have HR := Lib.hid hr
  have hr2 : rightB s = r := hr
  rw [hr2] at hy
  cases r with
  | false =>
    rw [if_pos rfl] at hy
    subst hy
    clear h hs hg _hn hr hr2
    go_enter Tryd.func35, Tryd.ntmps35
    go_wp2_with (first
      | (go_at_call 55; (with_reducible refine (right_any s _ HS.out).mono ?_); rintro e w2 ⟨rfl, rfl⟩; rw [HR.out]))
    go_ret
    exact ⟨rfl, HJ.out.below⟩
  | true =>
    rw [if_neg (by simp)] at hy
    by_cases hh : d.has s
    · rw [if_pos hh] at hy
      subst hy
      have h1 := (hg.file _ (get_mem hh)).n1
      obtain ⟨k, hk⟩ : ∃ k, (d.get s).n = k := ⟨_, rfl⟩
      have HZ := Lib.hid (show (if d.has s then ((d.get s).n : Int) else 0) = (k : Int) by rw [if_pos hh, hk])
      rw [hk] at h1
      clear h hs hg _hn hr hr2 hh hk
      go_enter Tryd.func35, Tryd.ntmps35
      go_wp2_with (first
        | (go_at_call 55; (with_reducible refine (right_any s _ HS.out).mono ?_); rintro e w2 ⟨rfl, rfl⟩; rw [HR.out])
        | (go_at_call 22; (with_reducible refine (psize_any _ b bm l d s HJ.out.dk HS.out).mono ?_); rintro e w1 ⟨rfl, rfl⟩; rw [HZ.out]))
      all_goals first | (exfalso; omega) | skip
      all_goals go_ret
      all_goals exact ⟨rfl, HJ.out.below⟩
    · rw [if_neg hh] at hy
      have HZ := Lib.hid (show (if d.has s then ((d.get s).n : Int) else 0) = 0 by rw [if_neg hh])
      by_cases hr1 : n < 1
      · rw [if_pos (.inl hr1)] at hy
        subst hy
        clear h hs hg _hn hr hr2 hh
        go_enter Tryd.func35, Tryd.ntmps35
        go_wp2_with (first
          | (go_at_call 55; (with_reducible refine (right_any s _ HS.out).mono ?_); rintro e w2 ⟨rfl, rfl⟩; rw [HR.out])
          | (go_at_call 22; (with_reducible refine (psize_any _ b bm l d s HJ.out.dk HS.out).mono ?_); rintro e w1 ⟨rfl, rfl⟩; rw [HZ.out]))
        go_ret
        exact ⟨rfl, HJ.out.below⟩
      by_cases hr3 : 64 < n
      · rw [if_pos (.inr hr3)] at hy
        subst hy
        clear h hs hg _hn hr hr2 hh
        go_enter Tryd.func35, Tryd.ntmps35
        go_wp2_with (first
          | (go_at_call 55; (with_reducible refine (right_any s _ HS.out).mono ?_); rintro e w2 ⟨rfl, rfl⟩; rw [HR.out])
          | (go_at_call 22; (with_reducible refine (psize_any _ b bm l d s HJ.out.dk HS.out).mono ?_); rintro e w1 ⟨rfl, rfl⟩; rw [HZ.out]))
        go_ret
        exact ⟨rfl, HJ.out.below⟩
      rw [if_neg (by omega)] at hy
      have hu := hg.used
      have hc := hg.cap1
      obtain ⟨u, hu2⟩ : ∃ u, usedN d.L = u := ⟨_, rfl⟩
      have HU := Lib.hid hu2
      have hl : d.L.length = l.length := by rw [h.files, List.length_map]
      rw [hu2] at hu hy
      rw [hl] at hy
      have hw : IntKind.i64.wrap ((u : Int) + n) = (u : Int) + n := IntWalk.i64_in _ (by omega)
      by_cases hf1 : d.cap < (u : Int) + n
      · rw [if_pos (.inl hf1)] at hy
        subst hy
        have hd : decide (d.cap < (u : Int) + n) = true := decide_eq_true hf1
        clear h hs hg _hn hr hr2 hh hu2 hl
        go_enter Tryd.func35, Tryd.ntmps35
        go_wp2_with (first
          | (go_at_call 55; (with_reducible refine (right_any s _ HS.out).mono ?_); rintro e w2 ⟨rfl, rfl⟩; rw [HR.out])
          | (go_at_call 22; (with_reducible refine (psize_any _ b bm l d s HJ.out.dk HS.out).mono ?_); rintro e w1 ⟨rfl, rfl⟩; rw [HZ.out]))
        refine wp_region_held_drew (S := (fun w' => w'.cell? ⟨w.heap.size, 0, none⟩ = some (ptr ⟨b, 0, none⟩) ∧ w'.cell? ⟨w.heap.size, 1, none⟩ = some (.string s) ∧ w'.cell? ⟨w.heap.size, 4, none⟩ = some (.int .i64 n) ∧ w'.cell? ⟨b, 0, none⟩ = some (.int .i64 d.cap) ∧ w'.cell? ⟨b, 1, none⟩ = some (.map (some bm)) ∧ Jd w b bm l d s t x n (.slice a m c) w')) (by kernel_rfl) (Jd.seven HJ.out.drew) (fun hS => ?_)
        refine wpAnyH_take (i := 0) (oi := ({ dst := some 25, op := Op.fieldAddr 67 (Operand.tmp 1) 0, type := 0, pos := "job.go:37", after := #[], guard := none } : Oper)) (v := ?_) rfl (by kernel_rfl) (by kernel_rfl) (by kernel_rfl) (fun _ _ _ h => h) (Or.inl ⟨by rfl, ?_⟩) hS ?_
        rotate_left
        · (intro w hSw; (try dsimp only at hSw); go_simp; try with_reducible rfl)
        (try simp only [Act.put, List.setIfInBounds_toArray, List.set_cons_zero, List.set_cons_succ])
        refine wpAnyH_take (i := 1) (oi := ({ dst := some 26, op := Op.load 24 (Operand.tmp 25), type := 24, pos := "job.go:37", after := #[{ on := 0, ground := Ground.data }], guard := none } : Oper)) (v := ?_) rfl (by kernel_rfl) (by kernel_rfl) (by kernel_rfl) (fun _ _ _ h => h) (Or.inl ⟨by rfl, ?_⟩) hS ?_
        rotate_left
        · (intro w hSw; (try dsimp only at hSw); go_simp; try with_reducible rfl)
        (try simp only [Act.put, List.setIfInBounds_toArray, List.set_cons_zero, List.set_cons_succ])
        refine wpAnyH_take (i := 3) (oi := ({ dst := some 28, op := Op.fieldAddr 67 (Operand.tmp 1) 4, type := 0, pos := "job.go:37", after := #[], guard := none } : Oper)) (v := ?_) rfl (by kernel_rfl) (by kernel_rfl) (by kernel_rfl) (fun _ _ _ h => h) (Or.inl ⟨by rfl, ?_⟩) hS ?_
        rotate_left
        · (intro w hSw; (try dsimp only at hSw); go_simp; try with_reducible rfl)
        (try simp only [Act.put, List.setIfInBounds_toArray, List.set_cons_zero, List.set_cons_succ])
        refine wpAnyH_take (i := 4) (oi := ({ dst := some 29, op := Op.load 3 (Operand.tmp 28), type := 3, pos := "job.go:37", after := #[{ on := 3, ground := Ground.data }], guard := none } : Oper)) (v := ?_) rfl (by kernel_rfl) (by kernel_rfl) (by kernel_rfl) (fun _ _ _ h => h) (Or.inl ⟨by rfl, ?_⟩) hS ?_
        rotate_left
        · (intro w hSw; (try dsimp only at hSw); go_simp; try with_reducible rfl)
        (try simp only [Act.put, List.setIfInBounds_toArray, List.set_cons_zero, List.set_cons_succ])
        refine wpAnyH_take (i := 6) (oi := ({ dst := some 31, op := Op.fieldAddr 67 (Operand.tmp 1) 0, type := 0, pos := "job.go:37", after := #[], guard := none } : Oper)) (v := ?_) rfl (by kernel_rfl) (by kernel_rfl) (by kernel_rfl) (fun _ _ _ h => h) (Or.inl ⟨by rfl, ?_⟩) hS ?_
        rotate_left
        · (intro w hSw; (try dsimp only at hSw); go_simp; try with_reducible rfl)
        (try simp only [Act.put, List.setIfInBounds_toArray, List.set_cons_zero, List.set_cons_succ])
        refine wpAnyH_take (i := 7) (oi := ({ dst := some 32, op := Op.load 24 (Operand.tmp 31), type := 24, pos := "job.go:37", after := #[{ on := 6, ground := Ground.data }], guard := none } : Oper)) (v := ?_) rfl (by kernel_rfl) (by kernel_rfl) (by kernel_rfl) (fun _ _ _ h => h) (Or.inl ⟨by rfl, ?_⟩) hS ?_
        rotate_left
        · (intro w hSw; (try dsimp only at hSw); go_simp; try with_reducible rfl)
        (try simp only [Act.put, List.setIfInBounds_toArray, List.set_cons_zero, List.set_cons_succ])
        refine wpAnyH_take (i := 8) (oi := ({ dst := some 33, op := Op.nilCheck (Operand.tmp 32), type := 0, pos := "job.go:37", after := #[{ on := 7, ground := Ground.data }], guard := none } : Oper)) (v := ?_) rfl (by kernel_rfl) (by kernel_rfl) (by kernel_rfl) (fun _ _ _ h => h) (Or.inl ⟨by rfl, ?_⟩) hS ?_
        rotate_left
        · (intro w hSw; (try dsimp only at hSw); go_simp; try with_reducible rfl)
        (try simp only [Act.put, List.setIfInBounds_toArray, List.set_cons_zero, List.set_cons_succ])
        refine wpAnyH_take (i := 9) (oi := ({ dst := some 34, op := Op.fieldAddr 55 (Operand.tmp 33) 0, type := 0, pos := "job.go:37", after := #[{ on := 8, ground := Ground.data }], guard := none } : Oper)) (v := ?_) rfl (by kernel_rfl) (by kernel_rfl) (by kernel_rfl) (fun _ _ _ h => h) (Or.inl ⟨by rfl, ?_⟩) hS ?_
        rotate_left
        · (intro w hSw; (try dsimp only at hSw); go_simp; try with_reducible rfl)
        (try simp only [Act.put, List.setIfInBounds_toArray, List.set_cons_zero, List.set_cons_succ])
        refine wpAnyH_take (i := 10) (oi := ({ dst := some 35, op := Op.load 3 (Operand.tmp 34), type := 3, pos := "job.go:37", after := #[{ on := 9, ground := Ground.data }], guard := none } : Oper)) (v := ?_) rfl (by kernel_rfl) (by kernel_rfl) (by kernel_rfl) (fun _ _ _ h => h) (Or.inl ⟨by rfl, ?_⟩) hS ?_
        rotate_left
        · (intro w hSw; (try dsimp only at hSw); go_simp; try with_reducible rfl)
        (try simp only [Act.put, List.setIfInBounds_toArray, List.set_cons_zero, List.set_cons_succ])
        refine rg_one 2 ({ dst := some 27, op := Op.call { callee := Callee.value (Operand.func 56), args := #[Operand.tmp 26], argTypes := #[24] }, type := 3, pos := "job.go:37", after := #[{ on := 1, ground := Ground.data }], guard := none } : Oper) (by kernel_rfl) rfl (fun K hK => ?_)
        go_simp
        (go_at_call 56; (with_reducible refine (pused_any _ b bm l d hS.2.2.2.2.2.dk HG.out).mono ?_); rintro e w1 ⟨rfl, hb⟩; rw [HU.out])
        refine hK.out _ _ ?_ (fun hS1 => ?_)
        · (exact Jd.seven (hS.2.2.2.2.2.next hb))
        clear hK K hS; have hS := hS1; clear hS1
        (try simp only [Act.put, List.setIfInBounds_toArray, List.set_cons_zero, List.set_cons_succ])
        refine wpAnyH_take (i := 5) (oi := ({ dst := some 30, op := Op.binOp BinOp.add 3 (Operand.tmp 27) (Operand.tmp 29) 3, type := 3, pos := "job.go:37", after := #[{ on := 2, ground := Ground.data }, { on := 4, ground := Ground.data }], guard := none } : Oper)) (v := ?_) rfl (by kernel_rfl) (by kernel_rfl) (by kernel_rfl) (fun _ _ _ h => h) (Or.inl ⟨by rfl, ?_⟩) hS ?_
        rotate_left
        · (intro w hSw; (try dsimp only at hSw); go_simp; try with_reducible rfl)
        (try simp only [Act.put, List.setIfInBounds_toArray, List.set_cons_zero, List.set_cons_succ])
        refine wpAnyH_take (i := 11) (oi := ({ dst := some 36, op := Op.binOp BinOp.gtr 3 (Operand.tmp 30) (Operand.tmp 35) 3, type := 4, pos := "job.go:37", after := #[{ on := 5, ground := Ground.data }, { on := 10, ground := Ground.data }], guard := none } : Oper)) (v := .bool true) rfl (by kernel_rfl) (by kernel_rfl) (by kernel_rfl) (fun _ _ _ h => h) (Or.inl ⟨by rfl, ?_⟩) hS ?_
        · (intro w hSw; (try dsimp only at hSw); go_simp)
        (try simp only [Act.put, List.setIfInBounds_toArray, List.set_cons_zero, List.set_cons_succ])
        refine wpAnyH_take (i := 12) (oi := ({ dst := some 37, op := Op.move (Operand.tmp 36), type := 4, pos := "job.go:37", after := #[{ on := 11, ground := Ground.data }, { on := 2, ground := Ground.chain }], guard := none } : Oper)) (v := ?_) rfl (by kernel_rfl) (by kernel_rfl) (by kernel_rfl) (fun _ _ _ h => h) (Or.inl ⟨by rfl, ?_⟩) hS ?_
        rotate_left
        · (intro w hSw; (try dsimp only at hSw); go_simp; try with_reducible rfl)
        (try simp only [Act.put, List.setIfInBounds_toArray, List.set_cons_zero, List.set_cons_succ])
        refine wpAnyH_take (i := 13) (oi := ({ dst := some 38, op := Op.fieldAddr 67 (Operand.tmp 1) 0, type := 0, pos := "job.go:37", after := #[{ on := 12, ground := Ground.guard }], guard := some (12, false) } : Oper)) (v := undef) rfl (by kernel_rfl) (by kernel_rfl) (by kernel_rfl) (fun _ _ _ h => h) (Or.inr ⟨by rfl, rfl⟩) hS ?_
        (try simp only [Act.put, List.setIfInBounds_toArray, List.set_cons_zero, List.set_cons_succ])
        refine wpAnyH_take (i := 14) (oi := ({ dst := some 39, op := Op.load 24 (Operand.tmp 38), type := 24, pos := "job.go:37", after := #[{ on := 13, ground := Ground.data }, { on := 12, ground := Ground.guard }], guard := some (12, false) } : Oper)) (v := undef) rfl (by kernel_rfl) (by kernel_rfl) (by kernel_rfl) (fun _ _ _ h => h) (Or.inr ⟨by rfl, rfl⟩) hS ?_
        (try simp only [Act.put, List.setIfInBounds_toArray, List.set_cons_zero, List.set_cons_succ])
        refine wpAnyH_take (i := 15) (oi := ({ dst := some 40, op := Op.nilCheck (Operand.tmp 39), type := 0, pos := "job.go:37", after := #[{ on := 14, ground := Ground.data }, { on := 12, ground := Ground.guard }], guard := some (12, false) } : Oper)) (v := undef) rfl (by kernel_rfl) (by kernel_rfl) (by kernel_rfl) (fun _ _ _ h => h) (Or.inr ⟨by rfl, rfl⟩) hS ?_
        (try simp only [Act.put, List.setIfInBounds_toArray, List.set_cons_zero, List.set_cons_succ])
        refine wpAnyH_take (i := 16) (oi := ({ dst := some 41, op := Op.fieldAddr 55 (Operand.tmp 40) 1, type := 0, pos := "job.go:37", after := #[{ on := 15, ground := Ground.data }, { on := 12, ground := Ground.guard }], guard := some (12, false) } : Oper)) (v := undef) rfl (by kernel_rfl) (by kernel_rfl) (by kernel_rfl) (fun _ _ _ h => h) (Or.inr ⟨by rfl, rfl⟩) hS ?_
        (try simp only [Act.put, List.setIfInBounds_toArray, List.set_cons_zero, List.set_cons_succ])
        refine wpAnyH_take (i := 17) (oi := ({ dst := some 42, op := Op.load 53 (Operand.tmp 41), type := 53, pos := "job.go:37", after := #[{ on := 16, ground := Ground.data }, { on := 12, ground := Ground.guard }], guard := some (12, false) } : Oper)) (v := undef) rfl (by kernel_rfl) (by kernel_rfl) (by kernel_rfl) (fun _ _ _ h => h) (Or.inr ⟨by rfl, rfl⟩) hS ?_
        (try simp only [Act.put, List.setIfInBounds_toArray, List.set_cons_zero, List.set_cons_succ])
        refine wpAnyH_take (i := 18) (oi := ({ dst := some 43, op := Op.call { callee := Callee.builtin Builtin.len, args := #[Operand.tmp 42], argTypes := #[53] }, type := 3, pos := "job.go:37", after := #[{ on := 17, ground := Ground.data }, { on := 12, ground := Ground.chain }, { on := 12, ground := Ground.guard }], guard := some (12, false) } : Oper)) (v := undef) rfl (by kernel_rfl) (by kernel_rfl) (by kernel_rfl) (fun _ _ _ h => h) (Or.inr ⟨by rfl, rfl⟩) hS ?_
        (try simp only [Act.put, List.setIfInBounds_toArray, List.set_cons_zero, List.set_cons_succ])
        refine wpAnyH_take (i := 19) (oi := ({ dst := some 44, op := Op.binOp BinOp.geq 3 (Operand.tmp 43) (Operand.const (Value.int IntKind.i64 64)) 3, type := 4, pos := "job.go:37", after := #[{ on := 18, ground := Ground.data }, { on := 12, ground := Ground.guard }], guard := some (12, false) } : Oper)) (v := undef) rfl (by kernel_rfl) (by kernel_rfl) (by kernel_rfl) (fun _ _ _ h => h) (Or.inr ⟨by rfl, rfl⟩) hS ?_
        (try simp only [Act.put, List.setIfInBounds_toArray, List.set_cons_zero, List.set_cons_succ])
        refine wpAnyH_take (i := 20) (oi := ({ dst := some 45, op := Op.pick (Operand.tmp 37) (Operand.const (Value.bool true)) (Operand.tmp 44), type := 4, pos := "job.go:37", after := #[{ on := 12, ground := Ground.data }, { on := 19, ground := Ground.data }], guard := none } : Oper)) (v := ?_) rfl (by kernel_rfl) (by kernel_rfl) (by kernel_rfl) (fun _ _ _ h => h) (Or.inl ⟨by rfl, ?_⟩) hS ?_
        rotate_left
        · (intro w hSw; (try dsimp only at hSw); go_simp; try with_reducible rfl)
        (try simp only [Act.put, List.setIfInBounds_toArray, List.set_cons_zero, List.set_cons_succ])
        refine wpAnyH_take (i := 21) (oi := ({ dst := some 24, op := Op.assign (Operand.tmp 45), type := 4, pos := "job.go:37", after := #[{ on := 20, ground := Ground.data }, { on := 18, ground := Ground.chain }], guard := none } : Oper)) (v := ?_) rfl (by kernel_rfl) (by kernel_rfl) (by kernel_rfl) (fun _ _ _ h => h) (Or.inl ⟨by rfl, ?_⟩) hS ?_
        rotate_left
        · (intro w hSw; (try dsimp only at hSw); go_simp; try with_reducible rfl)
        (try simp only [Act.put, List.setIfInBounds_toArray, List.set_cons_zero, List.set_cons_succ])
        refine wpAnyH_done (by kernel_rfl) ?_ _
        have HB := Lib.hid hS.2.2.2.2.2.below
        clear hS
        go_wp2
        go_ret
        exact ⟨rfl, HB.out⟩
      have hd : decide (d.cap < (u : Int) + n) = false := decide_eq_false hf1
      by_cases hf2 : 64 ≤ l.length
      · rw [if_pos (.inr hf2)] at hy
        subst hy
        have hd2 : decide (64 ≤ (l.length : Int)) = true := decide_eq_true (by omega)
        clear h hs hg _hn hr hr2 hh hu2 hl
        go_enter Tryd.func35, Tryd.ntmps35
        go_wp2_with (first
          | (go_at_call 55; (with_reducible refine (right_any s _ HS.out).mono ?_); rintro e w2 ⟨rfl, rfl⟩; rw [HR.out])
          | (go_at_call 22; (with_reducible refine (psize_any _ b bm l d s HJ.out.dk HS.out).mono ?_); rintro e w1 ⟨rfl, rfl⟩; rw [HZ.out]))
        refine wp_region_held_drew (S := (fun w' => w'.cell? ⟨w.heap.size, 0, none⟩ = some (ptr ⟨b, 0, none⟩) ∧ w'.cell? ⟨w.heap.size, 1, none⟩ = some (.string s) ∧ w'.cell? ⟨w.heap.size, 4, none⟩ = some (.int .i64 n) ∧ w'.cell? ⟨b, 0, none⟩ = some (.int .i64 d.cap) ∧ w'.cell? ⟨b, 1, none⟩ = some (.map (some bm)) ∧ Jd w b bm l d s t x n (.slice a m c) w')) (by kernel_rfl) (Jd.seven HJ.out.drew) (fun hS => ?_)
        refine wpAnyH_take (i := 0) (oi := ({ dst := some 25, op := Op.fieldAddr 67 (Operand.tmp 1) 0, type := 0, pos := "job.go:37", after := #[], guard := none } : Oper)) (v := ?_) rfl (by kernel_rfl) (by kernel_rfl) (by kernel_rfl) (fun _ _ _ h => h) (Or.inl ⟨by rfl, ?_⟩) hS ?_
        rotate_left
        · (intro w hSw; (try dsimp only at hSw); go_simp; try with_reducible rfl)
        (try simp only [Act.put, List.setIfInBounds_toArray, List.set_cons_zero, List.set_cons_succ])
        refine wpAnyH_take (i := 1) (oi := ({ dst := some 26, op := Op.load 24 (Operand.tmp 25), type := 24, pos := "job.go:37", after := #[{ on := 0, ground := Ground.data }], guard := none } : Oper)) (v := ?_) rfl (by kernel_rfl) (by kernel_rfl) (by kernel_rfl) (fun _ _ _ h => h) (Or.inl ⟨by rfl, ?_⟩) hS ?_
        rotate_left
        · (intro w hSw; (try dsimp only at hSw); go_simp; try with_reducible rfl)
        (try simp only [Act.put, List.setIfInBounds_toArray, List.set_cons_zero, List.set_cons_succ])
        refine wpAnyH_take (i := 3) (oi := ({ dst := some 28, op := Op.fieldAddr 67 (Operand.tmp 1) 4, type := 0, pos := "job.go:37", after := #[], guard := none } : Oper)) (v := ?_) rfl (by kernel_rfl) (by kernel_rfl) (by kernel_rfl) (fun _ _ _ h => h) (Or.inl ⟨by rfl, ?_⟩) hS ?_
        rotate_left
        · (intro w hSw; (try dsimp only at hSw); go_simp; try with_reducible rfl)
        (try simp only [Act.put, List.setIfInBounds_toArray, List.set_cons_zero, List.set_cons_succ])
        refine wpAnyH_take (i := 4) (oi := ({ dst := some 29, op := Op.load 3 (Operand.tmp 28), type := 3, pos := "job.go:37", after := #[{ on := 3, ground := Ground.data }], guard := none } : Oper)) (v := ?_) rfl (by kernel_rfl) (by kernel_rfl) (by kernel_rfl) (fun _ _ _ h => h) (Or.inl ⟨by rfl, ?_⟩) hS ?_
        rotate_left
        · (intro w hSw; (try dsimp only at hSw); go_simp; try with_reducible rfl)
        (try simp only [Act.put, List.setIfInBounds_toArray, List.set_cons_zero, List.set_cons_succ])
        refine wpAnyH_take (i := 6) (oi := ({ dst := some 31, op := Op.fieldAddr 67 (Operand.tmp 1) 0, type := 0, pos := "job.go:37", after := #[], guard := none } : Oper)) (v := ?_) rfl (by kernel_rfl) (by kernel_rfl) (by kernel_rfl) (fun _ _ _ h => h) (Or.inl ⟨by rfl, ?_⟩) hS ?_
        rotate_left
        · (intro w hSw; (try dsimp only at hSw); go_simp; try with_reducible rfl)
        (try simp only [Act.put, List.setIfInBounds_toArray, List.set_cons_zero, List.set_cons_succ])
        refine wpAnyH_take (i := 7) (oi := ({ dst := some 32, op := Op.load 24 (Operand.tmp 31), type := 24, pos := "job.go:37", after := #[{ on := 6, ground := Ground.data }], guard := none } : Oper)) (v := ?_) rfl (by kernel_rfl) (by kernel_rfl) (by kernel_rfl) (fun _ _ _ h => h) (Or.inl ⟨by rfl, ?_⟩) hS ?_
        rotate_left
        · (intro w hSw; (try dsimp only at hSw); go_simp; try with_reducible rfl)
        (try simp only [Act.put, List.setIfInBounds_toArray, List.set_cons_zero, List.set_cons_succ])
        refine wpAnyH_take (i := 8) (oi := ({ dst := some 33, op := Op.nilCheck (Operand.tmp 32), type := 0, pos := "job.go:37", after := #[{ on := 7, ground := Ground.data }], guard := none } : Oper)) (v := ?_) rfl (by kernel_rfl) (by kernel_rfl) (by kernel_rfl) (fun _ _ _ h => h) (Or.inl ⟨by rfl, ?_⟩) hS ?_
        rotate_left
        · (intro w hSw; (try dsimp only at hSw); go_simp; try with_reducible rfl)
        (try simp only [Act.put, List.setIfInBounds_toArray, List.set_cons_zero, List.set_cons_succ])
        refine wpAnyH_take (i := 9) (oi := ({ dst := some 34, op := Op.fieldAddr 55 (Operand.tmp 33) 0, type := 0, pos := "job.go:37", after := #[{ on := 8, ground := Ground.data }], guard := none } : Oper)) (v := ?_) rfl (by kernel_rfl) (by kernel_rfl) (by kernel_rfl) (fun _ _ _ h => h) (Or.inl ⟨by rfl, ?_⟩) hS ?_
        rotate_left
        · (intro w hSw; (try dsimp only at hSw); go_simp; try with_reducible rfl)
        (try simp only [Act.put, List.setIfInBounds_toArray, List.set_cons_zero, List.set_cons_succ])
        refine wpAnyH_take (i := 10) (oi := ({ dst := some 35, op := Op.load 3 (Operand.tmp 34), type := 3, pos := "job.go:37", after := #[{ on := 9, ground := Ground.data }], guard := none } : Oper)) (v := ?_) rfl (by kernel_rfl) (by kernel_rfl) (by kernel_rfl) (fun _ _ _ h => h) (Or.inl ⟨by rfl, ?_⟩) hS ?_
        rotate_left
        · (intro w hSw; (try dsimp only at hSw); go_simp; try with_reducible rfl)
        (try simp only [Act.put, List.setIfInBounds_toArray, List.set_cons_zero, List.set_cons_succ])
        refine rg_one 2 ({ dst := some 27, op := Op.call { callee := Callee.value (Operand.func 56), args := #[Operand.tmp 26], argTypes := #[24] }, type := 3, pos := "job.go:37", after := #[{ on := 1, ground := Ground.data }], guard := none } : Oper) (by kernel_rfl) rfl (fun K hK => ?_)
        go_simp
        (go_at_call 56; (with_reducible refine (pused_any _ b bm l d hS.2.2.2.2.2.dk HG.out).mono ?_); rintro e w1 ⟨rfl, hb⟩; rw [HU.out])
        refine hK.out _ _ ?_ (fun hS1 => ?_)
        · (exact Jd.seven (hS.2.2.2.2.2.next hb))
        clear hK K hS; have hS := hS1; clear hS1
        (try simp only [Act.put, List.setIfInBounds_toArray, List.set_cons_zero, List.set_cons_succ])
        refine wpAnyH_take (i := 5) (oi := ({ dst := some 30, op := Op.binOp BinOp.add 3 (Operand.tmp 27) (Operand.tmp 29) 3, type := 3, pos := "job.go:37", after := #[{ on := 2, ground := Ground.data }, { on := 4, ground := Ground.data }], guard := none } : Oper)) (v := ?_) rfl (by kernel_rfl) (by kernel_rfl) (by kernel_rfl) (fun _ _ _ h => h) (Or.inl ⟨by rfl, ?_⟩) hS ?_
        rotate_left
        · (intro w hSw; (try dsimp only at hSw); go_simp; try with_reducible rfl)
        (try simp only [Act.put, List.setIfInBounds_toArray, List.set_cons_zero, List.set_cons_succ])
        refine wpAnyH_take (i := 11) (oi := ({ dst := some 36, op := Op.binOp BinOp.gtr 3 (Operand.tmp 30) (Operand.tmp 35) 3, type := 4, pos := "job.go:37", after := #[{ on := 5, ground := Ground.data }, { on := 10, ground := Ground.data }], guard := none } : Oper)) (v := .bool false) rfl (by kernel_rfl) (by kernel_rfl) (by kernel_rfl) (fun _ _ _ h => h) (Or.inl ⟨by rfl, ?_⟩) hS ?_
        · (intro w hSw; (try dsimp only at hSw); go_simp)
        (try simp only [Act.put, List.setIfInBounds_toArray, List.set_cons_zero, List.set_cons_succ])
        refine wpAnyH_take (i := 12) (oi := ({ dst := some 37, op := Op.move (Operand.tmp 36), type := 4, pos := "job.go:37", after := #[{ on := 11, ground := Ground.data }, { on := 2, ground := Ground.chain }], guard := none } : Oper)) (v := ?_) rfl (by kernel_rfl) (by kernel_rfl) (by kernel_rfl) (fun _ _ _ h => h) (Or.inl ⟨by rfl, ?_⟩) hS ?_
        rotate_left
        · (intro w hSw; (try dsimp only at hSw); go_simp; try with_reducible rfl)
        (try simp only [Act.put, List.setIfInBounds_toArray, List.set_cons_zero, List.set_cons_succ])
        refine wpAnyH_take (i := 13) (oi := ({ dst := some 38, op := Op.fieldAddr 67 (Operand.tmp 1) 0, type := 0, pos := "job.go:37", after := #[{ on := 12, ground := Ground.guard }], guard := some (12, false) } : Oper)) (v := ?_) rfl (by kernel_rfl) (by kernel_rfl) (by kernel_rfl) (fun _ _ _ h => h) (Or.inl ⟨by rfl, ?_⟩) hS ?_
        rotate_left
        · (intro w hSw; (try dsimp only at hSw); go_simp; try with_reducible rfl)
        (try simp only [Act.put, List.setIfInBounds_toArray, List.set_cons_zero, List.set_cons_succ])
        refine wpAnyH_take (i := 14) (oi := ({ dst := some 39, op := Op.load 24 (Operand.tmp 38), type := 24, pos := "job.go:37", after := #[{ on := 13, ground := Ground.data }, { on := 12, ground := Ground.guard }], guard := some (12, false) } : Oper)) (v := ?_) rfl (by kernel_rfl) (by kernel_rfl) (by kernel_rfl) (fun _ _ _ h => h) (Or.inl ⟨by rfl, ?_⟩) hS ?_
        rotate_left
        · (intro w hSw; (try dsimp only at hSw); go_simp; try with_reducible rfl)
        (try simp only [Act.put, List.setIfInBounds_toArray, List.set_cons_zero, List.set_cons_succ])
        refine wpAnyH_take (i := 15) (oi := ({ dst := some 40, op := Op.nilCheck (Operand.tmp 39), type := 0, pos := "job.go:37", after := #[{ on := 14, ground := Ground.data }, { on := 12, ground := Ground.guard }], guard := some (12, false) } : Oper)) (v := ?_) rfl (by kernel_rfl) (by kernel_rfl) (by kernel_rfl) (fun _ _ _ h => h) (Or.inl ⟨by rfl, ?_⟩) hS ?_
        rotate_left
        · (intro w hSw; (try dsimp only at hSw); go_simp; try with_reducible rfl)
        (try simp only [Act.put, List.setIfInBounds_toArray, List.set_cons_zero, List.set_cons_succ])
        refine wpAnyH_take (i := 16) (oi := ({ dst := some 41, op := Op.fieldAddr 55 (Operand.tmp 40) 1, type := 0, pos := "job.go:37", after := #[{ on := 15, ground := Ground.data }, { on := 12, ground := Ground.guard }], guard := some (12, false) } : Oper)) (v := ?_) rfl (by kernel_rfl) (by kernel_rfl) (by kernel_rfl) (fun _ _ _ h => h) (Or.inl ⟨by rfl, ?_⟩) hS ?_
        rotate_left
        · (intro w hSw; (try dsimp only at hSw); go_simp; try with_reducible rfl)
        (try simp only [Act.put, List.setIfInBounds_toArray, List.set_cons_zero, List.set_cons_succ])
        refine wpAnyH_take (i := 17) (oi := ({ dst := some 42, op := Op.load 53 (Operand.tmp 41), type := 53, pos := "job.go:37", after := #[{ on := 16, ground := Ground.data }, { on := 12, ground := Ground.guard }], guard := some (12, false) } : Oper)) (v := ?_) rfl (by kernel_rfl) (by kernel_rfl) (by kernel_rfl) (fun _ _ _ h => h) (Or.inl ⟨by rfl, ?_⟩) hS ?_
        rotate_left
        · (intro w hSw; (try dsimp only at hSw); go_simp; try with_reducible rfl)
        (try simp only [Act.put, List.setIfInBounds_toArray, List.set_cons_zero, List.set_cons_succ])
        refine wpAnyH_take (i := 18) (oi := ({ dst := some 43, op := Op.call { callee := Callee.builtin Builtin.len, args := #[Operand.tmp 42], argTypes := #[53] }, type := 3, pos := "job.go:37", after := #[{ on := 17, ground := Ground.data }, { on := 12, ground := Ground.chain }, { on := 12, ground := Ground.guard }], guard := some (12, false) } : Oper)) (v := .int .i64 l.length) rfl (by kernel_rfl) (by kernel_rfl) (by kernel_rfl) (fun _ _ _ h => h) (Or.inl ⟨by rfl, ?_⟩) hS ?_
        · (intro w hSw; (try dsimp only at hSw); exact exec_mlen (.tmp 42) 53 rfl 9 83 Tryd.underlying53 bm l rfl hSw.2.2.2.2.2.dk.map)
        (try simp only [Act.put, List.setIfInBounds_toArray, List.set_cons_zero, List.set_cons_succ])
        refine wpAnyH_take (i := 19) (oi := ({ dst := some 44, op := Op.binOp BinOp.geq 3 (Operand.tmp 43) (Operand.const (Value.int IntKind.i64 64)) 3, type := 4, pos := "job.go:37", after := #[{ on := 18, ground := Ground.data }, { on := 12, ground := Ground.guard }], guard := some (12, false) } : Oper)) (v := .bool true) rfl (by kernel_rfl) (by kernel_rfl) (by kernel_rfl) (fun _ _ _ h => h) (Or.inl ⟨by rfl, ?_⟩) hS ?_
        · (intro w hSw; (try dsimp only at hSw); go_simp)
        (try simp only [Act.put, List.setIfInBounds_toArray, List.set_cons_zero, List.set_cons_succ])
        refine wpAnyH_take (i := 20) (oi := ({ dst := some 45, op := Op.pick (Operand.tmp 37) (Operand.const (Value.bool true)) (Operand.tmp 44), type := 4, pos := "job.go:37", after := #[{ on := 12, ground := Ground.data }, { on := 19, ground := Ground.data }], guard := none } : Oper)) (v := ?_) rfl (by kernel_rfl) (by kernel_rfl) (by kernel_rfl) (fun _ _ _ h => h) (Or.inl ⟨by rfl, ?_⟩) hS ?_
        rotate_left
        · (intro w hSw; (try dsimp only at hSw); go_simp; try with_reducible rfl)
        (try simp only [Act.put, List.setIfInBounds_toArray, List.set_cons_zero, List.set_cons_succ])
        refine wpAnyH_take (i := 21) (oi := ({ dst := some 24, op := Op.assign (Operand.tmp 45), type := 4, pos := "job.go:37", after := #[{ on := 20, ground := Ground.data }, { on := 18, ground := Ground.chain }], guard := none } : Oper)) (v := ?_) rfl (by kernel_rfl) (by kernel_rfl) (by kernel_rfl) (fun _ _ _ h => h) (Or.inl ⟨by rfl, ?_⟩) hS ?_
        rotate_left
        · (intro w hSw; (try dsimp only at hSw); go_simp; try with_reducible rfl)
        (try simp only [Act.put, List.setIfInBounds_toArray, List.set_cons_zero, List.set_cons_succ])
        refine wpAnyH_done (by kernel_rfl) ?_ _
        have HB := Lib.hid hS.2.2.2.2.2.below
        clear hS
        go_wp2
        go_ret
        exact ⟨rfl, HB.out⟩
      · rw [if_neg (by omega)] at hy
        subst hy
        have hd2 : decide (64 ≤ (l.length : Int)) = false := decide_eq_false (by omega)
        clear h hs hg _hn hr hr2 hh hu2 hl
        go_enter Tryd.func35, Tryd.ntmps35
        go_wp2_with (first
          | (go_at_call 55; (with_reducible refine (right_any s _ HS.out).mono ?_); rintro e w2 ⟨rfl, rfl⟩; rw [HR.out])
          | (go_at_call 22; (with_reducible refine (psize_any _ b bm l d s HJ.out.dk HS.out).mono ?_); rintro e w1 ⟨rfl, rfl⟩; rw [HZ.out]))
        refine wp_region_held_drew (S := (fun w' => w'.cell? ⟨w.heap.size, 0, none⟩ = some (ptr ⟨b, 0, none⟩) ∧ w'.cell? ⟨w.heap.size, 1, none⟩ = some (.string s) ∧ w'.cell? ⟨w.heap.size, 4, none⟩ = some (.int .i64 n) ∧ w'.cell? ⟨b, 0, none⟩ = some (.int .i64 d.cap) ∧ w'.cell? ⟨b, 1, none⟩ = some (.map (some bm)) ∧ Jd w b bm l d s t x n (.slice a m c) w')) (by kernel_rfl) (Jd.seven HJ.out.drew) (fun hS => ?_)
        refine wpAnyH_take (i := 0) (oi := ({ dst := some 25, op := Op.fieldAddr 67 (Operand.tmp 1) 0, type := 0, pos := "job.go:37", after := #[], guard := none } : Oper)) (v := ?_) rfl (by kernel_rfl) (by kernel_rfl) (by kernel_rfl) (fun _ _ _ h => h) (Or.inl ⟨by rfl, ?_⟩) hS ?_
        rotate_left
        · (intro w hSw; (try dsimp only at hSw); go_simp; try with_reducible rfl)
        (try simp only [Act.put, List.setIfInBounds_toArray, List.set_cons_zero, List.set_cons_succ])
        refine wpAnyH_take (i := 1) (oi := ({ dst := some 26, op := Op.load 24 (Operand.tmp 25), type := 24, pos := "job.go:37", after := #[{ on := 0, ground := Ground.data }], guard := none } : Oper)) (v := ?_) rfl (by kernel_rfl) (by kernel_rfl) (by kernel_rfl) (fun _ _ _ h => h) (Or.inl ⟨by rfl, ?_⟩) hS ?_
        rotate_left
        · (intro w hSw; (try dsimp only at hSw); go_simp; try with_reducible rfl)
        (try simp only [Act.put, List.setIfInBounds_toArray, List.set_cons_zero, List.set_cons_succ])
        refine wpAnyH_take (i := 3) (oi := ({ dst := some 28, op := Op.fieldAddr 67 (Operand.tmp 1) 4, type := 0, pos := "job.go:37", after := #[], guard := none } : Oper)) (v := ?_) rfl (by kernel_rfl) (by kernel_rfl) (by kernel_rfl) (fun _ _ _ h => h) (Or.inl ⟨by rfl, ?_⟩) hS ?_
        rotate_left
        · (intro w hSw; (try dsimp only at hSw); go_simp; try with_reducible rfl)
        (try simp only [Act.put, List.setIfInBounds_toArray, List.set_cons_zero, List.set_cons_succ])
        refine wpAnyH_take (i := 4) (oi := ({ dst := some 29, op := Op.load 3 (Operand.tmp 28), type := 3, pos := "job.go:37", after := #[{ on := 3, ground := Ground.data }], guard := none } : Oper)) (v := ?_) rfl (by kernel_rfl) (by kernel_rfl) (by kernel_rfl) (fun _ _ _ h => h) (Or.inl ⟨by rfl, ?_⟩) hS ?_
        rotate_left
        · (intro w hSw; (try dsimp only at hSw); go_simp; try with_reducible rfl)
        (try simp only [Act.put, List.setIfInBounds_toArray, List.set_cons_zero, List.set_cons_succ])
        refine wpAnyH_take (i := 6) (oi := ({ dst := some 31, op := Op.fieldAddr 67 (Operand.tmp 1) 0, type := 0, pos := "job.go:37", after := #[], guard := none } : Oper)) (v := ?_) rfl (by kernel_rfl) (by kernel_rfl) (by kernel_rfl) (fun _ _ _ h => h) (Or.inl ⟨by rfl, ?_⟩) hS ?_
        rotate_left
        · (intro w hSw; (try dsimp only at hSw); go_simp; try with_reducible rfl)
        (try simp only [Act.put, List.setIfInBounds_toArray, List.set_cons_zero, List.set_cons_succ])
        refine wpAnyH_take (i := 7) (oi := ({ dst := some 32, op := Op.load 24 (Operand.tmp 31), type := 24, pos := "job.go:37", after := #[{ on := 6, ground := Ground.data }], guard := none } : Oper)) (v := ?_) rfl (by kernel_rfl) (by kernel_rfl) (by kernel_rfl) (fun _ _ _ h => h) (Or.inl ⟨by rfl, ?_⟩) hS ?_
        rotate_left
        · (intro w hSw; (try dsimp only at hSw); go_simp; try with_reducible rfl)
        (try simp only [Act.put, List.setIfInBounds_toArray, List.set_cons_zero, List.set_cons_succ])
        refine wpAnyH_take (i := 8) (oi := ({ dst := some 33, op := Op.nilCheck (Operand.tmp 32), type := 0, pos := "job.go:37", after := #[{ on := 7, ground := Ground.data }], guard := none } : Oper)) (v := ?_) rfl (by kernel_rfl) (by kernel_rfl) (by kernel_rfl) (fun _ _ _ h => h) (Or.inl ⟨by rfl, ?_⟩) hS ?_
        rotate_left
        · (intro w hSw; (try dsimp only at hSw); go_simp; try with_reducible rfl)
        (try simp only [Act.put, List.setIfInBounds_toArray, List.set_cons_zero, List.set_cons_succ])
        refine wpAnyH_take (i := 9) (oi := ({ dst := some 34, op := Op.fieldAddr 55 (Operand.tmp 33) 0, type := 0, pos := "job.go:37", after := #[{ on := 8, ground := Ground.data }], guard := none } : Oper)) (v := ?_) rfl (by kernel_rfl) (by kernel_rfl) (by kernel_rfl) (fun _ _ _ h => h) (Or.inl ⟨by rfl, ?_⟩) hS ?_
        rotate_left
        · (intro w hSw; (try dsimp only at hSw); go_simp; try with_reducible rfl)
        (try simp only [Act.put, List.setIfInBounds_toArray, List.set_cons_zero, List.set_cons_succ])
        refine wpAnyH_take (i := 10) (oi := ({ dst := some 35, op := Op.load 3 (Operand.tmp 34), type := 3, pos := "job.go:37", after := #[{ on := 9, ground := Ground.data }], guard := none } : Oper)) (v := ?_) rfl (by kernel_rfl) (by kernel_rfl) (by kernel_rfl) (fun _ _ _ h => h) (Or.inl ⟨by rfl, ?_⟩) hS ?_
        rotate_left
        · (intro w hSw; (try dsimp only at hSw); go_simp; try with_reducible rfl)
        (try simp only [Act.put, List.setIfInBounds_toArray, List.set_cons_zero, List.set_cons_succ])
        refine rg_one 2 ({ dst := some 27, op := Op.call { callee := Callee.value (Operand.func 56), args := #[Operand.tmp 26], argTypes := #[24] }, type := 3, pos := "job.go:37", after := #[{ on := 1, ground := Ground.data }], guard := none } : Oper) (by kernel_rfl) rfl (fun K hK => ?_)
        go_simp
        (go_at_call 56; (with_reducible refine (pused_any _ b bm l d hS.2.2.2.2.2.dk HG.out).mono ?_); rintro e w1 ⟨rfl, hb⟩; rw [HU.out])
        refine hK.out _ _ ?_ (fun hS1 => ?_)
        · (exact Jd.seven (hS.2.2.2.2.2.next hb))
        clear hK K hS; have hS := hS1; clear hS1
        (try simp only [Act.put, List.setIfInBounds_toArray, List.set_cons_zero, List.set_cons_succ])
        refine wpAnyH_take (i := 5) (oi := ({ dst := some 30, op := Op.binOp BinOp.add 3 (Operand.tmp 27) (Operand.tmp 29) 3, type := 3, pos := "job.go:37", after := #[{ on := 2, ground := Ground.data }, { on := 4, ground := Ground.data }], guard := none } : Oper)) (v := ?_) rfl (by kernel_rfl) (by kernel_rfl) (by kernel_rfl) (fun _ _ _ h => h) (Or.inl ⟨by rfl, ?_⟩) hS ?_
        rotate_left
        · (intro w hSw; (try dsimp only at hSw); go_simp; try with_reducible rfl)
        (try simp only [Act.put, List.setIfInBounds_toArray, List.set_cons_zero, List.set_cons_succ])
        refine wpAnyH_take (i := 11) (oi := ({ dst := some 36, op := Op.binOp BinOp.gtr 3 (Operand.tmp 30) (Operand.tmp 35) 3, type := 4, pos := "job.go:37", after := #[{ on := 5, ground := Ground.data }, { on := 10, ground := Ground.data }], guard := none } : Oper)) (v := .bool false) rfl (by kernel_rfl) (by kernel_rfl) (by kernel_rfl) (fun _ _ _ h => h) (Or.inl ⟨by rfl, ?_⟩) hS ?_
        · (intro w hSw; (try dsimp only at hSw); go_simp)
        (try simp only [Act.put, List.setIfInBounds_toArray, List.set_cons_zero, List.set_cons_succ])
        refine wpAnyH_take (i := 12) (oi := ({ dst := some 37, op := Op.move (Operand.tmp 36), type := 4, pos := "job.go:37", after := #[{ on := 11, ground := Ground.data }, { on := 2, ground := Ground.chain }], guard := none } : Oper)) (v := ?_) rfl (by kernel_rfl) (by kernel_rfl) (by kernel_rfl) (fun _ _ _ h => h) (Or.inl ⟨by rfl, ?_⟩) hS ?_
        rotate_left
        · (intro w hSw; (try dsimp only at hSw); go_simp; try with_reducible rfl)
        (try simp only [Act.put, List.setIfInBounds_toArray, List.set_cons_zero, List.set_cons_succ])
        refine wpAnyH_take (i := 13) (oi := ({ dst := some 38, op := Op.fieldAddr 67 (Operand.tmp 1) 0, type := 0, pos := "job.go:37", after := #[{ on := 12, ground := Ground.guard }], guard := some (12, false) } : Oper)) (v := ?_) rfl (by kernel_rfl) (by kernel_rfl) (by kernel_rfl) (fun _ _ _ h => h) (Or.inl ⟨by rfl, ?_⟩) hS ?_
        rotate_left
        · (intro w hSw; (try dsimp only at hSw); go_simp; try with_reducible rfl)
        (try simp only [Act.put, List.setIfInBounds_toArray, List.set_cons_zero, List.set_cons_succ])
        refine wpAnyH_take (i := 14) (oi := ({ dst := some 39, op := Op.load 24 (Operand.tmp 38), type := 24, pos := "job.go:37", after := #[{ on := 13, ground := Ground.data }, { on := 12, ground := Ground.guard }], guard := some (12, false) } : Oper)) (v := ?_) rfl (by kernel_rfl) (by kernel_rfl) (by kernel_rfl) (fun _ _ _ h => h) (Or.inl ⟨by rfl, ?_⟩) hS ?_
        rotate_left
        · (intro w hSw; (try dsimp only at hSw); go_simp; try with_reducible rfl)
        (try simp only [Act.put, List.setIfInBounds_toArray, List.set_cons_zero, List.set_cons_succ])
        refine wpAnyH_take (i := 15) (oi := ({ dst := some 40, op := Op.nilCheck (Operand.tmp 39), type := 0, pos := "job.go:37", after := #[{ on := 14, ground := Ground.data }, { on := 12, ground := Ground.guard }], guard := some (12, false) } : Oper)) (v := ?_) rfl (by kernel_rfl) (by kernel_rfl) (by kernel_rfl) (fun _ _ _ h => h) (Or.inl ⟨by rfl, ?_⟩) hS ?_
        rotate_left
        · (intro w hSw; (try dsimp only at hSw); go_simp; try with_reducible rfl)
        (try simp only [Act.put, List.setIfInBounds_toArray, List.set_cons_zero, List.set_cons_succ])
        refine wpAnyH_take (i := 16) (oi := ({ dst := some 41, op := Op.fieldAddr 55 (Operand.tmp 40) 1, type := 0, pos := "job.go:37", after := #[{ on := 15, ground := Ground.data }, { on := 12, ground := Ground.guard }], guard := some (12, false) } : Oper)) (v := ?_) rfl (by kernel_rfl) (by kernel_rfl) (by kernel_rfl) (fun _ _ _ h => h) (Or.inl ⟨by rfl, ?_⟩) hS ?_
        rotate_left
        · (intro w hSw; (try dsimp only at hSw); go_simp; try with_reducible rfl)
        (try simp only [Act.put, List.setIfInBounds_toArray, List.set_cons_zero, List.set_cons_succ])
        refine wpAnyH_take (i := 17) (oi := ({ dst := some 42, op := Op.load 53 (Operand.tmp 41), type := 53, pos := "job.go:37", after := #[{ on := 16, ground := Ground.data }, { on := 12, ground := Ground.guard }], guard := some (12, false) } : Oper)) (v := ?_) rfl (by kernel_rfl) (by kernel_rfl) (by kernel_rfl) (fun _ _ _ h => h) (Or.inl ⟨by rfl, ?_⟩) hS ?_
        rotate_left
        · (intro w hSw; (try dsimp only at hSw); go_simp; try with_reducible rfl)
        (try simp only [Act.put, List.setIfInBounds_toArray, List.set_cons_zero, List.set_cons_succ])
        refine wpAnyH_take (i := 18) (oi := ({ dst := some 43, op := Op.call { callee := Callee.builtin Builtin.len, args := #[Operand.tmp 42], argTypes := #[53] }, type := 3, pos := "job.go:37", after := #[{ on := 17, ground := Ground.data }, { on := 12, ground := Ground.chain }, { on := 12, ground := Ground.guard }], guard := some (12, false) } : Oper)) (v := .int .i64 l.length) rfl (by kernel_rfl) (by kernel_rfl) (by kernel_rfl) (fun _ _ _ h => h) (Or.inl ⟨by rfl, ?_⟩) hS ?_
        · (intro w hSw; (try dsimp only at hSw); exact exec_mlen (.tmp 42) 53 rfl 9 83 Tryd.underlying53 bm l rfl hSw.2.2.2.2.2.dk.map)
        (try simp only [Act.put, List.setIfInBounds_toArray, List.set_cons_zero, List.set_cons_succ])
        refine wpAnyH_take (i := 19) (oi := ({ dst := some 44, op := Op.binOp BinOp.geq 3 (Operand.tmp 43) (Operand.const (Value.int IntKind.i64 64)) 3, type := 4, pos := "job.go:37", after := #[{ on := 18, ground := Ground.data }, { on := 12, ground := Ground.guard }], guard := some (12, false) } : Oper)) (v := .bool false) rfl (by kernel_rfl) (by kernel_rfl) (by kernel_rfl) (fun _ _ _ h => h) (Or.inl ⟨by rfl, ?_⟩) hS ?_
        · (intro w hSw; (try dsimp only at hSw); go_simp)
        (try simp only [Act.put, List.setIfInBounds_toArray, List.set_cons_zero, List.set_cons_succ])
        refine wpAnyH_take (i := 20) (oi := ({ dst := some 45, op := Op.pick (Operand.tmp 37) (Operand.const (Value.bool true)) (Operand.tmp 44), type := 4, pos := "job.go:37", after := #[{ on := 12, ground := Ground.data }, { on := 19, ground := Ground.data }], guard := none } : Oper)) (v := ?_) rfl (by kernel_rfl) (by kernel_rfl) (by kernel_rfl) (fun _ _ _ h => h) (Or.inl ⟨by rfl, ?_⟩) hS ?_
        rotate_left
        · (intro w hSw; (try dsimp only at hSw); go_simp; try with_reducible rfl)
        (try simp only [Act.put, List.setIfInBounds_toArray, List.set_cons_zero, List.set_cons_succ])
        refine wpAnyH_take (i := 21) (oi := ({ dst := some 24, op := Op.assign (Operand.tmp 45), type := 4, pos := "job.go:37", after := #[{ on := 20, ground := Ground.data }, { on := 18, ground := Ground.chain }], guard := none } : Oper)) (v := ?_) rfl (by kernel_rfl) (by kernel_rfl) (by kernel_rfl) (fun _ _ _ h => h) (Or.inl ⟨by rfl, ?_⟩) hS ?_
        rotate_left
        · (intro w hSw; (try dsimp only at hSw); go_simp; try with_reducible rfl)
        (try simp only [Act.put, List.setIfInBounds_toArray, List.set_cons_zero, List.set_cons_succ])
        refine wpAnyH_done (by kernel_rfl) ?_ _
        have HB := Lib.hid hS.2.2.2.2.2.below
        clear hS
        go_wp2
        go_ret
        exact ⟨rfl, HB.out⟩
end Go.Proofs.YtoempaagpgoilaaDoor
/-
  LAYER 8 (disk), the program's own disk: List: the names, collected in whatever order, then sorted by the library. No condition.
-/
namespace Go.Proofs.YtoempaagpgoilaaDoor
open Go.RowKit Go.Sort
def MF.key (x : MF) : List UInt8 := x.f.name.data.toList
theorem key_enc (x : MF) : encStr x.key = .string x.f.name := by
  unfold encStr MF.key
  congr 1
theorem key_le (x y : MF) (h : gtN y.f.name x.f.name = true) : x.key ≤ y.key := by
  have h1 := (gtN_iff _ _).1 h
  rw [Lib.toList_data, Lib.toList_data] at h1
  exact List.le_of_lt h1
/-- what was collected, sorted, are the names as they rise -/
theorem keys_sorted {l : List MF} (ha : Asc (l.map MF.f)) {ss : List (List UInt8)} (hp : ss.Perm (l.map MF.key)) : (ss.mergeSort fun x y => decide (x ≤ y)) = l.map MF.key := by
  refine (mergeSort_of_perm hp).trans ?_
  refine List.mergeSort_of_pairwise ?_
  rw [List.pairwise_map]
  unfold Asc at ha
  rw [List.pairwise_map] at ha
  exact ha.imp fun h => by simpa [leB] using key_le _ _ h
theorem own_ne_iter {w : World} {base size : Nat} {e : TypeId} {v : Value} {n : Nat} {xs : List Value} {bm r cnt : Nat} {l todo : List MF} (h : w.ownsRow base e size v n xs) (hr : RPk w bm r l todo cnt) : ∀ g, v.ownBlock = some g → some g ≠ some r := fun g hg e1 => by
  obtain rfl := Option.some.inj e1
  rcases h.2 with ⟨rfl, _⟩ | ⟨q, cap, cur, rfl, _, hb, _⟩
  · simp [Value.ownBlock] at hg
  · simp only [Value.ownBlock, Option.some.injEq] at hg
    subst hg
    exact hr.iter _ _ _ hb
theorem own_ne_iter' {w : World} {base size : Nat} {e : TypeId} {v : Value} {n : Nat} {xs : List Value} {bm r cnt : Nat} {l todo : List MF} (h : w.ownsRow base e size v n xs) (hr : RPk w bm r l todo cnt) : some r ≠ v.ownBlock := fun e1 => own_ne_iter h hr r e1.symm rfl
set_option maxRecDepth 8000 in
set_option maxHeartbeats 1000000 in
theorem plist_any (w : World) (b bm : Nat) (l : List MF) (d : AD) (h : Dk w b bm l d) (hg : Good d) :
    Calls Tryd.prog 58 #[ptr ⟨b, 0, none⟩] w fun e w' => ∃ v, e = .returned v ∧ SS w' v d.names ∧ Below w.heap.size w w' := by
  have HN := Lib.hid (h.names hg)
  have HA := Lib.hid (show Asc (l.map MF.f) by rw [← h.files]; exact hg.asc)
  have hl : l.length ≤ 64 := by have := hg.few; rwa [h.files, List.length_map] at this
  have HNM : Hid (d.names = l.map MF.nm) := Lib.hid (by unfold AD.names; rw [h.files, List.map_map]; rfl)
  have HM := Lib.hid h.map
  have HBM := Lib.hid h.map.lt
  obtain ⟨fl, lf, hb, _⟩ := h.blk
  obtain ⟨c0, c1, c2, c3, c4, c5⟩ := hb.cells
  clear hb h hg
  go_enter Tryd.func58, Tryd.ntmps58
  go_wp2_with (first
    | (refine wpl_range rfl (.tmp 10) 53 rfl 9 83 Tryd.underlying9 Tryd.underlying53 bm l rfl HM.out ?_; intro w0 HR0 hG0 HS0; have HB0 := Lib.hid ((Below.refl w.heap.size w).grown hG0.out (Nat.le_refl _) (by simp)); clear hG0))
  go_frame
  go_loopw [3] (fun v wr => ∃ (todo : List MF) (cnt : Nat) (ss : List (List UInt8)), Hid (RPk wr bm w.heap.size l todo cnt) ∧ Hid (wr.ownsRow w.heap.size 9 1 v ss.length (ss.map encStr)) ∧ Hid ((ss ++ todo.map MF.key).Perm (l.map MF.key)) ∧ Hid (Below w.heap.size w wr)) (fun _ wr => wr.rangeLeft bm w.heap.size)
  case atStart => exact ⟨l, l.length, [], HR0, ⟨rfl, .inl ⟨rfl, rfl⟩⟩, Lib.hid (List.Perm.refl _), HB0⟩
  case round =>
    obtain ⟨todo, cnt, ss, HR, HO, HP, HB⟩ := hrel
    go_wp2_with (first
      | (refine wpl_next secE rfl (.tmp 11) rfl 9 Tryd.underlying9 bm w.heap.size l todo cnt rfl HR.out ?_ ?_))
    · intro h0
      subst h0
      have hp : ss.Perm (l.map MF.key) := by have := HP.out; simpa using this
      have hsl : ss.length = l.length := by rw [hp.length_eq, List.length_map]
      have hks := keys_sorted HA.out hp
      rcases HO.out.2 with ⟨rfl, hnil⟩ | ⟨g, cap, cur, rfl, hbase, hb, h1, h2, h3, h4⟩
      · have hc := Tryd.slices_Sort_string_none none 0 wr
        have h0 : l = [] := List.length_eq_zero_iff.1 (by omega)
        have HSS := Lib.hid (show SS wr (.slice none 0 0) d.names by
          rw [HNM.out, h0]; exact CS.nil 1 wr)
        clear HO hks hsl hp h0
        go_wp2_with (first
          | (go_at_call 61; (refine hc.mono ?_); rintro e w' ⟨rfl, rfl⟩))
        go_ret
        exact ⟨_, rfl, HSS.out, HB.out⟩
      · have hH : Holds encStr wr g 0 ss.toArray := holds_of_block hb (by simpa using h4)
        have hgl : g < wr.heap.size := (Array.getElem?_eq_some_iff.1 hb).1
        have hc := Tryd.slices_Sort_string g 0 cap ss wr hH hgl (by omega)
        have HSS : Hid (∀ nn os, SS (grow (putRow encStr (Sort.ahead wr nn) g 0 (ss.mergeSort fun x y => decide (x ≤ y)).toArray) os) (.slice (some ⟨g, 0, none⟩) ss.length cap) d.names ∧ Below w.heap.size w (grow (putRow encStr (Sort.ahead wr nn) g 0 (ss.mergeSort fun x y => decide (x ≤ y)).toArray) os)) := Lib.hid fun nn os => by
          refine ⟨?_, HB.out.grown (grownBy_sorted _) HB.out.size (fun j hj => by cases hj; exact hbase)⟩
          have ho := ownsRow_sorted (os := os) (n := nn) (ts := ss.mergeSort fun x y => decide (x ≤ y)) (by simp) hbase hb h1 h2 h3
          have hcs := CS.own ho
          unfold SS
          rw [HNM.out, List.length_map, ← hsl, List.map_map]
          rw [hks, List.map_map] at hcs
          have e : encStr ∘ MF.key = Value.string ∘ MF.nm := by funext x; exact key_enc x
          rw [e, ← hks] at hcs
          exact hcs
        clear HO hks hsl hp hH hgl hb h4 h3 h1 h2
        go_wp2_with (first
          | (go_at_call 61; (refine hc.mono ?_); rintro e w' ⟨rfl, nn, os, rfl⟩))
        go_ret
        exact ⟨_, rfl, HSS.out nn os⟩
    · intro x w1 cnt1 hx HR1 hlt hG1 hs1 hen
      have hnd : (todo.map MF.nm).Nodup := HN.out.sublist (HR.out.sub.map _)
      have hp := out_perm hnd hx.out
      have HO1 := Lib.hid (own_over HO.out hG1.out (own_ne_iter HO.out HR.out))
      have HB1 := Lib.hid (HB.out.grown hG1.out HB.out.size (fun j hj => by cases hj; exact Nat.le_refl _))
      have hle : ss.length ≤ 64 := by
        have h1 := HP.out.length_eq
        rw [List.length_append, List.length_map, List.length_map] at h1
        omega
      have HE := Lib.hid (HR.out.left_eq)
      have HSZ := Lib.hid (HB1.out.size)
      have HP1 : Hid (((ss ++ [x.key]) ++ (outBy MF.nm todo (MF.nm x)).map MF.key).Perm (l.map MF.key)) := Lib.hid (by
        refine List.Perm.trans ?_ HP.out
        rw [List.append_assoc]
        exact List.Perm.append_left _ (by simpa using (hp.map MF.key).symm))
      have HNE := Lib.hid (HR.out.ne)
      clear hnd hp HR HB HO hG1 hs1
      go_wp2_with (first
        | (at_builtin; go_loud (refine wpl_app_str rfl (.tmp 16) (.tmp 18) rfl w.heap.size _ ss.length (ss.map encStr) rfl (Lib.hid (HO1.out.alloc _)) ⟨w1.heap.size, 0, none⟩ x.f.name rfl (cell_of_row _ _ 0 _ _ _ (heap_alloc_last w1 _)) (by omega) (by have := HSZ.out; rw [alloc_size]; omega) ?_); intro v' w2 HO2 hG2))
      have HR2 := Lib.hid ((HR1.out.below (below_alloc w1 _)).kept hG2.out (row_ne_low HO1.out HBM.out) (own_ne_iter' HO1.out HR1.out))
      have HE2 := Lib.hid (HR2.out.left_eq)
      have HB2 := Lib.hid (grown_alloc_trans hG2.out HB1.out (fun j hj => (HO1.out.lt j hj).1))
      clear hG2
      go_roundw
      case rel => exact ⟨_, cnt1, ss ++ [x.key], HR2, Lib.hid (by have := HO2.out; rw [List.length_append, List.map_append, List.map_cons, List.map_nil, key_enc]; exact this), HP1, HB2⟩
      case measure => rw [HE.out, HE2.out]; exact hlt.out
end Go.Proofs.YtoempaagpgoilaaDoor
/-
  LAYER 8 (disk), the program's own disk: the sectors that wait, as pointers into the files' rows, file by file by rising names. No condition.
-/
namespace Go.Proofs.YtoempaagpgoilaaDoor
open Go.RowKit
/-- the sectors that wait among the first j of a file -/
def wlF (x : MF) (j : Nat) : List (Nat × Nat) := ((List.range j).filter fun i => x.f.ws.getD i false).map fun i => (x.g, i)
def wlL (l : List MF) : List (Nat × Nat) := l.flatMap fun x => wlF x x.f.n
theorem wlF_succ (x : MF) (j : Nat) : wlF x (j + 1) = wlF x j ++ (if x.f.ws.getD j false = true then [(x.g, j)] else []) := by
  unfold wlF
  rw [List.range_succ, List.filter_append, List.map_append]
  congr 1
  simp only [List.filter_cons, List.filter_nil]
  split <;> rfl
theorem wlL_succ (l : List MF) (i : Nat) (x : MF) (h : l[i]? = some x) : wlL (l.take (i + 1)) = wlL (l.take i) ++ wlF x x.f.n := by
  obtain ⟨hi, rfl⟩ := List.getElem?_eq_some_iff.1 h
  unfold wlL
  rw [List.take_succ_eq_append_getElem hi, List.flatMap_append]; simp
theorem look_mem {α : Type} {nm : α → ByteArray} {vl : α → Value} {zv : Value} {l : List α} (h : (l.map nm).Nodup) {x : α} (hx : x ∈ l) : lookV nm vl zv l (nm x) = vl x := by
  unfold lookV atBy
  have e : l.find? (fun y => decide (nm y = nm x)) = some x := by
    induction l with
    | nil => simp at hx
    | cons y r ih =>
      rw [List.map_cons, List.nodup_cons] at h
      rw [List.find?_cons]
      by_cases e : nm y = nm x
      · rw [decide_eq_true e]
        rcases List.mem_cons.1 hx with rfl | hx
        · rfl
        · exact absurd (by rw [e]; exact List.mem_map_of_mem hx) h.1
      · rw [decide_eq_false e]
        rcases List.mem_cons.1 hx with rfl | hx
        · exact absurd rfl e
        · exact ih h.2 hx
  rw [e]
theorem SS.slice {w : World} {v : Value} {l : List ByteArray} (h : SS w v l) : ∃ a c, v = .slice a l.length c := by
  obtain ⟨a, c, e, _⟩ := CS.form h; exact ⟨a, c, e⟩
theorem size_name {s : ByteArray} (h : rightB s = true) : s.size ≤ maxLen := by
  unfold rightB nameN at h
  simp only [Bool.and_eq_true, decide_eq_true_eq] at h
  have : s.data.toList.length = s.size := Array.length_toList
  unfold maxLen; omega
theorem own_low {w : World} {base base' size : Nat} {e : TypeId} {v : Value} {n : Nat} {xs : List Value} (h : w.ownsRow base e size v n xs) (hb : base' ≤ base) : w.ownsRow base' e size v n xs := by
  refine ⟨h.1, ?_⟩
  rcases h.2 with h2 | ⟨g, cap, cur, hv, hbg, h3⟩
  · exact .inl h2
  · exact .inr ⟨g, cap, cur, hv, Nat.le_trans hb hbg, h3⟩
end Go.Proofs.YtoempaagpgoilaaDoor
/-
  LAYER 8 (disk), the program's own disk: sectors by value (a load out of a file's row, a box), appends of sectors and files, Waiting. No condition.
-/
namespace Go.Proofs.YtoempaagpgoilaaDoor
open Go.RowKit
theorem sz_size : Tryd.zeroCells90.size = 129 := by kernel_rfl
theorem sct_info (c : Array Value) (h : c.size = 129) : (Tryd.prog.info? 90).map (·.size) = some c.size := by rw [h]; kernel_rfl
def scv (s : Sc) : Array Value := s.cells.toArray
theorem scv_size {s : Sc} (h : s.ok) : (scv s).size = 129 := by simp [scv, h.len]
theorem Sc.one (s : Sc) : ∀ v ∈ s.cells, v.oneCell' = true := by
  intro v hv
  unfold Sc.cells at hv
  simp only [List.mem_append, List.mem_singleton] at hv
  rcases hv with h | h | rfl
  · exact il_one _ _ v h
  · exact il_one _ _ v h
  · rfl
/-- a box that holds a sector of a file -/
def XB (w : World) (g : Nat) (s : Sc) : Prop := w.heap[g]? = some (.cells (scv s) 90 (0, 0)) ∧ s.ok
theorem XB.keep {w w' : World} {g : Nat} {s : Sc} (h : XB w g s) (hb : Below w.heap.size w w') : XB w' g s := ⟨by rw [hb.block g (Array.getElem?_eq_some_iff.1 h.1).1]; exact h.1, h.2⟩
theorem XB.sr {w : World} {g : Nat} {s : Sc} (h : XB w g s) : SR w g 1 [s] := by
  refine ⟨s.cells, h.1, by rw [h.2.len], by simp, by unfold maxLen; omega, fun i t ht => ?_⟩
  have hi : i = 0 := by have := (List.getElem?_eq_some_iff.1 ht).1; simpa using this
  subst hi
  simp at ht
  subst ht
  exact ⟨h.2, fun j v hv => by simpa using hv⟩
theorem XB.la {w : World} {g : Nat} {s : Sc} (h : XB w g s) : At w g 0 s.la := by simpa using h.sr.la (i := 0) rfl
theorem XB.se {w : World} {g : Nat} {s : Sc} (h : XB w g s) : At w g 64 s.se := by simpa using h.sr.se (i := 0) rfl
section
variable {w : World} {ops : Array Oper} {rest : List Oper} {o : Oper} {a : Act} {Q : Exit → Act → World → Prop}
/-- a sector of a file is loaded out of its row -/
theorem wpl_load_sc (hgd : o.guard = none) (x : Operand) (ho : o.op = .load 90 x) (g c : Nat) (S : List Sc) (h : SR w g c S) (i : Nat) (s : Sc) (hs : S[i]? = some s) (off : Nat) (hoff : i * 129 = off) (hx : a.eval x = .pointer (some ⟨g, off, none⟩))
    (hk : wpList Tryd.prog ops Q rest (a.put o.dst (.agg (scv s))) w) : wpList Tryd.prog ops Q (o :: rest) a w := by
  subst hoff
  refine wpList_load_mid hgd 90 x ho g (i * 129) hx s.cells _ ?_ Tryd.underlying90 rfl ?_ hk
  · intro j v hv
    exact h.cell hs hv
  · have := sct_info (scv s) (scv_size (h.ok hs))
    simpa [scv] using this
/-- .. and stored into a variable that was made for it -/
theorem wpl_store_sc {w1 : World} (hgd : o.guard = none) (x y : Operand) (ho : o.op = .store 90 x y) (hw : w = w1.alloc (.cells Tryd.zeroCells90 90)) (g : Nat) (hg : w1.heap.size = g) (s : Sc) (hs : s.ok)
    (hx : a.eval x = .pointer (some ⟨g, 0, none⟩)) (hy : a.eval y = .agg (scv s)) (h : ∀ w', Hid (XB w' g s) → Hid (Below w1.heap.size w1 w') → wpList Tryd.prog ops Q rest (a.put o.dst undef) w') : wpList Tryd.prog ops Q (o :: rest) a w := by
  subst hw; subst hg
  have hk : (w1.alloc (.cells Tryd.zeroCells90 90)).heap[w1.heap.size]? = some (.cells Tryd.zeroCells90 90 (0, 0)) := heap_alloc_last w1 _
  refine wpList_store_row hgd 90 x y ho w1.heap.size (scv s) hx hy _ _ hk (sct_info _ (scv_size hs)) (by rw [scv_size hs, sz_size]) (all_oneCell_toArray s.one) ?_
  exact h _ ⟨setRow_heap _ _ _ _ _ _ hk, hs⟩ (below_row (below_alloc w1 _) (Nat.le_refl _) _)
end
/-- what a call owns stays while others are made -/
theorem own_stay {w w' : World} {base size : Nat} {e : TypeId} {v : Value} {n : Nat} {xs : List Value} (h : w.ownsRow base e size v n xs) (hb : Below w.heap.size w w') : w'.ownsRow base e size v n xs := by
  refine ⟨h.1, ?_⟩
  rcases h.2 with h2 | ⟨g, cap, cur, hv, hbg, hcur, h3⟩
  · exact .inl h2
  · exact .inr ⟨g, cap, cur, hv, hbg, by rw [hb.block g (Array.getElem?_eq_some_iff.1 hcur).1]; exact hcur, h3⟩
theorem own_base {w : World} {base base' size : Nat} {e : TypeId} {v : Value} {n : Nat} {xs : List Value} (h : w.ownsRow base e size v n xs) (hb : base' ≤ base) : w.ownsRow base' e size v n xs := own_low h hb
/-- files that a call has gathered: a row of them, each with its own row of sectors -/
def LO (B : Nat) (w : World) (v : Value) (fs : List LFile) : Prop :=
  ∃ es : List (List Value), w.ownsRow B 80 2 v fs.length es.flatten ∧ es.length = fs.length ∧ ∀ (k : Nat) (e : List Value) (f : LFile), es[k]? = some e → fs[k]? = some f → ∃ v1, e = [.string f.1, v1] ∧ w.ownsRow B 88 64 v1 f.2.1 (il .u8 f.2.2)
theorem LO.nil (B : Nat) (w : World) : LO B w (.slice none 0 0) [] := ⟨[], ⟨rfl, .inl ⟨rfl, rfl⟩⟩, rfl, fun k e f he => by simp at he⟩
theorem LO.keep {B : Nat} {w w' : World} {v : Value} {fs : List LFile} (h : LO B w v fs) (hb : Below w.heap.size w w') : LO B w' v fs := by
  obtain ⟨es, h1, h2, h3⟩ := h
  exact ⟨es, own_stay h1 hb, h2, fun k e f he hf => by obtain ⟨v1, e1, e2⟩ := h3 k e f he hf; exact ⟨v1, e1, own_stay e2 hb⟩⟩
theorem LO.la {B : Nat} {w : World} {v : Value} {fs : List LFile} (h : LO B w v fs) : LA w v fs := by
  obtain ⟨es, h1, h2, h3⟩ := h
  refine ⟨es, CS.own h1, h2, fun e he => ?_, fun k e f he hf => ?_⟩
  · obtain ⟨k, hk, rfl⟩ := List.getElem_of_mem he
    obtain ⟨v1, e1, _⟩ := h3 k _ _ (List.getElem?_eq_getElem hk) (List.getElem?_eq_getElem (by omega))
    rw [e1]; rfl
  · obtain ⟨v1, e1, e2⟩ := h3 k e f he hf
    exact ⟨v1, e1, FS.own e2⟩
theorem afile_parts : (Tryd.prog.info? 80).map (fun i => (i.zero, i.size, i.bytes)) = some (some (.agg #[.string ByteArray.empty, .slice none 0 0]), 2, 40) := by kernel_rfl
/-- one file more -/
theorem wpl_app_lf {w : World} {ops : Array Oper} {rest : List Oper} {o : Oper} {a : Act} {Q : Exit → Act → World → Prop} (hgd : o.guard = none) (s x : Operand)
    (ho : o.op = .call { callee := .builtin .append, args := #[s, x], argTypes := #[77, 77] })
    (B : Nat) (v : Value) (fs : List LFile) (hs : a.eval s = v) (hown : Hid (LO B w v fs)) (g : Nat) (f : LFile) (v1 : Value) (hx : a.eval x = .slice (some ⟨g, 0, none⟩) 1 1) (hblk : w.heap[g]? = some (.cells #[.string f.1, v1] 80 (0, 0))) (hf : w.ownsRow B 88 64 v1 f.2.1 (il .u8 f.2.2))
    (hn : fs.length ≤ 1000000) (hbase : B ≤ w.heap.size)
    (h : ∀ v' w', Hid (LO B w' v' (fs ++ [f])) → Hid (Below B w w') → wpList Tryd.prog ops Q rest (a.put o.dst v') w') : wpList Tryd.prog ops Q (o :: rest) a w := by
  obtain ⟨i, hi, hz0, hz1, hz2⟩ := info_parts afile_parts
  obtain ⟨es, h1, h2, h3⟩ := hown.out
  have hone : v1.oneCell' = true := by
    rcases hf.2 with ⟨rfl, _⟩ | ⟨_, _, _, rfl, _⟩ <;> rfl
  refine wpList_append_own_wide w hgd s x 77 ho B 80 i _ 2 40 Tryd.underlying77 hi hz0 hz1 hz2 rfl (by omega) v fs.length es.flatten hs h1 ⟨g, 0, none⟩ 1 1 [.string f.1, v1] hx rfl ?_ ?_ (by unfold maxLen; omega) (by omega) hbase ?_
  · intro j u hj
    have hc : w.cell? ⟨g, j, none⟩ = some u := by rw [cell_of_row _ g j _ _ _ hblk]; simpa using hj
    by_cases h0 : j = 0
    · subst h0; simpa [Addr.add] using hc
    · simpa [Addr.add, h0] using hc
  · intro u hu
    simp only [List.mem_cons, List.not_mem_nil, or_false] at hu
    rcases hu with rfl | rfl
    · rfl
    · exact hone
  · intro v' w' ho' hg _
    have hne : 88 ≠ 80 := by decide
    refine h v' w' ⟨es ++ [[.string f.1, v1]], by rw [List.flatten_append, List.flatten_singleton, List.length_append]; exact ho', by simp [h2], fun k e q he hq => ?_⟩ ((Below.refl B w).grown hg hbase (fun j hj => (h1.lt j hj).1))
    by_cases hk : k < fs.length
    · rw [List.getElem?_append_left (by omega)] at he
      rw [List.getElem?_append_left hk] at hq
      obtain ⟨u, e1, e2⟩ := h3 k e q he hq
      exact ⟨u, e1, own_over e2 hg (own_types e2 h1 hne)⟩
    · rw [List.getElem?_append_right (by omega)] at he hq
      have hk0 : k - fs.length = 0 := by have := (List.getElem?_eq_some_iff.1 hq).1; simpa using this
      rw [h2, hk0] at he
      rw [hk0] at hq
      simp at he hq
      subst he; subst hq
      exact ⟨v1, rfl, own_over hf hg (own_types hf h1 hne)⟩
end Go.Proofs.YtoempaagpgoilaaDoor
/-
  LAYER 8 (disk), the program's own disk: Files: what is lasting, by rising names. No condition.
-/
namespace Go.Proofs.YtoempaagpgoilaaDoor
open Go.RowKit
/-- what a file is, as it is told -/
def MF.lf (x : MF) : LFile := (x.f.name, x.f.n, x.f.las)
theorem take_chunk (l : List Int) (j : Nat) : l.take (j * 64) ++ chunk l j = l.take ((j + 1) * 64) := by
  unfold chunk
  rw [show (j + 1) * 64 = j * 64 + 64 from by omega, List.take_add]
/-- a file's box -/
def FB (w : World) (g : Nat) (s : ByteArray) (v : Value) : Prop := w.heap[g]? = some (.cells #[.string s, v] 80 (0, 0))
theorem FB.below {w w' : World} {B g : Nat} {s : ByteArray} {v : Value} (h : FB w g s v) (hb : Below B w w') (hg : g < B) : FB w' g s v := by unfold FB at *; rw [hb.block g hg]; exact h
theorem FB.cells {w : World} {g : Nat} {s : ByteArray} {v : Value} (h : FB w g s v) : w.cell? ⟨g, 0, none⟩ = some (.string s) ∧ w.cell? ⟨g, 1, none⟩ = some v := ⟨cell_of_row w g 0 _ _ _ h, cell_of_row w g 1 _ _ _ h⟩
theorem FB.frozen {w : World} {g : Nat} {s : ByteArray} {v : Value} (h : FB w g s v) (j : Nat) : w.frozen? ⟨g, j, none⟩ = false := Joins.unfrozen_of_block h j
theorem FB.set {w : World} {g : Nat} {s : ByteArray} {v : Value} (h : FB w g s v) (u : Value) : FB (w.setCell ⟨g, 1, none⟩ u) g s u := Joins.block_setCell h _
theorem FB.grown {w w' : World} {g : Nat} {s : ByteArray} {v : Value} {row : Option Nat} (h : FB w g s v) (hg : w.grownBy w' row) (hne : some g ≠ row) : FB w' g s v := by
  unfold FB at *; rw [hg.block g (Array.getElem?_eq_some_iff.1 h).1 hne]; exact h
theorem FB.ne_row {w : World} {g base size n : Nat} {e : TypeId} {v : Value} {xs : List Value} (h : w.ownsRow base e size v n xs) (hg : g < base) : some g ≠ v.ownBlock := fun e1 => by have := (h.lt g e1.symm).1; omega
set_option maxRecDepth 20000 in
set_option maxHeartbeats 2000000 in
theorem pfiles_any (w : World) (b bm : Nat) (l : List MF) (d : AD) (h : Dk w b bm l d) (hg : Good d) :
    Calls Tryd.prog 44 #[ptr ⟨b, 0, none⟩] w fun e w' => ∃ v, e = .returned v ∧ LA w' v d.files ∧ Below w.heap.size w w' := by
  have HD := Lib.hid h
  have HG := Lib.hid hg
  have HN := Lib.hid (h.names hg)
  have hl : l.length ≤ 64 := by have := hg.few; rwa [h.files, List.length_map] at this
  have HL := Lib.hid hl
  have HNM : Hid (d.names = l.map MF.nm) := Lib.hid (by unfold AD.names; rw [h.files, List.map_map]; rfl)
  have HFM : Hid (d.files = l.map MF.lf) := Lib.hid (by unfold AD.files; rw [h.files, List.map_map]; rfl)
  have HGF : Hid (∀ x ∈ l, GF x.f) := Lib.hid fun x hx => hg.file _ (by rw [h.files]; exact List.mem_map_of_mem hx)
  clear h hg
  go_enter Tryd.func44, Tryd.ntmps44
  go_wp2_with (first
    | (go_at_call 58; (with_reducible refine (plist_any _ b bm l d HD.out HG.out).mono ?_); rintro e w1 ⟨v1, rfl, hss, hb⟩; obtain ⟨a1, k1, rfl⟩ := hss.slice; rw [HNM.out, List.length_map] at hss ⊢; have HSS := Lib.hid hss; have HB1 := Lib.hid hb; have HD1 := Lib.hid (HD.out.below hb); clear hss hb))
  go_loopw [3, 12] (fun v iv wr => ∃ i : Nat, iv = .int .i64 i ∧ i ≤ l.length ∧ Hid (LO w1.heap.size wr v ((l.take i).map MF.lf)) ∧ Hid (Below w1.heap.size w1 wr)) (fun _ iv _ => l.length - (intOf iv).toNat)
  case atStart => exact ⟨0, rfl, by omega, LO.nil _ _, Below.refl _ _⟩
  case round =>
    obtain ⟨i, rfl, hi, HO, HB⟩ := hrel
    by_cases hlt : (i : Int) < (l.length : Int)
    · obtain ⟨x, hx⟩ := row_some (L := l) (i := i) (by omega)
      have hxm := List.mem_of_getElem? hx
      have HX := Lib.hid hx
      have HXF := Lib.hid (HGF.out x hxm)
      have HSO : Hid (SS wr (.slice a1 l.length k1) (l.map MF.nm)) := Lib.hid (HSS.out.kin (Kin.below HB.out))
      obtain ⟨nb, no, rfl, hcell⟩ := SS.at_ HSO.out i x.f.name (by rw [List.getElem?_map, hx]; rfl)
      have HDO := Lib.hid (HD1.out.below HB.out)
      have HLK := Lib.hid ((look_mem (vl := MF.v) (zv := zS) HN.out hxm).trans (show x.v = .slice (some ⟨x.g, 0, none⟩) x.f.n x.c from rfl))
      have HSZ := Lib.hid (size_name HXF.out.name)
      obtain ⟨n, hn⟩ : ∃ n, x.f.n = n := ⟨_, rfl⟩
      rw [hn] at HLK
      have HXN := Lib.hid hn
      have hn64 : (n : Int) ≤ 64 := by have := HXF.out.n64; omega
      obtain ⟨wo, hwo⟩ : ∃ wo, wo = wr := ⟨_, rfl⟩
      subst hwo
      clear hx hxm hn
      have HD2 := Lib.hid (HDO.out.below (below_alloc wo (.cells #[.string x.f.name, .slice none 0 0] 80)))
      obtain ⟨fl, lf, hb, _⟩ := HD2.out.blk
      obtain ⟨_, c1, _⟩ := hb.cells
      have HF0 : Hid (FB (wo.alloc (.cells #[.string x.f.name, .slice none 0 0] 80)) wo.heap.size x.f.name (.slice none 0 0)) := Lib.hid (heap_alloc_last wo _)
      have HB0 := Lib.hid (below_alloc wo (.cells #[.string x.f.name, .slice none 0 0] 80))
      clear hb
      go_wp2_with (first
        | (refine wpl_look secE rfl (.tmp 21) (.tmp 22) 53 rfl 9 83 Tryd.underlying9 Tryd.underlying53 (zeroS _) bm l rfl HD2.out.map x.f.name rfl HSZ.out ?_; rw [show lookV MF.nm MF.v zS l x.f.name = _ from HLK.out]))
      go_loopw [25] (fun jv wr => ∃ (j : Nat) (v : Value), jv = .int .i64 j ∧ j ≤ n ∧ Hid (FB wr wo.heap.size x.f.name v) ∧ Hid (wr.ownsRow (wo.heap.size + 1) 88 64 v j (il .u8 (x.f.las.take (j * 64)))) ∧ Hid (Below wo.heap.size wo wr)) (fun jv _ => n - (intOf jv).toNat)
      case atStart => exact ⟨0, _, rfl, by omega, HF0, Lib.hid ⟨rfl, .inl ⟨rfl, rfl⟩⟩, HB0⟩
      case round =>
        obtain ⟨j, v, rfl, hj, HF, HV, HB2⟩ := hrel
        obtain ⟨va, vc, rfl⟩ := own_slice HV.out
        by_cases hjn : (j : Int) < (n : Int)
        · have HDW := Lib.hid (HDO.out.below HB2.out)
          have hjb : j < n := by omega
          have hsc := secsOf_get x.f j (by rw [HXN.out]; omega)
          obtain ⟨s, hs⟩ : ∃ s : Sc, s = ⟨chunk x.f.las j, chunk x.f.seen j, x.f.ws.getD j false⟩ := ⟨_, rfl⟩
          rw [← hs] at hsc
          have HSC := Lib.hid hsc
          have HSR := Lib.hid (HDW.out.row x (List.mem_of_getElem? HX.out))
          have HSOK := Lib.hid (HSR.out.ok hsc)
          have HLA : Hid (s.la = chunk x.f.las j) := Lib.hid (by rw [hs])
          have HFL := Lib.hid (Array.getElem?_eq_some_iff.1 HF.out).1
          clear hsc hs
          go_wp2_with (first
            | (refine wpl_load_sc rfl (.tmp 27) rfl x.g x.c _ HSR.out j s HSC.out (j * 129) rfl rfl ?_)
            | (refine wpl_store_sc rfl (.tmp 8) (.tmp 28) rfl rfl wr.heap.size rfl s HSOK.out rfl rfl ?_; intro w3 HX3 hb3; have HB3 := Lib.hid hb3.out; have HF3 := Lib.hid (HF.out.below HB3.out HFL.out); have HV3 := Lib.hid (own_stay HV.out HB3.out); clear hb3; obtain ⟨_, f1⟩ := HF3.out.cells)
            | (refine wpl_load_at rfl (.tmp 31) rfl wr.heap.size 0 rfl s.la HX3.out.la ?_)
            | (refine wpl_build_sec rfl (.tmp 32) rfl s.la HSOK.out.la rfl ?_)
            | (at_builtin; refine wpl_app_fs rfl (.tmp 30) (.tmp 33) rfl (wo.heap.size + 1) _ j _ rfl (Lib.hid (HV3.out.alloc _)) _ 1 s.la rfl (Lib.hid (FS.blk (Blk.new w3 s.la HSOK.out.la))) (by omega) wo.heap.size wo (Lib.hid ((chain HB2.out HB3.out).alloc (chain HB2.out HB3.out).size _)) (by omega) (by have h1 := HFL; have h2 := HB3.out.size; rw [alloc_size]; exact Nat.le_trans h1.out (by omega)) ?_; intro v4 w4 HV4 HB4 hG4; obtain ⟨va4, vc4, rfl⟩ := own_slice HV4.out; have HF4 := Lib.hid ((HF3.out.below (below_alloc w3 _) (Array.getElem?_eq_some_iff.1 HF3.out).1).grown hG4.out (FB.ne_row HV3.out (by omega))); clear hG4; obtain ⟨_, f4⟩ := HF4.out.cells; have fz4 := HF4.out.frozen 1))
          have hT : il .u8 (x.f.las.take (j * 64) ++ s.la) = il .u8 (x.f.las.take ((j + 1) * 64)) := by rw [HLA.out, take_chunk]
          rw [hT] at HV4
          have HV5 : Hid ((w4.setCell ⟨wo.heap.size, 1, none⟩ (.slice va4 (j + 1) vc4)).ownsRow (wo.heap.size + 1) 88 64 (.slice va4 (j + 1) vc4) (j + 1) (il .u8 (x.f.las.take ((j + 1) * 64)))) :=
            Lib.hid (own_over HV4.out (grown_setCell _ _ _ _) (fun g hg e => by obtain rfl := Option.some.inj e; have := (HV4.out.lt _ hg).1; omega))
          have HB5 : Hid (Below wo.heap.size wo (w4.setCell ⟨wo.heap.size, 1, none⟩ (.slice va4 (j + 1) vc4))) := Lib.hid (HB4.out.setCell (Nat.le_refl _) _)
          go_roundw
          case rel => exact ⟨j + 1, _, by go_num, by omega, HF4.out.set _, HV5, HB5⟩
          case measure => simp [intOf]; omega
        · obtain rfl : j = n := by omega
          have hT : x.f.las.take (j * 64) = x.f.las := List.take_of_length_le (by rw [HXF.out.las, HXN.out]; exact Nat.le_refl _)
          rw [hT] at HV
          have HOW := Lib.hid (HO.out.keep HB2.out)
          have HLE : Hid (((l.take i).map MF.lf).length ≤ 1000000) := Lib.hid (by
            rw [List.length_map]
            have h1 : (l.take i).length ≤ l.length := List.length_take_le' ..
            have := HL.out; omega)
          have hlf : x.lf = (x.f.name, j, x.f.las) := by unfold MF.lf; rw [HXN.out]
          have HTK : Hid ((l.take (i + 1)).map MF.lf = (l.take i).map MF.lf ++ [x.lf]) := Lib.hid (by
            obtain ⟨hi2, rfl⟩ := List.getElem?_eq_some_iff.1 HX.out
            rw [List.take_succ_eq_append_getElem hi2, List.map_append]; rfl)
          rw [hlf] at HTK
          obtain ⟨f0, f1⟩ := HF.out.cells
          have HS1 := Lib.hid HB.out.size
          have HS2 := Lib.hid HB2.out.size
          clear hT hlf
          go_wp2_with (first
            | (at_builtin; refine wpl_app_lf rfl (.tmp 37) (.tmp 39) rfl w1.heap.size _ _ rfl (Lib.hid (HOW.out.keep (below_alloc wr _))) wr.heap.size (x.f.name, j, x.f.las) _ rfl (heap_alloc_last wr _) (own_stay (own_base HV.out (by have := HS1.out; omega)) (below_alloc wr _)) HLE.out (by have h1 := HS1.out; have h2 := HS2.out; rw [alloc_size]; omega) ?_; intro v6 w6 HO6 HB6; rw [← HTK.out] at HO6; have HB7 := Lib.hid ((HB.out.trans (HB2.out.mono HB.out.size)).trans ((below_alloc wr (.cells #[.string x.f.name, .slice va j vc] 80)).mono (Nat.le_trans HS1.out HS2.out) |>.trans HB6.out)); clear HB6))
          go_roundw
          case rel => exact ⟨i + 1, by go_num, by omega, HO6, HB7⟩
          case measure => simp [intOf]; omega
    · obtain rfl : i = l.length := by omega
      rw [List.take_length] at HO
      go_wp2
      go_ret
      exact ⟨_, rfl, by rw [HFM.out]; exact HO.out.la, HB1.out.trans (HB.out.mono HB1.out.size)⟩
end Go.Proofs.YtoempaagpgoilaaDoor
