/-
  LAYER 8 (disk), the program's own disk, joined: what keeps a job from being done, Used, List, what waits. No condition.
-/
import Derived.Test.YtpnialanmidekaaDkJa
import Derived.Shelf.Lays
import Derived.Shelf.Slices.In.SortNone
import Derived.Shelf.Sort.Plain
import Derived.Test.YtpnialanmidekaaProg
import Derived.Sort.KeysCollected
import Derived.Sort.OwnSorted
/-
  LAYER 8 (disk), the program's own disk: mayRename, mayFail, kept; how many sectors all files have (a range over the map), and whether a file may be made. No condition.
-/
namespace Go.Proofs.Ytpnialanmidekaa
open Go.RowKit
theorem mayFail_any (w : World) (v0 v1 v2 v3 v5 : Value) (n : Int) :
    Calls Try.prog 60 #[.agg #[v0, v1, v2, v3, .int .i64 n, v5]] w fun e w' => e = .returned (.int .i64 (if n < 0 then 4 else 0)) ∧ Below w.heap.size w w' := by
  have HB := Lib.hid (below_alloc w (.cells #[v0, v1, v2, v3, .int .i64 n, v5] 84))
  obtain ⟨_, _, _, _, c4, _⟩ := (JB.new w #[v0, v1, v2, v3, .int .i64 n, v5]).cells
  by_cases h : n < 0
  · rw [if_pos h]
    go_enter Try.func60, Try.ntmps60
    go_wp2
    go_ret
    exact ⟨rfl, HB.out⟩
  · rw [if_neg h]
    go_enter Try.func60, Try.ntmps60
    go_wp2
    go_ret
    exact ⟨rfl, HB.out⟩
set_option maxRecDepth 8000 in
theorem mayRename_any (w : World) (b bm : Nat) (l : List MF) (d : AD) (s t : ByteArray) (x n : Int) (a : Option Addr) (m c : Nat) (h : Dk w b bm l d) (hg : Good d) (hs : s.size ≤ 281474976710656) (ht : t.size ≤ 281474976710656) (y : Int)
    (hy : (if ¬ d.has s then 7 else if rightB t = false then 10 else 0) = y) :
    Calls Try.prog 57 #[jobV ⟨b, 0, none⟩ s t x n (.slice a m c)] w fun e w' => e = .returned (.int .i64 y) ∧ Below w.heap.size w w' := by
  have HJ := Lib.hid (Jd.start h s t x n (.slice a m c))
  have HS := Lib.hid hs
  have HT := Lib.hid ht
  have HG := Lib.hid hg
  by_cases hh : d.has s
  · rw [if_neg (by simpa using hh)] at hy
    have HF := Lib.hid (show (if d.has s then (0 : Int) else 7) = 0 by rw [if_pos hh])
    obtain ⟨r, hr⟩ : ∃ r, nameN t.data.toList = r := ⟨_, rfl⟩
    have HR := Lib.hid hr
    have hr2 : rightB t = r := hr
    rw [hr2] at hy
    clear h hs ht hg hh hr hr2
    cases r with
    | true =>
      subst hy
      go_enter Try.func57, Try.ntmps57
      go_wp2_with (first
        | (refine wpList_load_row rfl 84 _ rfl w.heap.size rfl _ (jobC ⟨b, 0, none⟩ s t x n (.slice a m c)) (0, 0) _ HJ.out.jb Try.underlying84 rfl (by kernel_rfl) ?_)
        | (go_at_call 56; (with_reducible refine (mayFind_any _ b bm l d s t x n a m c HJ.out.dk HG.out HS.out).mono ?_); rintro e w1 ⟨rfl, hb⟩; rw [HF.out]; have HJ1 := Lib.hid (HJ.out.next hb); clear hb; obtain ⟨_, _, c2, _⟩ := HJ1.out.jb.cells)
        | (go_at_call 68; (with_reducible refine (right_any t _ HT.out).mono ?_); rintro e w2 ⟨rfl, rfl⟩; rw [HR.out]))
      go_ret
      exact ⟨rfl, HJ1.out.below⟩
    | false =>
      subst hy
      go_enter Try.func57, Try.ntmps57
      go_wp2_with (first
        | (refine wpList_load_row rfl 84 _ rfl w.heap.size rfl _ (jobC ⟨b, 0, none⟩ s t x n (.slice a m c)) (0, 0) _ HJ.out.jb Try.underlying84 rfl (by kernel_rfl) ?_)
        | (go_at_call 56; (with_reducible refine (mayFind_any _ b bm l d s t x n a m c HJ.out.dk HG.out HS.out).mono ?_); rintro e w1 ⟨rfl, hb⟩; rw [HF.out]; have HJ1 := Lib.hid (HJ.out.next hb); clear hb; obtain ⟨_, _, c2, _⟩ := HJ1.out.jb.cells)
        | (go_at_call 68; (with_reducible refine (right_any t _ HT.out).mono ?_); rintro e w2 ⟨rfl, rfl⟩; rw [HR.out]))
      go_ret
      exact ⟨rfl, HJ1.out.below⟩
  · rw [if_pos hh] at hy
    subst hy
    have HF := Lib.hid (show (if d.has s then (0 : Int) else 7) = 7 by rw [if_neg hh])
    clear h hs ht hg hh
    go_enter Try.func57, Try.ntmps57
    go_wp2_with (first
      | (refine wpList_load_row rfl 84 _ rfl w.heap.size rfl _ (jobC ⟨b, 0, none⟩ s t x n (.slice a m c)) (0, 0) _ HJ.out.jb Try.underlying84 rfl (by kernel_rfl) ?_)
      | (go_at_call 56; (with_reducible refine (mayFind_any _ b bm l d s t x n a m c HJ.out.dk HG.out HS.out).mono ?_); rintro e w1 ⟨rfl, hb⟩; rw [HF.out]; have HJ1 := Lib.hid (HJ.out.next hb); clear hb))
    go_ret
    exact ⟨rfl, HJ1.out.below⟩
/-- word.Bit, of bytes that lie somewhere -/
theorem bit_ri (v : Value) (len : Nat) (zs : List Int) (i : Int) (w : World) (h : RI .u8 w v len zs) (hz : Bytes zs) (hi : I63 i) :
    Calls Try.prog 69 #[v, .int .i64 i] w fun e w' => e = .returned (.bool (bitI zs i)) ∧ w = w' := by
  have hl := h.length
  obtain ⟨a, cap, rfl, _, h2, h3, _, hc⟩ := id h
  by_cases h0 : i < 0 ∨ (0 ≤ i ∧ (len : Int) ≤ i / 8)
  · refine (bit_no a len cap i w hi h0).mono ?_
    rintro e w' ⟨rfl, rfl⟩
    refine ⟨ret_bool ?_, rfl⟩
    unfold bitI
    rcases h0 with h0 | ⟨h0, h1⟩
    · simp [show ¬ 0 ≤ i by omega]
    · rw [decide_eq_false (p := i / 8 < (zs.length : Int)) (by omega)]; simp
  · have hi0 : 0 ≤ i := by omega
    have hi1 : i / 8 < (len : Int) := by omega
    obtain ⟨k, rfl⟩ : ∃ k : Nat, i = (k : Int) := ⟨i.toNat, by omega⟩
    obtain ⟨b, off, rfl, hcell⟩ := hc (by omega)
    have hk : k / 8 < len := by omega
    refine (bit_some b off len cap zs k w hz hi.2 (by omega) hk ?_).mono ?_
    · first | exact hcell (k / 8) hk | exact hcell
    rintro e w' ⟨rfl, rfl⟩
    refine ⟨ret_bool ?_, rfl⟩
    unfold bitI
    rw [decide_eq_true hi0, decide_eq_true (p := (k : Int) / 8 < (zs.length : Int)) (by omega)]; simp
/-- how many bytes of the i-th one that waits are kept -/
def keptN (kb : List Int) (torn cut : Int) (i : Nat) : Nat := if (i : Int) = torn then cutN cut else if bitI kb (i : Int) = true then 64 else 0
theorem keptN_le (kb : List Int) (torn cut : Int) (i : Nat) : keptN kb torn cut i ≤ 64 := by
  unfold keptN cutN; split
  · omega
  · split <;> omega
/-- a crash's box -/
def CB (w : World) (g : Nat) (cs : Array Value) : Prop := w.heap[g]? = some (.cells cs 36 (0, 0))
set_option maxRecDepth 8000 in
theorem kept_any (w : World) (v : Value) (len : Nat) (kb : List Int) (torn cut : Int) (i : Nat) (h : RI .u8 w v len kb) (hb : Bytes kb) (_ht : I63 torn) (hc : I63 cut) (hi : (i : Int) ≤ 9223372036854775807) :
    Calls Try.prog 50 #[.agg #[v, .int .i64 torn, .int .i64 cut], .int .i64 i] w fun e w' => e = .returned (.int .i64 (keptN kb torn cut i)) ∧ Below w.heap.size w w' := by
  have HR := Lib.hid (h.keep (below_alloc w (.cells #[v, .int .i64 torn, .int .i64 cut] 36)))
  have HB := Lib.hid (below_alloc w (.cells #[v, .int .i64 torn, .int .i64 cut] 36))
  have HY := Lib.hid hb
  have HI := Lib.hid (show I63 (i : Int) from ⟨by omega, hi⟩)
  have HC := Lib.hid hc
  have H64 := Lib.hid (show I63 64 from ⟨by omega, by omega⟩)
  obtain ⟨a, c, rfl, _⟩ : ∃ a c, v = .slice a len c ∧ True := by obtain ⟨a, c, e, _⟩ := h; exact ⟨a, c, e, trivial⟩
  by_cases h1 : (i : Int) = torn
  · have HK : Hid (((keptN kb torn cut i : Nat) : Int) = min (max cut 0) 64) := Lib.hid (by unfold keptN cutN; rw [if_pos h1]; omega)
    rw [HK.out]
    clear h hb hc
    go_enter Try.func50, Try.ntmps50
    go_wp2_with (first
      | (go_at_call 30; (with_reducible refine (nearer_any cut 64 HC.out H64.out _).mono ?_); rintro e w2 ⟨rfl, rfl⟩))
    go_ret
    exact ⟨rfl, HB.out⟩
  · obtain ⟨r, hr⟩ : ∃ r, bitI kb (i : Int) = r := ⟨_, rfl⟩
    have HRR := Lib.hid hr
    cases r with
    | true =>
      have HK : Hid (((keptN kb torn cut i : Nat) : Int) = 64) := Lib.hid (by unfold keptN; rw [if_neg h1, if_pos hr]; rfl)
      rw [HK.out]
      clear h hb hc hr
      go_enter Try.func50, Try.ntmps50
      go_wp2_with (first
        | (go_at_call 69; (with_reducible refine (bit_ri _ len kb i _ HR.out HY.out HI.out).mono ?_); rintro e w2 ⟨rfl, rfl⟩; rw [HRR.out]))
      go_ret
      exact ⟨rfl, HB.out⟩
    | false =>
      have HK : Hid (((keptN kb torn cut i : Nat) : Int) = 0) := Lib.hid (by unfold keptN; rw [if_neg h1, if_neg (by rw [hr]; simp)]; rfl)
      rw [HK.out]
      clear h hb hc hr
      go_enter Try.func50, Try.ntmps50
      go_wp2_with (first
        | (go_at_call 69; (with_reducible refine (bit_ri _ len kb i _ HR.out HY.out HI.out).mono ?_); rintro e w2 ⟨rfl, rfl⟩; rw [HRR.out]))
      go_ret
      exact ⟨rfl, HB.out⟩
end Go.Proofs.Ytpnialanmidekaa
/-
  LAYER 8 (disk), the program's own disk: how many sectors all files have (a range over the map, in whatever order), and whether a file may be made. No condition.
-/
namespace Go.Proofs.Ytpnialanmidekaa
open Go.RowKit
theorem out_perm {α : Type} {nm : α → ByteArray} : ∀ {l : List α}, (l.map nm).Nodup → ∀ {x : α}, x ∈ l → l.Perm (x :: outBy nm l (nm x))
  | [], _, x, hx => by simp at hx
  | y :: r, h, x, hx => by
    rw [List.map_cons, List.nodup_cons] at h
    by_cases e : nm y = nm x
    · have hy : y = x := by
        rcases List.mem_cons.1 hx with rfl | hx
        · rfl
        · exact absurd (by rw [e]; exact List.mem_map_of_mem hx) h.1
      subst hy
      have h2 : outBy nm r (nm y) = r := by
        unfold outBy
        rw [List.filter_eq_self]
        intro z hz
        rw [Bool.not_eq_true', decide_eq_false_iff_not]
        exact fun e => h.1 (by rw [← e]; exact List.mem_map_of_mem hz)
      have h1 : outBy nm (y :: r) (nm y) = r := by
        rw [← h2]; unfold outBy
        rw [List.filter_cons, if_neg (by simp), List.filter_filter]; congr 1; funext z; simp
      rw [h1]
    · have hx2 : x ∈ r := by
        rcases List.mem_cons.1 hx with rfl | hx
        · exact absurd rfl e
        · exact hx
      have h1 : outBy nm (y :: r) (nm x) = y :: outBy nm r (nm x) := by
        unfold outBy
        rw [List.filter_cons, if_pos (by rw [Bool.not_eq_true', decide_eq_false_iff_not]; exact e)]
      rw [h1]
      exact ((out_perm h.2 hx2).cons y).trans (List.Perm.swap x y _)
theorem out_nodup {α : Type} {nm : α → ByteArray} {l : List α} (h : (l.map nm).Nodup) (s : ByteArray) : ((outBy nm l s).map nm).Nodup := h.sublist (List.filter_sublist.map _)
theorem RP.sub {α : Type} {nm : α → ByteArray} {dat : α → DataW Unit} {R : Value → Option (DataW Unit × List MemPlace)} {P : Program} {w : World} {k : TypeId} {b r cnt : Nat} {l todo : List α} (h : RP nm dat R P k w b r l todo cnt) : todo.Sublist l := by
  obtain ⟨_, _, rfl⟩ := h; exact List.filter_sublist
/-- names that rise are apart -/
theorem Asc.nodup {L : List AF} (h : Asc L) : (L.map AF.name).Nodup := by
  unfold List.Nodup
  rw [List.pairwise_map]
  exact List.Pairwise.imp (R := fun f g : AF => gtN g.name f.name = true) (fun {f g} h e => gtN_ne h (Eq.symm e)) h
theorem Dk.names {w : World} {b bm : Nat} {l : List MF} {d : AD} (h : Dk w b bm l d) (hg : Good d) : (l.map MF.nm).Nodup := by
  have := hg.asc.nodup
  rw [h.files, List.map_map] at this
  exact this
abbrev RPk (w : World) (bm r : Nat) (l todo : List MF) (cnt : Nat) : Prop := RP MF.nm MF.dat secR Try.prog 9 w bm r l todo cnt
def usedM (l : List MF) : Nat := (l.map fun x => x.f.n).sum
theorem usedM_perm {l l' : List MF} (h : l.Perm l') : usedM l = usedM l' := (h.map _).sum_nat
theorem Dk.used_eq {w : World} {b bm : Nat} {l : List MF} {d : AD} (h : Dk w b bm l d) : usedN d.L = usedM l := by rw [h.files]; unfold usedN; rw [List.map_map]; rfl
theorem entryG_ne {w : World} {bm r cnt : Nat} {l todo : List MF} (h : RPk w bm r l todo cnt) {b : Nat} {d : AD} {fl : Bool} {lf : Int} (hb : DBk w b bm d fl lf) : b ≠ r := fun e => by
  subst e; exact h.iter _ _ _ hb
set_option maxRecDepth 8000 in
set_option maxHeartbeats 1000000 in
theorem pused_any (w : World) (b bm : Nat) (l : List MF) (d : AD) (h : Dk w b bm l d) (hg : Good d) :
    Calls Try.prog 26 #[ptr ⟨b, 0, none⟩] w fun e w' => e = .returned (.int .i64 (usedN d.L : Int)) ∧ Below w.heap.size w w' := by
  have HN := Lib.hid (h.names hg)
  have hu := hg.used
  have hc := hg.cap1
  rw [h.used_eq] at hu ⊢
  have hub : (usedM l : Int) ≤ 1048576 := by omega
  have HM := Lib.hid h.map
  obtain ⟨fl, lf, hb, _⟩ := h.blk
  obtain ⟨c0, c1, c2, c3, c4, c5⟩ := hb.cells
  clear hb h hg hu hc
  go_enter Try.func26, Try.ntmps26
  go_wp2_with (first
    | (refine wpl_range rfl (.tmp 11) 69 rfl 9 92 Try.underlying9 Try.underlying69 bm l rfl HM.out ?_; intro w0 HR0 hG0 HS0; have HB0 := Lib.hid ((Below.refl w.heap.size w).grown hG0.out (Nat.le_refl _) (by simp)); clear hG0))
  go_frame
  go_loopw [3] (fun v wr => ∃ (todo : List MF) (cnt u : Nat), v = .int .i64 (u : Int) ∧ Hid (RPk wr bm w.heap.size l todo cnt) ∧ u + usedM todo = usedM l ∧ Hid (Below w.heap.size w wr)) (fun _ wr => wr.rangeLeft bm w.heap.size)
  case atStart => exact ⟨l, l.length, 0, rfl, HR0, by omega, HB0⟩
  case round =>
    obtain ⟨todo, cnt, u, rfl, HR, hsum, HB⟩ := hrel
    go_wp2_with (first
      | (refine wpl_next secE rfl (.tmp 12) rfl 9 Try.underlying9 bm w.heap.size l todo cnt rfl HR.out ?_ ?_))
    · intro h0
      subst h0
      obtain rfl : u = usedM l := by simpa [usedM] using hsum
      go_wp2
      go_ret
      exact ⟨rfl, HB.out⟩
    · intro x w1 cnt1 hx HR1 hlt hG1 hs1 hen
      have hnd : (todo.map MF.nm).Nodup := HN.out.sublist (HR.out.sub.map _)
      have hp := usedM_perm (out_perm hnd hx.out)
      have hp2 : usedM (x :: outBy MF.nm todo (MF.nm x)) = x.f.n + usedM (outBy MF.nm todo (MF.nm x)) := by simp [usedM]
      have hw : IntKind.i64.wrap ((u : Int) + (x.f.n : Int)) = (u : Int) + (x.f.n : Int) := IntWalk.i64_in _ (by omega)
      have HB1 := Lib.hid (HB.out.grown hG1.out HB.out.size (fun j hj => by cases hj; exact Nat.le_refl _))
      obtain ⟨xn, hxn⟩ : ∃ xn, x.f.n = xn := ⟨_, rfl⟩
      have hv : x.v = .slice (some ⟨x.g, 0, none⟩) xn x.c := by rw [← hxn]; rfl
      rw [hv] at hen ⊢
      rw [hxn] at hw hp2
      have HE := Lib.hid (HR.out.left_eq)
      have HE1 := Lib.hid (HR1.out.left_eq)
      clear hnd hG1 hs1 hx HR HB hv hxn
      go_wp2
      go_roundw
      case rel => exact ⟨_, cnt1, u + xn, by go_num, HR1, by omega, HB1⟩
      case measure => rw [HE.out, HE1.out]; exact hlt.out
/-- what mayMake reads -/
theorem Jd.seven {w w1 : World} {b bm : Nat} {l : List MF} {d : AD} {s t : ByteArray} {x n : Int} {v : Value} (h : Jd w b bm l d s t x n v w1) :
    w1.cell? ⟨w.heap.size, 0, none⟩ = some (ptr ⟨b, 0, none⟩) ∧ w1.cell? ⟨w.heap.size, 1, none⟩ = some (.string s) ∧ w1.cell? ⟨w.heap.size, 4, none⟩ = some (.int .i64 n) ∧ w1.cell? ⟨b, 0, none⟩ = some (.int .i64 d.cap) ∧ w1.cell? ⟨b, 1, none⟩ = some (.map (some bm)) ∧ Jd w b bm l d s t x n v w1 := by
  obtain ⟨c0, c1, _, c3, c4, _⟩ := h.jb.cells
  obtain ⟨fl, lf, hb, _⟩ := h.dk.blk
  obtain ⟨e0, e1, _⟩ := hb.cells
  exact ⟨c0, c1, c4, e0, e1, h⟩
set_option maxRecDepth 8000 in
set_option maxHeartbeats 1000000 in
theorem mayMake_any (w : World) (b bm : Nat) (l : List MF) (d : AD) (s t : ByteArray) (x n : Int) (a : Option Addr) (m c : Nat) (h : Dk w b bm l d) (hg : Good d) (hs : s.size ≤ 281474976710656) (_hn : I63 n) (y : Int)
    (hy : (if rightB s = false then 10 else if d.has s then 8 else if n < 1 ∨ 64 < n then 4 else if d.cap < (usedN d.L : Int) + n ∨ 64 ≤ d.L.length then 6 else 0) = y) :
    Calls Try.prog 43 #[jobV ⟨b, 0, none⟩ s t x n (.slice a m c)] w fun e w' => e = .returned (.int .i64 y) ∧ Below w.heap.size w w' := by
  have HJ := Lib.hid (Jd.start h s t x n (.slice a m c))
  have HS := Lib.hid hs
  have HG := Lib.hid hg
  obtain ⟨c0, c1, c4, e0, e1, _⟩ := HJ.out.seven
  obtain ⟨r, hr⟩ : ∃ r, nameN s.data.toList = r := ⟨_, rfl⟩
  have HR := Lib.hid hr
  have hr2 : rightB s = r := hr
  rw [hr2] at hy
  cases r with
  | false =>
    rw [if_pos rfl] at hy
    subst hy
    clear h hs hg _hn hr hr2
    go_enter Try.func43, Try.ntmps43
    go_wp2_with (first
      | (go_at_call 68; (with_reducible refine (right_any s _ HS.out).mono ?_); rintro e w2 ⟨rfl, rfl⟩; rw [HR.out]))
    go_ret
    exact ⟨rfl, HJ.out.below⟩
  | true =>
    rw [if_neg (by simp)] at hy
    by_cases hh : d.has s
    · rw [if_pos hh] at hy
      subst hy
      have h1 := (hg.file _ (get_mem hh)).n1
      obtain ⟨k, hk⟩ : ∃ k, (d.get s).n = k := ⟨_, rfl⟩
      have HZ := Lib.hid (show (if d.has s then ((d.get s).n : Int) else 0) = (k : Int) by rw [if_pos hh, hk])
      rw [hk] at h1
      clear h hs hg _hn hr hr2 hh hk
      go_enter Try.func43, Try.ntmps43
      go_wp2_with (first
        | (go_at_call 68; (with_reducible refine (right_any s _ HS.out).mono ?_); rintro e w2 ⟨rfl, rfl⟩; rw [HR.out])
        | (go_at_call 23; (with_reducible refine (psize_any _ b bm l d s HJ.out.dk HS.out).mono ?_); rintro e w1 ⟨rfl, rfl⟩; rw [HZ.out]))
      all_goals first | (exfalso; omega) | skip
      all_goals go_ret
      all_goals exact ⟨rfl, HJ.out.below⟩
    · rw [if_neg hh] at hy
      have HZ := Lib.hid (show (if d.has s then ((d.get s).n : Int) else 0) = 0 by rw [if_neg hh])
      by_cases hr1 : n < 1
      · rw [if_pos (.inl hr1)] at hy
        subst hy
        clear h hs hg _hn hr hr2 hh
        go_enter Try.func43, Try.ntmps43
        go_wp2_with (first
          | (go_at_call 68; (with_reducible refine (right_any s _ HS.out).mono ?_); rintro e w2 ⟨rfl, rfl⟩; rw [HR.out])
          | (go_at_call 23; (with_reducible refine (psize_any _ b bm l d s HJ.out.dk HS.out).mono ?_); rintro e w1 ⟨rfl, rfl⟩; rw [HZ.out]))
        go_ret
        exact ⟨rfl, HJ.out.below⟩
      by_cases hr3 : 64 < n
      · rw [if_pos (.inr hr3)] at hy
        subst hy
        clear h hs hg _hn hr hr2 hh
        go_enter Try.func43, Try.ntmps43
        go_wp2_with (first
          | (go_at_call 68; (with_reducible refine (right_any s _ HS.out).mono ?_); rintro e w2 ⟨rfl, rfl⟩; rw [HR.out])
          | (go_at_call 23; (with_reducible refine (psize_any _ b bm l d s HJ.out.dk HS.out).mono ?_); rintro e w1 ⟨rfl, rfl⟩; rw [HZ.out]))
        go_ret
        exact ⟨rfl, HJ.out.below⟩
      rw [if_neg (by omega)] at hy
      have hu := hg.used
      have hc := hg.cap1
      obtain ⟨u, hu2⟩ : ∃ u, usedN d.L = u := ⟨_, rfl⟩
      have HU := Lib.hid hu2
      have hl : d.L.length = l.length := by rw [h.files, List.length_map]
      rw [hu2] at hu hy
      rw [hl] at hy
      have hw : IntKind.i64.wrap ((u : Int) + n) = (u : Int) + n := IntWalk.i64_in _ (by omega)
      by_cases hf1 : d.cap < (u : Int) + n
      · rw [if_pos (.inl hf1)] at hy
        subst hy
        have hd : decide (d.cap < (u : Int) + n) = true := decide_eq_true hf1
        clear h hs hg _hn hr hr2 hh hu2 hl
        go_enter Try.func43, Try.ntmps43
        go_wp2_with (first
          | (go_at_call 68; (with_reducible refine (right_any s _ HS.out).mono ?_); rintro e w2 ⟨rfl, rfl⟩; rw [HR.out])
          | (go_at_call 23; (with_reducible refine (psize_any _ b bm l d s HJ.out.dk HS.out).mono ?_); rintro e w1 ⟨rfl, rfl⟩; rw [HZ.out]))
        refine wp_region_held_drew (S := (fun w' => w'.cell? ⟨w.heap.size, 0, none⟩ = some (ptr ⟨b, 0, none⟩) ∧ w'.cell? ⟨w.heap.size, 1, none⟩ = some (.string s) ∧ w'.cell? ⟨w.heap.size, 4, none⟩ = some (.int .i64 n) ∧ w'.cell? ⟨b, 0, none⟩ = some (.int .i64 d.cap) ∧ w'.cell? ⟨b, 1, none⟩ = some (.map (some bm)) ∧ Jd w b bm l d s t x n (.slice a m c) w')) (by kernel_rfl) (Jd.seven HJ.out.drew) (fun hS => ?_)
        refine wpAnyH_take (i := 0) (oi := ({ dst := some 25, op := Op.fieldAddr 84 (Operand.tmp 1) 0, type := 0, pos := "job.go:37", after := #[], guard := none } : Oper)) (v := ?_) rfl (by kernel_rfl) (by kernel_rfl) (by kernel_rfl) (fun _ _ _ h => h) (Or.inl ⟨by rfl, ?_⟩) hS ?_
        rotate_left
        · (intro w hSw; (try dsimp only at hSw); go_simp; try with_reducible rfl)
        (try simp only [Act.put, List.setIfInBounds_toArray, List.set_cons_zero, List.set_cons_succ])
        refine wpAnyH_take (i := 1) (oi := ({ dst := some 26, op := Op.load 25 (Operand.tmp 25), type := 25, pos := "job.go:37", after := #[{ on := 0, ground := Ground.data }], guard := none } : Oper)) (v := ?_) rfl (by kernel_rfl) (by kernel_rfl) (by kernel_rfl) (fun _ _ _ h => h) (Or.inl ⟨by rfl, ?_⟩) hS ?_
        rotate_left
        · (intro w hSw; (try dsimp only at hSw); go_simp; try with_reducible rfl)
        (try simp only [Act.put, List.setIfInBounds_toArray, List.set_cons_zero, List.set_cons_succ])
        refine wpAnyH_take (i := 3) (oi := ({ dst := some 28, op := Op.fieldAddr 84 (Operand.tmp 1) 4, type := 0, pos := "job.go:37", after := #[], guard := none } : Oper)) (v := ?_) rfl (by kernel_rfl) (by kernel_rfl) (by kernel_rfl) (fun _ _ _ h => h) (Or.inl ⟨by rfl, ?_⟩) hS ?_
        rotate_left
        · (intro w hSw; (try dsimp only at hSw); go_simp; try with_reducible rfl)
        (try simp only [Act.put, List.setIfInBounds_toArray, List.set_cons_zero, List.set_cons_succ])
        refine wpAnyH_take (i := 4) (oi := ({ dst := some 29, op := Op.load 3 (Operand.tmp 28), type := 3, pos := "job.go:37", after := #[{ on := 3, ground := Ground.data }], guard := none } : Oper)) (v := ?_) rfl (by kernel_rfl) (by kernel_rfl) (by kernel_rfl) (fun _ _ _ h => h) (Or.inl ⟨by rfl, ?_⟩) hS ?_
        rotate_left
        · (intro w hSw; (try dsimp only at hSw); go_simp; try with_reducible rfl)
        (try simp only [Act.put, List.setIfInBounds_toArray, List.set_cons_zero, List.set_cons_succ])
        refine wpAnyH_take (i := 6) (oi := ({ dst := some 31, op := Op.fieldAddr 84 (Operand.tmp 1) 0, type := 0, pos := "job.go:37", after := #[], guard := none } : Oper)) (v := ?_) rfl (by kernel_rfl) (by kernel_rfl) (by kernel_rfl) (fun _ _ _ h => h) (Or.inl ⟨by rfl, ?_⟩) hS ?_
        rotate_left
        · (intro w hSw; (try dsimp only at hSw); go_simp; try with_reducible rfl)
        (try simp only [Act.put, List.setIfInBounds_toArray, List.set_cons_zero, List.set_cons_succ])
        refine wpAnyH_take (i := 7) (oi := ({ dst := some 32, op := Op.load 25 (Operand.tmp 31), type := 25, pos := "job.go:37", after := #[{ on := 6, ground := Ground.data }], guard := none } : Oper)) (v := ?_) rfl (by kernel_rfl) (by kernel_rfl) (by kernel_rfl) (fun _ _ _ h => h) (Or.inl ⟨by rfl, ?_⟩) hS ?_
        rotate_left
        · (intro w hSw; (try dsimp only at hSw); go_simp; try with_reducible rfl)
        (try simp only [Act.put, List.setIfInBounds_toArray, List.set_cons_zero, List.set_cons_succ])
        refine wpAnyH_take (i := 8) (oi := ({ dst := some 33, op := Op.nilCheck (Operand.tmp 32), type := 0, pos := "job.go:37", after := #[{ on := 7, ground := Ground.data }], guard := none } : Oper)) (v := ?_) rfl (by kernel_rfl) (by kernel_rfl) (by kernel_rfl) (fun _ _ _ h => h) (Or.inl ⟨by rfl, ?_⟩) hS ?_
        rotate_left
        · (intro w hSw; (try dsimp only at hSw); go_simp; try with_reducible rfl)
        (try simp only [Act.put, List.setIfInBounds_toArray, List.set_cons_zero, List.set_cons_succ])
        refine wpAnyH_take (i := 9) (oi := ({ dst := some 34, op := Op.fieldAddr 71 (Operand.tmp 33) 0, type := 0, pos := "job.go:37", after := #[{ on := 8, ground := Ground.data }], guard := none } : Oper)) (v := ?_) rfl (by kernel_rfl) (by kernel_rfl) (by kernel_rfl) (fun _ _ _ h => h) (Or.inl ⟨by rfl, ?_⟩) hS ?_
        rotate_left
        · (intro w hSw; (try dsimp only at hSw); go_simp; try with_reducible rfl)
        (try simp only [Act.put, List.setIfInBounds_toArray, List.set_cons_zero, List.set_cons_succ])
        refine wpAnyH_take (i := 10) (oi := ({ dst := some 35, op := Op.load 3 (Operand.tmp 34), type := 3, pos := "job.go:37", after := #[{ on := 9, ground := Ground.data }], guard := none } : Oper)) (v := ?_) rfl (by kernel_rfl) (by kernel_rfl) (by kernel_rfl) (fun _ _ _ h => h) (Or.inl ⟨by rfl, ?_⟩) hS ?_
        rotate_left
        · (intro w hSw; (try dsimp only at hSw); go_simp; try with_reducible rfl)
        (try simp only [Act.put, List.setIfInBounds_toArray, List.set_cons_zero, List.set_cons_succ])
        refine rg_one 2 ({ dst := some 27, op := Op.call { callee := Callee.value (Operand.func 26), args := #[Operand.tmp 26], argTypes := #[25] }, type := 3, pos := "job.go:37", after := #[{ on := 1, ground := Ground.data }], guard := none } : Oper) (by kernel_rfl) rfl (fun K hK => ?_)
        go_simp
        (go_at_call 26; (with_reducible refine (pused_any _ b bm l d hS.2.2.2.2.2.dk HG.out).mono ?_); rintro e w1 ⟨rfl, hb⟩; rw [HU.out])
        refine hK.out _ _ ?_ (fun hS1 => ?_)
        · (exact Jd.seven (hS.2.2.2.2.2.next hb))
        clear hK K hS; have hS := hS1; clear hS1
        (try simp only [Act.put, List.setIfInBounds_toArray, List.set_cons_zero, List.set_cons_succ])
        refine wpAnyH_take (i := 5) (oi := ({ dst := some 30, op := Op.binOp BinOp.add 3 (Operand.tmp 27) (Operand.tmp 29) 3, type := 3, pos := "job.go:37", after := #[{ on := 2, ground := Ground.data }, { on := 4, ground := Ground.data }], guard := none } : Oper)) (v := ?_) rfl (by kernel_rfl) (by kernel_rfl) (by kernel_rfl) (fun _ _ _ h => h) (Or.inl ⟨by rfl, ?_⟩) hS ?_
        rotate_left
        · (intro w hSw; (try dsimp only at hSw); go_simp; try with_reducible rfl)
        (try simp only [Act.put, List.setIfInBounds_toArray, List.set_cons_zero, List.set_cons_succ])
        refine wpAnyH_take (i := 11) (oi := ({ dst := some 36, op := Op.binOp BinOp.gtr 3 (Operand.tmp 30) (Operand.tmp 35) 3, type := 4, pos := "job.go:37", after := #[{ on := 5, ground := Ground.data }, { on := 10, ground := Ground.data }], guard := none } : Oper)) (v := .bool true) rfl (by kernel_rfl) (by kernel_rfl) (by kernel_rfl) (fun _ _ _ h => h) (Or.inl ⟨by rfl, ?_⟩) hS ?_
        · (intro w hSw; (try dsimp only at hSw); go_simp)
        (try simp only [Act.put, List.setIfInBounds_toArray, List.set_cons_zero, List.set_cons_succ])
        refine wpAnyH_take (i := 12) (oi := ({ dst := some 37, op := Op.move (Operand.tmp 36), type := 4, pos := "job.go:37", after := #[{ on := 11, ground := Ground.data }, { on := 2, ground := Ground.chain }], guard := none } : Oper)) (v := ?_) rfl (by kernel_rfl) (by kernel_rfl) (by kernel_rfl) (fun _ _ _ h => h) (Or.inl ⟨by rfl, ?_⟩) hS ?_
        rotate_left
        · (intro w hSw; (try dsimp only at hSw); go_simp; try with_reducible rfl)
        (try simp only [Act.put, List.setIfInBounds_toArray, List.set_cons_zero, List.set_cons_succ])
        refine wpAnyH_take (i := 13) (oi := ({ dst := some 38, op := Op.fieldAddr 84 (Operand.tmp 1) 0, type := 0, pos := "job.go:37", after := #[{ on := 12, ground := Ground.guard }], guard := some (12, false) } : Oper)) (v := undef) rfl (by kernel_rfl) (by kernel_rfl) (by kernel_rfl) (fun _ _ _ h => h) (Or.inr ⟨by rfl, rfl⟩) hS ?_
        (try simp only [Act.put, List.setIfInBounds_toArray, List.set_cons_zero, List.set_cons_succ])
        refine wpAnyH_take (i := 14) (oi := ({ dst := some 39, op := Op.load 25 (Operand.tmp 38), type := 25, pos := "job.go:37", after := #[{ on := 13, ground := Ground.data }, { on := 12, ground := Ground.guard }], guard := some (12, false) } : Oper)) (v := undef) rfl (by kernel_rfl) (by kernel_rfl) (by kernel_rfl) (fun _ _ _ h => h) (Or.inr ⟨by rfl, rfl⟩) hS ?_
        (try simp only [Act.put, List.setIfInBounds_toArray, List.set_cons_zero, List.set_cons_succ])
        refine wpAnyH_take (i := 15) (oi := ({ dst := some 40, op := Op.nilCheck (Operand.tmp 39), type := 0, pos := "job.go:37", after := #[{ on := 14, ground := Ground.data }, { on := 12, ground := Ground.guard }], guard := some (12, false) } : Oper)) (v := undef) rfl (by kernel_rfl) (by kernel_rfl) (by kernel_rfl) (fun _ _ _ h => h) (Or.inr ⟨by rfl, rfl⟩) hS ?_
        (try simp only [Act.put, List.setIfInBounds_toArray, List.set_cons_zero, List.set_cons_succ])
        refine wpAnyH_take (i := 16) (oi := ({ dst := some 41, op := Op.fieldAddr 71 (Operand.tmp 40) 1, type := 0, pos := "job.go:37", after := #[{ on := 15, ground := Ground.data }, { on := 12, ground := Ground.guard }], guard := some (12, false) } : Oper)) (v := undef) rfl (by kernel_rfl) (by kernel_rfl) (by kernel_rfl) (fun _ _ _ h => h) (Or.inr ⟨by rfl, rfl⟩) hS ?_
        (try simp only [Act.put, List.setIfInBounds_toArray, List.set_cons_zero, List.set_cons_succ])
        refine wpAnyH_take (i := 17) (oi := ({ dst := some 42, op := Op.load 69 (Operand.tmp 41), type := 69, pos := "job.go:37", after := #[{ on := 16, ground := Ground.data }, { on := 12, ground := Ground.guard }], guard := some (12, false) } : Oper)) (v := undef) rfl (by kernel_rfl) (by kernel_rfl) (by kernel_rfl) (fun _ _ _ h => h) (Or.inr ⟨by rfl, rfl⟩) hS ?_
        (try simp only [Act.put, List.setIfInBounds_toArray, List.set_cons_zero, List.set_cons_succ])
        refine wpAnyH_take (i := 18) (oi := ({ dst := some 43, op := Op.call { callee := Callee.builtin Builtin.len, args := #[Operand.tmp 42], argTypes := #[69] }, type := 3, pos := "job.go:37", after := #[{ on := 17, ground := Ground.data }, { on := 12, ground := Ground.chain }, { on := 12, ground := Ground.guard }], guard := some (12, false) } : Oper)) (v := undef) rfl (by kernel_rfl) (by kernel_rfl) (by kernel_rfl) (fun _ _ _ h => h) (Or.inr ⟨by rfl, rfl⟩) hS ?_
        (try simp only [Act.put, List.setIfInBounds_toArray, List.set_cons_zero, List.set_cons_succ])
        refine wpAnyH_take (i := 19) (oi := ({ dst := some 44, op := Op.binOp BinOp.geq 3 (Operand.tmp 43) (Operand.const (Value.int IntKind.i64 64)) 3, type := 4, pos := "job.go:37", after := #[{ on := 18, ground := Ground.data }, { on := 12, ground := Ground.guard }], guard := some (12, false) } : Oper)) (v := undef) rfl (by kernel_rfl) (by kernel_rfl) (by kernel_rfl) (fun _ _ _ h => h) (Or.inr ⟨by rfl, rfl⟩) hS ?_
        (try simp only [Act.put, List.setIfInBounds_toArray, List.set_cons_zero, List.set_cons_succ])
        refine wpAnyH_take (i := 20) (oi := ({ dst := some 45, op := Op.pick (Operand.tmp 37) (Operand.const (Value.bool true)) (Operand.tmp 44), type := 4, pos := "job.go:37", after := #[{ on := 12, ground := Ground.data }, { on := 19, ground := Ground.data }], guard := none } : Oper)) (v := ?_) rfl (by kernel_rfl) (by kernel_rfl) (by kernel_rfl) (fun _ _ _ h => h) (Or.inl ⟨by rfl, ?_⟩) hS ?_
        rotate_left
        · (intro w hSw; (try dsimp only at hSw); go_simp; try with_reducible rfl)
        (try simp only [Act.put, List.setIfInBounds_toArray, List.set_cons_zero, List.set_cons_succ])
        refine wpAnyH_take (i := 21) (oi := ({ dst := some 24, op := Op.assign (Operand.tmp 45), type := 4, pos := "job.go:37", after := #[{ on := 20, ground := Ground.data }, { on := 18, ground := Ground.chain }], guard := none } : Oper)) (v := ?_) rfl (by kernel_rfl) (by kernel_rfl) (by kernel_rfl) (fun _ _ _ h => h) (Or.inl ⟨by rfl, ?_⟩) hS ?_
        rotate_left
        · (intro w hSw; (try dsimp only at hSw); go_simp; try with_reducible rfl)
        (try simp only [Act.put, List.setIfInBounds_toArray, List.set_cons_zero, List.set_cons_succ])
        refine wpAnyH_done (by kernel_rfl) ?_ _
        have HB := Lib.hid hS.2.2.2.2.2.below
        clear hS
        go_wp2
        go_ret
        exact ⟨rfl, HB.out⟩
      have hd : decide (d.cap < (u : Int) + n) = false := decide_eq_false hf1
      by_cases hf2 : 64 ≤ l.length
      · rw [if_pos (.inr hf2)] at hy
        subst hy
        have hd2 : decide (64 ≤ (l.length : Int)) = true := decide_eq_true (by omega)
        clear h hs hg _hn hr hr2 hh hu2 hl
        go_enter Try.func43, Try.ntmps43
        go_wp2_with (first
          | (go_at_call 68; (with_reducible refine (right_any s _ HS.out).mono ?_); rintro e w2 ⟨rfl, rfl⟩; rw [HR.out])
          | (go_at_call 23; (with_reducible refine (psize_any _ b bm l d s HJ.out.dk HS.out).mono ?_); rintro e w1 ⟨rfl, rfl⟩; rw [HZ.out]))
        refine wp_region_held_drew (S := (fun w' => w'.cell? ⟨w.heap.size, 0, none⟩ = some (ptr ⟨b, 0, none⟩) ∧ w'.cell? ⟨w.heap.size, 1, none⟩ = some (.string s) ∧ w'.cell? ⟨w.heap.size, 4, none⟩ = some (.int .i64 n) ∧ w'.cell? ⟨b, 0, none⟩ = some (.int .i64 d.cap) ∧ w'.cell? ⟨b, 1, none⟩ = some (.map (some bm)) ∧ Jd w b bm l d s t x n (.slice a m c) w')) (by kernel_rfl) (Jd.seven HJ.out.drew) (fun hS => ?_)
        refine wpAnyH_take (i := 0) (oi := ({ dst := some 25, op := Op.fieldAddr 84 (Operand.tmp 1) 0, type := 0, pos := "job.go:37", after := #[], guard := none } : Oper)) (v := ?_) rfl (by kernel_rfl) (by kernel_rfl) (by kernel_rfl) (fun _ _ _ h => h) (Or.inl ⟨by rfl, ?_⟩) hS ?_
        rotate_left
        · (intro w hSw; (try dsimp only at hSw); go_simp; try with_reducible rfl)
        (try simp only [Act.put, List.setIfInBounds_toArray, List.set_cons_zero, List.set_cons_succ])
        refine wpAnyH_take (i := 1) (oi := ({ dst := some 26, op := Op.load 25 (Operand.tmp 25), type := 25, pos := "job.go:37", after := #[{ on := 0, ground := Ground.data }], guard := none } : Oper)) (v := ?_) rfl (by kernel_rfl) (by kernel_rfl) (by kernel_rfl) (fun _ _ _ h => h) (Or.inl ⟨by rfl, ?_⟩) hS ?_
        rotate_left
        · (intro w hSw; (try dsimp only at hSw); go_simp; try with_reducible rfl)
        (try simp only [Act.put, List.setIfInBounds_toArray, List.set_cons_zero, List.set_cons_succ])
        refine wpAnyH_take (i := 3) (oi := ({ dst := some 28, op := Op.fieldAddr 84 (Operand.tmp 1) 4, type := 0, pos := "job.go:37", after := #[], guard := none } : Oper)) (v := ?_) rfl (by kernel_rfl) (by kernel_rfl) (by kernel_rfl) (fun _ _ _ h => h) (Or.inl ⟨by rfl, ?_⟩) hS ?_
        rotate_left
        · (intro w hSw; (try dsimp only at hSw); go_simp; try with_reducible rfl)
        (try simp only [Act.put, List.setIfInBounds_toArray, List.set_cons_zero, List.set_cons_succ])
        refine wpAnyH_take (i := 4) (oi := ({ dst := some 29, op := Op.load 3 (Operand.tmp 28), type := 3, pos := "job.go:37", after := #[{ on := 3, ground := Ground.data }], guard := none } : Oper)) (v := ?_) rfl (by kernel_rfl) (by kernel_rfl) (by kernel_rfl) (fun _ _ _ h => h) (Or.inl ⟨by rfl, ?_⟩) hS ?_
        rotate_left
        · (intro w hSw; (try dsimp only at hSw); go_simp; try with_reducible rfl)
        (try simp only [Act.put, List.setIfInBounds_toArray, List.set_cons_zero, List.set_cons_succ])
        refine wpAnyH_take (i := 6) (oi := ({ dst := some 31, op := Op.fieldAddr 84 (Operand.tmp 1) 0, type := 0, pos := "job.go:37", after := #[], guard := none } : Oper)) (v := ?_) rfl (by kernel_rfl) (by kernel_rfl) (by kernel_rfl) (fun _ _ _ h => h) (Or.inl ⟨by rfl, ?_⟩) hS ?_
        rotate_left
        · (intro w hSw; (try dsimp only at hSw); go_simp; try with_reducible rfl)
        (try simp only [Act.put, List.setIfInBounds_toArray, List.set_cons_zero, List.set_cons_succ])
        refine wpAnyH_take (i := 7) (oi := ({ dst := some 32, op := Op.load 25 (Operand.tmp 31), type := 25, pos := "job.go:37", after := #[{ on := 6, ground := Ground.data }], guard := none } : Oper)) (v := ?_) rfl (by kernel_rfl) (by kernel_rfl) (by kernel_rfl) (fun _ _ _ h => h) (Or.inl ⟨by rfl, ?_⟩) hS ?_
        rotate_left
        · (intro w hSw; (try dsimp only at hSw); go_simp; try with_reducible rfl)
        (try simp only [Act.put, List.setIfInBounds_toArray, List.set_cons_zero, List.set_cons_succ])
        refine wpAnyH_take (i := 8) (oi := ({ dst := some 33, op := Op.nilCheck (Operand.tmp 32), type := 0, pos := "job.go:37", after := #[{ on := 7, ground := Ground.data }], guard := none } : Oper)) (v := ?_) rfl (by kernel_rfl) (by kernel_rfl) (by kernel_rfl) (fun _ _ _ h => h) (Or.inl ⟨by rfl, ?_⟩) hS ?_
        rotate_left
        · (intro w hSw; (try dsimp only at hSw); go_simp; try with_reducible rfl)
        (try simp only [Act.put, List.setIfInBounds_toArray, List.set_cons_zero, List.set_cons_succ])
        refine wpAnyH_take (i := 9) (oi := ({ dst := some 34, op := Op.fieldAddr 71 (Operand.tmp 33) 0, type := 0, pos := "job.go:37", after := #[{ on := 8, ground := Ground.data }], guard := none } : Oper)) (v := ?_) rfl (by kernel_rfl) (by kernel_rfl) (by kernel_rfl) (fun _ _ _ h => h) (Or.inl ⟨by rfl, ?_⟩) hS ?_
        rotate_left
        · (intro w hSw; (try dsimp only at hSw); go_simp; try with_reducible rfl)
        (try simp only [Act.put, List.setIfInBounds_toArray, List.set_cons_zero, List.set_cons_succ])
        refine wpAnyH_take (i := 10) (oi := ({ dst := some 35, op := Op.load 3 (Operand.tmp 34), type := 3, pos := "job.go:37", after := #[{ on := 9, ground := Ground.data }], guard := none } : Oper)) (v := ?_) rfl (by kernel_rfl) (by kernel_rfl) (by kernel_rfl) (fun _ _ _ h => h) (Or.inl ⟨by rfl, ?_⟩) hS ?_
        rotate_left
        · (intro w hSw; (try dsimp only at hSw); go_simp; try with_reducible rfl)
        (try simp only [Act.put, List.setIfInBounds_toArray, List.set_cons_zero, List.set_cons_succ])
        refine rg_one 2 ({ dst := some 27, op := Op.call { callee := Callee.value (Operand.func 26), args := #[Operand.tmp 26], argTypes := #[25] }, type := 3, pos := "job.go:37", after := #[{ on := 1, ground := Ground.data }], guard := none } : Oper) (by kernel_rfl) rfl (fun K hK => ?_)
        go_simp
        (go_at_call 26; (with_reducible refine (pused_any _ b bm l d hS.2.2.2.2.2.dk HG.out).mono ?_); rintro e w1 ⟨rfl, hb⟩; rw [HU.out])
        refine hK.out _ _ ?_ (fun hS1 => ?_)
        · (exact Jd.seven (hS.2.2.2.2.2.next hb))
        clear hK K hS; have hS := hS1; clear hS1
        (try simp only [Act.put, List.setIfInBounds_toArray, List.set_cons_zero, List.set_cons_succ])
        refine wpAnyH_take (i := 5) (oi := ({ dst := some 30, op := Op.binOp BinOp.add 3 (Operand.tmp 27) (Operand.tmp 29) 3, type := 3, pos := "job.go:37", after := #[{ on := 2, ground := Ground.data }, { on := 4, ground := Ground.data }], guard := none } : Oper)) (v := ?_) rfl (by kernel_rfl) (by kernel_rfl) (by kernel_rfl) (fun _ _ _ h => h) (Or.inl ⟨by rfl, ?_⟩) hS ?_
        rotate_left
        · (intro w hSw; (try dsimp only at hSw); go_simp; try with_reducible rfl)
        (try simp only [Act.put, List.setIfInBounds_toArray, List.set_cons_zero, List.set_cons_succ])
        refine wpAnyH_take (i := 11) (oi := ({ dst := some 36, op := Op.binOp BinOp.gtr 3 (Operand.tmp 30) (Operand.tmp 35) 3, type := 4, pos := "job.go:37", after := #[{ on := 5, ground := Ground.data }, { on := 10, ground := Ground.data }], guard := none } : Oper)) (v := .bool false) rfl (by kernel_rfl) (by kernel_rfl) (by kernel_rfl) (fun _ _ _ h => h) (Or.inl ⟨by rfl, ?_⟩) hS ?_
        · (intro w hSw; (try dsimp only at hSw); go_simp)
        (try simp only [Act.put, List.setIfInBounds_toArray, List.set_cons_zero, List.set_cons_succ])
        refine wpAnyH_take (i := 12) (oi := ({ dst := some 37, op := Op.move (Operand.tmp 36), type := 4, pos := "job.go:37", after := #[{ on := 11, ground := Ground.data }, { on := 2, ground := Ground.chain }], guard := none } : Oper)) (v := ?_) rfl (by kernel_rfl) (by kernel_rfl) (by kernel_rfl) (fun _ _ _ h => h) (Or.inl ⟨by rfl, ?_⟩) hS ?_
        rotate_left
        · (intro w hSw; (try dsimp only at hSw); go_simp; try with_reducible rfl)
        (try simp only [Act.put, List.setIfInBounds_toArray, List.set_cons_zero, List.set_cons_succ])
        refine wpAnyH_take (i := 13) (oi := ({ dst := some 38, op := Op.fieldAddr 84 (Operand.tmp 1) 0, type := 0, pos := "job.go:37", after := #[{ on := 12, ground := Ground.guard }], guard := some (12, false) } : Oper)) (v := ?_) rfl (by kernel_rfl) (by kernel_rfl) (by kernel_rfl) (fun _ _ _ h => h) (Or.inl ⟨by rfl, ?_⟩) hS ?_
        rotate_left
        · (intro w hSw; (try dsimp only at hSw); go_simp; try with_reducible rfl)
        (try simp only [Act.put, List.setIfInBounds_toArray, List.set_cons_zero, List.set_cons_succ])
        refine wpAnyH_take (i := 14) (oi := ({ dst := some 39, op := Op.load 25 (Operand.tmp 38), type := 25, pos := "job.go:37", after := #[{ on := 13, ground := Ground.data }, { on := 12, ground := Ground.guard }], guard := some (12, false) } : Oper)) (v := ?_) rfl (by kernel_rfl) (by kernel_rfl) (by kernel_rfl) (fun _ _ _ h => h) (Or.inl ⟨by rfl, ?_⟩) hS ?_
        rotate_left
        · (intro w hSw; (try dsimp only at hSw); go_simp; try with_reducible rfl)
        (try simp only [Act.put, List.setIfInBounds_toArray, List.set_cons_zero, List.set_cons_succ])
        refine wpAnyH_take (i := 15) (oi := ({ dst := some 40, op := Op.nilCheck (Operand.tmp 39), type := 0, pos := "job.go:37", after := #[{ on := 14, ground := Ground.data }, { on := 12, ground := Ground.guard }], guard := some (12, false) } : Oper)) (v := ?_) rfl (by kernel_rfl) (by kernel_rfl) (by kernel_rfl) (fun _ _ _ h => h) (Or.inl ⟨by rfl, ?_⟩) hS ?_
        rotate_left
        · (intro w hSw; (try dsimp only at hSw); go_simp; try with_reducible rfl)
        (try simp only [Act.put, List.setIfInBounds_toArray, List.set_cons_zero, List.set_cons_succ])
        refine wpAnyH_take (i := 16) (oi := ({ dst := some 41, op := Op.fieldAddr 71 (Operand.tmp 40) 1, type := 0, pos := "job.go:37", after := #[{ on := 15, ground := Ground.data }, { on := 12, ground := Ground.guard }], guard := some (12, false) } : Oper)) (v := ?_) rfl (by kernel_rfl) (by kernel_rfl) (by kernel_rfl) (fun _ _ _ h => h) (Or.inl ⟨by rfl, ?_⟩) hS ?_
        rotate_left
        · (intro w hSw; (try dsimp only at hSw); go_simp; try with_reducible rfl)
        (try simp only [Act.put, List.setIfInBounds_toArray, List.set_cons_zero, List.set_cons_succ])
        refine wpAnyH_take (i := 17) (oi := ({ dst := some 42, op := Op.load 69 (Operand.tmp 41), type := 69, pos := "job.go:37", after := #[{ on := 16, ground := Ground.data }, { on := 12, ground := Ground.guard }], guard := some (12, false) } : Oper)) (v := ?_) rfl (by kernel_rfl) (by kernel_rfl) (by kernel_rfl) (fun _ _ _ h => h) (Or.inl ⟨by rfl, ?_⟩) hS ?_
        rotate_left
        · (intro w hSw; (try dsimp only at hSw); go_simp; try with_reducible rfl)
        (try simp only [Act.put, List.setIfInBounds_toArray, List.set_cons_zero, List.set_cons_succ])
        refine wpAnyH_take (i := 18) (oi := ({ dst := some 43, op := Op.call { callee := Callee.builtin Builtin.len, args := #[Operand.tmp 42], argTypes := #[69] }, type := 3, pos := "job.go:37", after := #[{ on := 17, ground := Ground.data }, { on := 12, ground := Ground.chain }, { on := 12, ground := Ground.guard }], guard := some (12, false) } : Oper)) (v := .int .i64 l.length) rfl (by kernel_rfl) (by kernel_rfl) (by kernel_rfl) (fun _ _ _ h => h) (Or.inl ⟨by rfl, ?_⟩) hS ?_
        · (intro w hSw; (try dsimp only at hSw); exact exec_mlen (.tmp 42) 69 rfl 9 92 Try.underlying69 bm l rfl hSw.2.2.2.2.2.dk.map)
        (try simp only [Act.put, List.setIfInBounds_toArray, List.set_cons_zero, List.set_cons_succ])
        refine wpAnyH_take (i := 19) (oi := ({ dst := some 44, op := Op.binOp BinOp.geq 3 (Operand.tmp 43) (Operand.const (Value.int IntKind.i64 64)) 3, type := 4, pos := "job.go:37", after := #[{ on := 18, ground := Ground.data }, { on := 12, ground := Ground.guard }], guard := some (12, false) } : Oper)) (v := .bool true) rfl (by kernel_rfl) (by kernel_rfl) (by kernel_rfl) (fun _ _ _ h => h) (Or.inl ⟨by rfl, ?_⟩) hS ?_
        · (intro w hSw; (try dsimp only at hSw); go_simp)
        (try simp only [Act.put, List.setIfInBounds_toArray, List.set_cons_zero, List.set_cons_succ])
        refine wpAnyH_take (i := 20) (oi := ({ dst := some 45, op := Op.pick (Operand.tmp 37) (Operand.const (Value.bool true)) (Operand.tmp 44), type := 4, pos := "job.go:37", after := #[{ on := 12, ground := Ground.data }, { on := 19, ground := Ground.data }], guard := none } : Oper)) (v := ?_) rfl (by kernel_rfl) (by kernel_rfl) (by kernel_rfl) (fun _ _ _ h => h) (Or.inl ⟨by rfl, ?_⟩) hS ?_
        rotate_left
        · (intro w hSw; (try dsimp only at hSw); go_simp; try with_reducible rfl)
        (try simp only [Act.put, List.setIfInBounds_toArray, List.set_cons_zero, List.set_cons_succ])
        refine wpAnyH_take (i := 21) (oi := ({ dst := some 24, op := Op.assign (Operand.tmp 45), type := 4, pos := "job.go:37", after := #[{ on := 20, ground := Ground.data }, { on := 18, ground := Ground.chain }], guard := none } : Oper)) (v := ?_) rfl (by kernel_rfl) (by kernel_rfl) (by kernel_rfl) (fun _ _ _ h => h) (Or.inl ⟨by rfl, ?_⟩) hS ?_
        rotate_left
        · (intro w hSw; (try dsimp only at hSw); go_simp; try with_reducible rfl)
        (try simp only [Act.put, List.setIfInBounds_toArray, List.set_cons_zero, List.set_cons_succ])
        refine wpAnyH_done (by kernel_rfl) ?_ _
        have HB := Lib.hid hS.2.2.2.2.2.below
        clear hS
        go_wp2
        go_ret
        exact ⟨rfl, HB.out⟩
      · rw [if_neg (by omega)] at hy
        subst hy
        have hd2 : decide (64 ≤ (l.length : Int)) = false := decide_eq_false (by omega)
        clear h hs hg _hn hr hr2 hh hu2 hl
        go_enter Try.func43, Try.ntmps43
        go_wp2_with (first
          | (go_at_call 68; (with_reducible refine (right_any s _ HS.out).mono ?_); rintro e w2 ⟨rfl, rfl⟩; rw [HR.out])
          | (go_at_call 23; (with_reducible refine (psize_any _ b bm l d s HJ.out.dk HS.out).mono ?_); rintro e w1 ⟨rfl, rfl⟩; rw [HZ.out]))
        refine wp_region_held_drew (S := (fun w' => w'.cell? ⟨w.heap.size, 0, none⟩ = some (ptr ⟨b, 0, none⟩) ∧ w'.cell? ⟨w.heap.size, 1, none⟩ = some (.string s) ∧ w'.cell? ⟨w.heap.size, 4, none⟩ = some (.int .i64 n) ∧ w'.cell? ⟨b, 0, none⟩ = some (.int .i64 d.cap) ∧ w'.cell? ⟨b, 1, none⟩ = some (.map (some bm)) ∧ Jd w b bm l d s t x n (.slice a m c) w')) (by kernel_rfl) (Jd.seven HJ.out.drew) (fun hS => ?_)
        refine wpAnyH_take (i := 0) (oi := ({ dst := some 25, op := Op.fieldAddr 84 (Operand.tmp 1) 0, type := 0, pos := "job.go:37", after := #[], guard := none } : Oper)) (v := ?_) rfl (by kernel_rfl) (by kernel_rfl) (by kernel_rfl) (fun _ _ _ h => h) (Or.inl ⟨by rfl, ?_⟩) hS ?_
        rotate_left
        · (intro w hSw; (try dsimp only at hSw); go_simp; try with_reducible rfl)
        (try simp only [Act.put, List.setIfInBounds_toArray, List.set_cons_zero, List.set_cons_succ])
        refine wpAnyH_take (i := 1) (oi := ({ dst := some 26, op := Op.load 25 (Operand.tmp 25), type := 25, pos := "job.go:37", after := #[{ on := 0, ground := Ground.data }], guard := none } : Oper)) (v := ?_) rfl (by kernel_rfl) (by kernel_rfl) (by kernel_rfl) (fun _ _ _ h => h) (Or.inl ⟨by rfl, ?_⟩) hS ?_
        rotate_left
        · (intro w hSw; (try dsimp only at hSw); go_simp; try with_reducible rfl)
        (try simp only [Act.put, List.setIfInBounds_toArray, List.set_cons_zero, List.set_cons_succ])
        refine wpAnyH_take (i := 3) (oi := ({ dst := some 28, op := Op.fieldAddr 84 (Operand.tmp 1) 4, type := 0, pos := "job.go:37", after := #[], guard := none } : Oper)) (v := ?_) rfl (by kernel_rfl) (by kernel_rfl) (by kernel_rfl) (fun _ _ _ h => h) (Or.inl ⟨by rfl, ?_⟩) hS ?_
        rotate_left
        · (intro w hSw; (try dsimp only at hSw); go_simp; try with_reducible rfl)
        (try simp only [Act.put, List.setIfInBounds_toArray, List.set_cons_zero, List.set_cons_succ])
        refine wpAnyH_take (i := 4) (oi := ({ dst := some 29, op := Op.load 3 (Operand.tmp 28), type := 3, pos := "job.go:37", after := #[{ on := 3, ground := Ground.data }], guard := none } : Oper)) (v := ?_) rfl (by kernel_rfl) (by kernel_rfl) (by kernel_rfl) (fun _ _ _ h => h) (Or.inl ⟨by rfl, ?_⟩) hS ?_
        rotate_left
        · (intro w hSw; (try dsimp only at hSw); go_simp; try with_reducible rfl)
        (try simp only [Act.put, List.setIfInBounds_toArray, List.set_cons_zero, List.set_cons_succ])
        refine wpAnyH_take (i := 6) (oi := ({ dst := some 31, op := Op.fieldAddr 84 (Operand.tmp 1) 0, type := 0, pos := "job.go:37", after := #[], guard := none } : Oper)) (v := ?_) rfl (by kernel_rfl) (by kernel_rfl) (by kernel_rfl) (fun _ _ _ h => h) (Or.inl ⟨by rfl, ?_⟩) hS ?_
        rotate_left
        · (intro w hSw; (try dsimp only at hSw); go_simp; try with_reducible rfl)
        (try simp only [Act.put, List.setIfInBounds_toArray, List.set_cons_zero, List.set_cons_succ])
        refine wpAnyH_take (i := 7) (oi := ({ dst := some 32, op := Op.load 25 (Operand.tmp 31), type := 25, pos := "job.go:37", after := #[{ on := 6, ground := Ground.data }], guard := none } : Oper)) (v := ?_) rfl (by kernel_rfl) (by kernel_rfl) (by kernel_rfl) (fun _ _ _ h => h) (Or.inl ⟨by rfl, ?_⟩) hS ?_
        rotate_left
        · (intro w hSw; (try dsimp only at hSw); go_simp; try with_reducible rfl)
        (try simp only [Act.put, List.setIfInBounds_toArray, List.set_cons_zero, List.set_cons_succ])
        refine wpAnyH_take (i := 8) (oi := ({ dst := some 33, op := Op.nilCheck (Operand.tmp 32), type := 0, pos := "job.go:37", after := #[{ on := 7, ground := Ground.data }], guard := none } : Oper)) (v := ?_) rfl (by kernel_rfl) (by kernel_rfl) (by kernel_rfl) (fun _ _ _ h => h) (Or.inl ⟨by rfl, ?_⟩) hS ?_
        rotate_left
        · (intro w hSw; (try dsimp only at hSw); go_simp; try with_reducible rfl)
        (try simp only [Act.put, List.setIfInBounds_toArray, List.set_cons_zero, List.set_cons_succ])
        refine wpAnyH_take (i := 9) (oi := ({ dst := some 34, op := Op.fieldAddr 71 (Operand.tmp 33) 0, type := 0, pos := "job.go:37", after := #[{ on := 8, ground := Ground.data }], guard := none } : Oper)) (v := ?_) rfl (by kernel_rfl) (by kernel_rfl) (by kernel_rfl) (fun _ _ _ h => h) (Or.inl ⟨by rfl, ?_⟩) hS ?_
        rotate_left
        · (intro w hSw; (try dsimp only at hSw); go_simp; try with_reducible rfl)
        (try simp only [Act.put, List.setIfInBounds_toArray, List.set_cons_zero, List.set_cons_succ])
        refine wpAnyH_take (i := 10) (oi := ({ dst := some 35, op := Op.load 3 (Operand.tmp 34), type := 3, pos := "job.go:37", after := #[{ on := 9, ground := Ground.data }], guard := none } : Oper)) (v := ?_) rfl (by kernel_rfl) (by kernel_rfl) (by kernel_rfl) (fun _ _ _ h => h) (Or.inl ⟨by rfl, ?_⟩) hS ?_
        rotate_left
        · (intro w hSw; (try dsimp only at hSw); go_simp; try with_reducible rfl)
        (try simp only [Act.put, List.setIfInBounds_toArray, List.set_cons_zero, List.set_cons_succ])
        refine rg_one 2 ({ dst := some 27, op := Op.call { callee := Callee.value (Operand.func 26), args := #[Operand.tmp 26], argTypes := #[25] }, type := 3, pos := "job.go:37", after := #[{ on := 1, ground := Ground.data }], guard := none } : Oper) (by kernel_rfl) rfl (fun K hK => ?_)
        go_simp
        (go_at_call 26; (with_reducible refine (pused_any _ b bm l d hS.2.2.2.2.2.dk HG.out).mono ?_); rintro e w1 ⟨rfl, hb⟩; rw [HU.out])
        refine hK.out _ _ ?_ (fun hS1 => ?_)
        · (exact Jd.seven (hS.2.2.2.2.2.next hb))
        clear hK K hS; have hS := hS1; clear hS1
        (try simp only [Act.put, List.setIfInBounds_toArray, List.set_cons_zero, List.set_cons_succ])
        refine wpAnyH_take (i := 5) (oi := ({ dst := some 30, op := Op.binOp BinOp.add 3 (Operand.tmp 27) (Operand.tmp 29) 3, type := 3, pos := "job.go:37", after := #[{ on := 2, ground := Ground.data }, { on := 4, ground := Ground.data }], guard := none } : Oper)) (v := ?_) rfl (by kernel_rfl) (by kernel_rfl) (by kernel_rfl) (fun _ _ _ h => h) (Or.inl ⟨by rfl, ?_⟩) hS ?_
        rotate_left
        · (intro w hSw; (try dsimp only at hSw); go_simp; try with_reducible rfl)
        (try simp only [Act.put, List.setIfInBounds_toArray, List.set_cons_zero, List.set_cons_succ])
        refine wpAnyH_take (i := 11) (oi := ({ dst := some 36, op := Op.binOp BinOp.gtr 3 (Operand.tmp 30) (Operand.tmp 35) 3, type := 4, pos := "job.go:37", after := #[{ on := 5, ground := Ground.data }, { on := 10, ground := Ground.data }], guard := none } : Oper)) (v := .bool false) rfl (by kernel_rfl) (by kernel_rfl) (by kernel_rfl) (fun _ _ _ h => h) (Or.inl ⟨by rfl, ?_⟩) hS ?_
        · (intro w hSw; (try dsimp only at hSw); go_simp)
        (try simp only [Act.put, List.setIfInBounds_toArray, List.set_cons_zero, List.set_cons_succ])
        refine wpAnyH_take (i := 12) (oi := ({ dst := some 37, op := Op.move (Operand.tmp 36), type := 4, pos := "job.go:37", after := #[{ on := 11, ground := Ground.data }, { on := 2, ground := Ground.chain }], guard := none } : Oper)) (v := ?_) rfl (by kernel_rfl) (by kernel_rfl) (by kernel_rfl) (fun _ _ _ h => h) (Or.inl ⟨by rfl, ?_⟩) hS ?_
        rotate_left
        · (intro w hSw; (try dsimp only at hSw); go_simp; try with_reducible rfl)
        (try simp only [Act.put, List.setIfInBounds_toArray, List.set_cons_zero, List.set_cons_succ])
        refine wpAnyH_take (i := 13) (oi := ({ dst := some 38, op := Op.fieldAddr 84 (Operand.tmp 1) 0, type := 0, pos := "job.go:37", after := #[{ on := 12, ground := Ground.guard }], guard := some (12, false) } : Oper)) (v := ?_) rfl (by kernel_rfl) (by kernel_rfl) (by kernel_rfl) (fun _ _ _ h => h) (Or.inl ⟨by rfl, ?_⟩) hS ?_
        rotate_left
        · (intro w hSw; (try dsimp only at hSw); go_simp; try with_reducible rfl)
        (try simp only [Act.put, List.setIfInBounds_toArray, List.set_cons_zero, List.set_cons_succ])
        refine wpAnyH_take (i := 14) (oi := ({ dst := some 39, op := Op.load 25 (Operand.tmp 38), type := 25, pos := "job.go:37", after := #[{ on := 13, ground := Ground.data }, { on := 12, ground := Ground.guard }], guard := some (12, false) } : Oper)) (v := ?_) rfl (by kernel_rfl) (by kernel_rfl) (by kernel_rfl) (fun _ _ _ h => h) (Or.inl ⟨by rfl, ?_⟩) hS ?_
        rotate_left
        · (intro w hSw; (try dsimp only at hSw); go_simp; try with_reducible rfl)
        (try simp only [Act.put, List.setIfInBounds_toArray, List.set_cons_zero, List.set_cons_succ])
        refine wpAnyH_take (i := 15) (oi := ({ dst := some 40, op := Op.nilCheck (Operand.tmp 39), type := 0, pos := "job.go:37", after := #[{ on := 14, ground := Ground.data }, { on := 12, ground := Ground.guard }], guard := some (12, false) } : Oper)) (v := ?_) rfl (by kernel_rfl) (by kernel_rfl) (by kernel_rfl) (fun _ _ _ h => h) (Or.inl ⟨by rfl, ?_⟩) hS ?_
        rotate_left
        · (intro w hSw; (try dsimp only at hSw); go_simp; try with_reducible rfl)
        (try simp only [Act.put, List.setIfInBounds_toArray, List.set_cons_zero, List.set_cons_succ])
        refine wpAnyH_take (i := 16) (oi := ({ dst := some 41, op := Op.fieldAddr 71 (Operand.tmp 40) 1, type := 0, pos := "job.go:37", after := #[{ on := 15, ground := Ground.data }, { on := 12, ground := Ground.guard }], guard := some (12, false) } : Oper)) (v := ?_) rfl (by kernel_rfl) (by kernel_rfl) (by kernel_rfl) (fun _ _ _ h => h) (Or.inl ⟨by rfl, ?_⟩) hS ?_
        rotate_left
        · (intro w hSw; (try dsimp only at hSw); go_simp; try with_reducible rfl)
        (try simp only [Act.put, List.setIfInBounds_toArray, List.set_cons_zero, List.set_cons_succ])
        refine wpAnyH_take (i := 17) (oi := ({ dst := some 42, op := Op.load 69 (Operand.tmp 41), type := 69, pos := "job.go:37", after := #[{ on := 16, ground := Ground.data }, { on := 12, ground := Ground.guard }], guard := some (12, false) } : Oper)) (v := ?_) rfl (by kernel_rfl) (by kernel_rfl) (by kernel_rfl) (fun _ _ _ h => h) (Or.inl ⟨by rfl, ?_⟩) hS ?_
        rotate_left
        · (intro w hSw; (try dsimp only at hSw); go_simp; try with_reducible rfl)
        (try simp only [Act.put, List.setIfInBounds_toArray, List.set_cons_zero, List.set_cons_succ])
        refine wpAnyH_take (i := 18) (oi := ({ dst := some 43, op := Op.call { callee := Callee.builtin Builtin.len, args := #[Operand.tmp 42], argTypes := #[69] }, type := 3, pos := "job.go:37", after := #[{ on := 17, ground := Ground.data }, { on := 12, ground := Ground.chain }, { on := 12, ground := Ground.guard }], guard := some (12, false) } : Oper)) (v := .int .i64 l.length) rfl (by kernel_rfl) (by kernel_rfl) (by kernel_rfl) (fun _ _ _ h => h) (Or.inl ⟨by rfl, ?_⟩) hS ?_
        · (intro w hSw; (try dsimp only at hSw); exact exec_mlen (.tmp 42) 69 rfl 9 92 Try.underlying69 bm l rfl hSw.2.2.2.2.2.dk.map)
        (try simp only [Act.put, List.setIfInBounds_toArray, List.set_cons_zero, List.set_cons_succ])
        refine wpAnyH_take (i := 19) (oi := ({ dst := some 44, op := Op.binOp BinOp.geq 3 (Operand.tmp 43) (Operand.const (Value.int IntKind.i64 64)) 3, type := 4, pos := "job.go:37", after := #[{ on := 18, ground := Ground.data }, { on := 12, ground := Ground.guard }], guard := some (12, false) } : Oper)) (v := .bool false) rfl (by kernel_rfl) (by kernel_rfl) (by kernel_rfl) (fun _ _ _ h => h) (Or.inl ⟨by rfl, ?_⟩) hS ?_
        · (intro w hSw; (try dsimp only at hSw); go_simp)
        (try simp only [Act.put, List.setIfInBounds_toArray, List.set_cons_zero, List.set_cons_succ])
        refine wpAnyH_take (i := 20) (oi := ({ dst := some 45, op := Op.pick (Operand.tmp 37) (Operand.const (Value.bool true)) (Operand.tmp 44), type := 4, pos := "job.go:37", after := #[{ on := 12, ground := Ground.data }, { on := 19, ground := Ground.data }], guard := none } : Oper)) (v := ?_) rfl (by kernel_rfl) (by kernel_rfl) (by kernel_rfl) (fun _ _ _ h => h) (Or.inl ⟨by rfl, ?_⟩) hS ?_
        rotate_left
        · (intro w hSw; (try dsimp only at hSw); go_simp; try with_reducible rfl)
        (try simp only [Act.put, List.setIfInBounds_toArray, List.set_cons_zero, List.set_cons_succ])
        refine wpAnyH_take (i := 21) (oi := ({ dst := some 24, op := Op.assign (Operand.tmp 45), type := 4, pos := "job.go:37", after := #[{ on := 20, ground := Ground.data }, { on := 18, ground := Ground.chain }], guard := none } : Oper)) (v := ?_) rfl (by kernel_rfl) (by kernel_rfl) (by kernel_rfl) (fun _ _ _ h => h) (Or.inl ⟨by rfl, ?_⟩) hS ?_
        rotate_left
        · (intro w hSw; (try dsimp only at hSw); go_simp; try with_reducible rfl)
        (try simp only [Act.put, List.setIfInBounds_toArray, List.set_cons_zero, List.set_cons_succ])
        refine wpAnyH_done (by kernel_rfl) ?_ _
        have HB := Lib.hid hS.2.2.2.2.2.below
        clear hS
        go_wp2
        go_ret
        exact ⟨rfl, HB.out⟩
end Go.Proofs.Ytpnialanmidekaa
/-
  THE LIBRARY's CONTRACTS THAT THE WALKS USE, at this program's own numbers: slices_Sort_string, slices_Sort_string_none. Each is one application of the kit's own theorem. Written by the kit's lay-shelf.mjs and lay-plain.mjs, pruned by tools/shelf.py.
-/
namespace Go.Proofs.Ytpnialanmidekaa
open Go.Proofs Go.Shelf
def Try.lays190_ren : Go.Shelf.Ren := ⟨fun | 190 => 61 | 125 => 71 | 258 => 70 | 128 => 84 | 129 => 85 | 302 => 75 | 303 => 76 | 304 => 77 | 305 => 78 | 306 => 79 | 307 => 80 | 308 => 81 | 309 => 82 | 310 => 83 | 333 => 86 | 329 => 87 | 330 => 88 | 334 => 89 | 335 => 90 | 336 => 91 | 344 => 92 | n => n, fun | 31 => 61 | 9 => 9 | 3 => 3 | 46 => 33 | 0 => 0 | 51 => 121 | 53 => 108 | 4 => 4 | 183 => 113 | 182 => 112 | 131 => 118 | 5 => 5 | 218 => 123 | 222 => 127 | 228 => 129 | 229 => 130 | n => n, fun | n => n⟩
theorem Try.lays190 : Go.Proofs.Lays.n190 Try.prog Try.lays190_ren := {
  mixed := by kernel_rfl
  f125 := Try.func71.trans (congrArg some (by kernel_rfl))
  f128 := Try.func84.trans (congrArg some (by kernel_rfl))
  f129 := Try.func85.trans (congrArg some (by kernel_rfl))
  f190 := Try.func61.trans (congrArg some (by kernel_rfl))
  f258 := Try.func70.trans (congrArg some (by kernel_rfl))
  f302 := Try.func75.trans (congrArg some (by kernel_rfl))
  f303 := Try.func76.trans (congrArg some (by kernel_rfl))
  f304 := Try.func77.trans (congrArg some (by kernel_rfl))
  f305 := Try.func78.trans (congrArg some (by kernel_rfl))
  f306 := Try.func79.trans (congrArg some (by kernel_rfl))
  f307 := Try.func80.trans (congrArg some (by kernel_rfl))
  f308 := Try.func81.trans (congrArg some (by kernel_rfl))
  f309 := Try.func82.trans (congrArg some (by kernel_rfl))
  f310 := Try.func83.trans (congrArg some (by kernel_rfl))
  f329 := Try.func87.trans (congrArg some (by kernel_rfl))
  f330 := Try.func88.trans (congrArg some (by kernel_rfl))
  f333 := Try.func86.trans (congrArg some (by kernel_rfl))
  f334 := Try.func89.trans (congrArg some (by kernel_rfl))
  f335 := Try.func90.trans (congrArg some (by kernel_rfl))
  f336 := Try.func91.trans (congrArg some (by kernel_rfl))
  f344 := Try.func92.trans (congrArg some (by kernel_rfl))
  t0 := Try.underlying0
  a0 := Try.isAgg0
  z0 := Try.sizeOf0
  v0 := Try.zeroValue0
  t3 := Try.underlying3
  a3 := Try.isAgg3
  z3 := Try.sizeOf3
  v3 := Try.zeroValue3
  t4 := Try.underlying4
  a4 := Try.isAgg4
  z4 := Try.sizeOf4
  v4 := Try.zeroValue4
  t5 := Try.underlying5
  a5 := Try.isAgg5
  z5 := Try.sizeOf5
  v5 := Try.zeroValue5
  t9 := Try.underlying9
  a9 := Try.isAgg9
  z9 := Try.sizeOf9
  v9 := Try.zeroValue9
  t31 := Try.underlying61
  a31 := Try.isAgg61
  z31 := Try.sizeOf61
  v31 := Try.zeroValue61
  t46 := Try.underlying33
  a46 := Try.isAgg33
  z46 := Try.sizeOf33
  v46 := Try.zeroValue33
  t51 := Try.underlying121
  a51 := Try.isAgg121
  z51 := Try.sizeOf121
  v51 := Try.zeroValue121
  t53 := Try.underlying108
  a53 := Try.isAgg108
  z53 := Try.sizeOf108
  v53 := Try.zeroValue108
  t131 := Try.underlying118
  a131 := Try.isAgg118
  z131 := Try.sizeOf118
  v131 := Try.zeroValue118
  t182 := Try.underlying112
  a182 := Try.isAgg112
  z182 := Try.sizeOf112
  v182 := Try.zeroValue112
  t183 := Try.underlying113
  a183 := Try.isAgg113
  z183 := Try.sizeOf113
  v183 := Try.zeroValue113
  t218 := Try.underlying123
  a218 := Try.isAgg123
  z218 := Try.sizeOf123
  v218 := Try.zeroValue123
  t222 := Try.underlying127
  a222 := Try.isAgg127
  z222 := Try.sizeOf127
  v222 := Try.zeroValue127
  t228 := Try.underlying129
  a228 := Try.isAgg129
  z228 := Try.sizeOf129
  v228 := Try.zeroValue129
  t229 := Try.underlying130
  a229 := Try.isAgg130
  z229 := Try.sizeOf130
  v229 := Try.zeroValue130 }
open Go.Sort Go.RowKit in
theorem Try.slices_Sort_string (blk off cap : Nat) (ss : List (List UInt8)) (w : World) (hH : Holds encStr w blk off ss.toArray) (hblk : blk < w.heap.size) (hsz : ss.length < 4611686018427387904) :
    Calls Try.prog 61 #[.slice (some ⟨blk, off, none⟩) ss.length cap] w fun e w' =>
      e = .returned (.tuple #[]) ∧ ∃ n os, w' = grow (putRow encStr (Sort.ahead w n) blk off (ss.mergeSort fun x y => decide (x ≤ y)).toArray) os := Any.slices_Sort_string Try.lays190 blk off cap ss w hH hblk hsz
open Go.RowKit Go.Sort in
/-- .. and plain. (LAID: no walk: one application.) -/
theorem Try.slices_Sort_string_none (p : Option Addr) (cap : Nat) (w : World) :
    Calls Try.prog 61 #[.slice p 0 cap] w fun e w' => e = .returned (.tuple #[]) ∧ w' = w := Any.slices_Sort_string_none Try.lays190 p cap w
end Go.Proofs.Ytpnialanmidekaa
/-
  LAYER 8 (disk), the program's own disk: List: the names, collected in whatever order, then sorted by the library. No condition.
-/
namespace Go.Proofs.Ytpnialanmidekaa
open Go.RowKit Go.Sort
def MF.key (x : MF) : List UInt8 := x.f.name.data.toList
theorem key_enc (x : MF) : encStr x.key = .string x.f.name := by
  unfold encStr MF.key
  congr 1
theorem key_le (x y : MF) (h : gtN y.f.name x.f.name = true) : x.key ≤ y.key := by
  have h1 := (gtN_iff _ _).1 h
  rw [Lib.toList_data, Lib.toList_data] at h1
  exact List.le_of_lt h1
/-- what was collected, sorted, are the names as they rise -/
theorem keys_sorted {l : List MF} (ha : Asc (l.map MF.f)) {ss : List (List UInt8)} (hp : ss.Perm (l.map MF.key)) : (ss.mergeSort fun x y => decide (x ≤ y)) = l.map MF.key := by
  refine (mergeSort_of_perm hp).trans ?_
  refine List.mergeSort_of_pairwise ?_
  rw [List.pairwise_map]
  unfold Asc at ha
  rw [List.pairwise_map] at ha
  exact ha.imp fun h => by simpa [leB] using key_le _ _ h
theorem str_parts : (Try.prog.info? 9).map (fun i => (i.zero, i.size, i.bytes)) = some (some (.string ByteArray.empty), 1, 16) := by kernel_rfl
/-- append of one text to a row that the call made -/
theorem wpl_app_str {w : World} {ops : Array Oper} {rest : List Oper} {o : Oper} {a : Act} {Q : Exit → Act → World → Prop} (hgd : o.guard = none) (s x : Operand)
    (ho : o.op = .call { callee := .builtin .append, args := #[s, x], argTypes := #[61, 61] })
    (base : Nat) (v : Value) (n : Nat) (xs : List Value) (hs : a.eval s = v) (hown : Hid (w.ownsRow base 9 1 v n xs))
    (ad : Addr) (y : ByteArray) (hx : a.eval x = .slice (some ad) 1 1) (hcell : w.cell? ad = some (.string y)) (hn : n ≤ 1000000) (hbase : base ≤ w.heap.size)
    (h : ∀ v' w', Hid (w'.ownsRow base 9 1 v' (n + 1) (xs ++ [.string y])) → Hid (w.grownBy w' v.ownBlock) → wpList Try.prog ops Q rest (a.put o.dst v') w') : wpList Try.prog ops Q (o :: rest) a w := by
  obtain ⟨i, hi, hz0, hz1, hz2⟩ := info_parts str_parts
  refine wpList_append_own_wide w hgd s x 61 ho base 9 i (.string ByteArray.empty) 1 16 Try.underlying61 hi hz0 hz1 hz2 rfl (by omega) v n xs hs hown.out ad 1 1 [.string y] hx rfl ?_ (by simp [Value.oneCell']) (by unfold maxLen; omega) (by omega) hbase ?_
  · intro j u hj
    match j, hj with
    | 0, hj => simp at hj; subst hj; simpa [Addr.add] using hcell
  · intro v' w' h1 h2 _
    exact h v' w' h1 h2
theorem grown_alloc_trans {w w1 w2 : World} {o : Obj} {row : Option Nat} (h : (w1.alloc o).grownBy w2 row) (hb : Below w.heap.size w w1) (hr : ∀ j, row = some j → w.heap.size ≤ j) : Below w.heap.size w w2 :=
  (hb.alloc hb.size o).grown h (by have := hb.size; rw [alloc_size]; omega) hr
theorem own_ne_iter {w : World} {base size : Nat} {e : TypeId} {v : Value} {n : Nat} {xs : List Value} {bm r cnt : Nat} {l todo : List MF} (h : w.ownsRow base e size v n xs) (hr : RPk w bm r l todo cnt) : ∀ g, v.ownBlock = some g → some g ≠ some r := fun g hg e1 => by
  obtain rfl := Option.some.inj e1
  rcases h.2 with ⟨rfl, _⟩ | ⟨q, cap, cur, rfl, _, hb, _⟩
  · simp [Value.ownBlock] at hg
  · simp only [Value.ownBlock, Option.some.injEq] at hg
    subst hg
    exact hr.iter _ _ _ hb
theorem own_ne_iter' {w : World} {base size : Nat} {e : TypeId} {v : Value} {n : Nat} {xs : List Value} {bm r cnt : Nat} {l todo : List MF} (h : w.ownsRow base e size v n xs) (hr : RPk w bm r l todo cnt) : some r ≠ v.ownBlock := fun e1 => own_ne_iter h hr r e1.symm rfl
set_option maxRecDepth 8000 in
set_option maxHeartbeats 1000000 in
theorem plist_any (w : World) (b bm : Nat) (l : List MF) (d : AD) (h : Dk w b bm l d) (hg : Good d) :
    Calls Try.prog 24 #[ptr ⟨b, 0, none⟩] w fun e w' => ∃ v, e = .returned v ∧ SS w' v d.names ∧ Below w.heap.size w w' := by
  have HN := Lib.hid (h.names hg)
  have HA := Lib.hid (show Asc (l.map MF.f) by rw [← h.files]; exact hg.asc)
  have hl : l.length ≤ 64 := by have := hg.few; rwa [h.files, List.length_map] at this
  have HNM : Hid (d.names = l.map MF.nm) := Lib.hid (by unfold AD.names; rw [h.files, List.map_map]; rfl)
  have HM := Lib.hid h.map
  have HBM := Lib.hid h.map.lt
  obtain ⟨fl, lf, hb, _⟩ := h.blk
  obtain ⟨c0, c1, c2, c3, c4, c5⟩ := hb.cells
  clear hb h hg
  go_enter Try.func24, Try.ntmps24
  go_wp2_with (first
    | (refine wpl_range rfl (.tmp 10) 69 rfl 9 92 Try.underlying9 Try.underlying69 bm l rfl HM.out ?_; intro w0 HR0 hG0 HS0; have HB0 := Lib.hid ((Below.refl w.heap.size w).grown hG0.out (Nat.le_refl _) (by simp)); clear hG0))
  go_frame
  go_loopw [3] (fun v wr => ∃ (todo : List MF) (cnt : Nat) (ss : List (List UInt8)), Hid (RPk wr bm w.heap.size l todo cnt) ∧ Hid (wr.ownsRow w.heap.size 9 1 v ss.length (ss.map encStr)) ∧ Hid ((ss ++ todo.map MF.key).Perm (l.map MF.key)) ∧ Hid (Below w.heap.size w wr)) (fun _ wr => wr.rangeLeft bm w.heap.size)
  case atStart => exact ⟨l, l.length, [], HR0, ⟨rfl, .inl ⟨rfl, rfl⟩⟩, Lib.hid (List.Perm.refl _), HB0⟩
  case round =>
    obtain ⟨todo, cnt, ss, HR, HO, HP, HB⟩ := hrel
    go_wp2_with (first
      | (refine wpl_next secE rfl (.tmp 11) rfl 9 Try.underlying9 bm w.heap.size l todo cnt rfl HR.out ?_ ?_))
    · intro h0
      subst h0
      have hp : ss.Perm (l.map MF.key) := by have := HP.out; simpa using this
      have hsl : ss.length = l.length := by rw [hp.length_eq, List.length_map]
      have hks := keys_sorted HA.out hp
      rcases HO.out.2 with ⟨rfl, hnil⟩ | ⟨g, cap, cur, rfl, hbase, hb, h1, h2, h3, h4⟩
      · have hc := Try.slices_Sort_string_none none 0 wr
        have h0 : l = [] := List.length_eq_zero_iff.1 (by omega)
        have HSS := Lib.hid (show SS wr (.slice none 0 0) d.names by
          rw [HNM.out, h0]; exact CS.nil 1 wr)
        clear HO hks hsl hp h0
        go_wp2_with (first
          | (go_at_call 61; (refine hc.mono ?_); rintro e w' ⟨rfl, rfl⟩))
        go_ret
        exact ⟨_, rfl, HSS.out, HB.out⟩
      · have hH : Holds encStr wr g 0 ss.toArray := holds_of_block hb (by simpa using h4)
        have hgl : g < wr.heap.size := (Array.getElem?_eq_some_iff.1 hb).1
        have hc := Try.slices_Sort_string g 0 cap ss wr hH hgl (by omega)
        have HSS : Hid (∀ nn os, SS (grow (putRow encStr (Sort.ahead wr nn) g 0 (ss.mergeSort fun x y => decide (x ≤ y)).toArray) os) (.slice (some ⟨g, 0, none⟩) ss.length cap) d.names ∧ Below w.heap.size w (grow (putRow encStr (Sort.ahead wr nn) g 0 (ss.mergeSort fun x y => decide (x ≤ y)).toArray) os)) := Lib.hid fun nn os => by
          refine ⟨?_, HB.out.grown (grownBy_sorted _) HB.out.size (fun j hj => by cases hj; exact hbase)⟩
          have ho := ownsRow_sorted (os := os) (n := nn) (ts := ss.mergeSort fun x y => decide (x ≤ y)) (by simp) hbase hb h1 h2 h3
          have hcs := CS.own ho
          unfold SS
          rw [HNM.out, List.length_map, ← hsl, List.map_map]
          rw [hks, List.map_map] at hcs
          have e : encStr ∘ MF.key = Value.string ∘ MF.nm := by funext x; exact key_enc x
          rw [e, ← hks] at hcs
          exact hcs
        clear HO hks hsl hp hH hgl hb h4 h3 h1 h2
        go_wp2_with (first
          | (go_at_call 61; (refine hc.mono ?_); rintro e w' ⟨rfl, nn, os, rfl⟩))
        go_ret
        exact ⟨_, rfl, HSS.out nn os⟩
    · intro x w1 cnt1 hx HR1 hlt hG1 hs1 hen
      have hnd : (todo.map MF.nm).Nodup := HN.out.sublist (HR.out.sub.map _)
      have hp := out_perm hnd hx.out
      have HO1 := Lib.hid (own_over HO.out hG1.out (own_ne_iter HO.out HR.out))
      have HB1 := Lib.hid (HB.out.grown hG1.out HB.out.size (fun j hj => by cases hj; exact Nat.le_refl _))
      have hle : ss.length ≤ 64 := by
        have h1 := HP.out.length_eq
        rw [List.length_append, List.length_map, List.length_map] at h1
        omega
      have HE := Lib.hid (HR.out.left_eq)
      have HSZ := Lib.hid (HB1.out.size)
      have HP1 : Hid (((ss ++ [x.key]) ++ (outBy MF.nm todo (MF.nm x)).map MF.key).Perm (l.map MF.key)) := Lib.hid (by
        refine List.Perm.trans ?_ HP.out
        rw [List.append_assoc]
        exact List.Perm.append_left _ (by simpa using (hp.map MF.key).symm))
      have HNE := Lib.hid (HR.out.ne)
      clear hnd hp HR HB HO hG1 hs1
      go_wp2_with (first
        | (at_builtin; go_loud (refine wpl_app_str rfl (.tmp 16) (.tmp 18) rfl w.heap.size _ ss.length (ss.map encStr) rfl (Lib.hid (HO1.out.alloc _)) ⟨w1.heap.size, 0, none⟩ x.f.name rfl (cell_of_row _ _ 0 _ _ _ (heap_alloc_last w1 _)) (by omega) (by have := HSZ.out; rw [alloc_size]; omega) ?_); intro v' w2 HO2 hG2))
      have HR2 := Lib.hid ((HR1.out.below (below_alloc w1 _)).kept hG2.out (row_ne_low HO1.out HBM.out) (own_ne_iter' HO1.out HR1.out))
      have HE2 := Lib.hid (HR2.out.left_eq)
      have HB2 := Lib.hid (grown_alloc_trans hG2.out HB1.out (fun j hj => (HO1.out.lt j hj).1))
      clear hG2
      go_roundw
      case rel => exact ⟨_, cnt1, ss ++ [x.key], HR2, Lib.hid (by have := HO2.out; rw [List.length_append, List.map_append, List.map_cons, List.map_nil, key_enc]; exact this), HP1, HB2⟩
      case measure => rw [HE.out, HE2.out]; exact hlt.out
end Go.Proofs.Ytpnialanmidekaa
/-
  LAYER 8 (disk), the program's own disk: the sectors that wait, as pointers into the files' rows, file by file by rising names. No condition.
-/
namespace Go.Proofs.Ytpnialanmidekaa
open Go.RowKit
/-- append of one value of one cell to a row that the call made -/
theorem wpl_app_one {w : World} {ops : Array Oper} {rest : List Oper} {o : Oper} {a : Act} {Q : Exit → Act → World → Prop} (hgd : o.guard = none) (s x : Operand) (t e : TypeId)
    (ho : o.op = .call { callee := .builtin .append, args := #[s, x], argTypes := #[t, t] }) (ht : Try.prog.underlying t = some (.slice e)) (z : Value) (bytes : Nat) (hinfo : (Try.prog.info? e).map (fun i => (i.zero, i.size, i.bytes)) = some (some z, 1, bytes)) (hz : z.cells.size = 1) (hby : bytes ≤ 1000)
    (base : Nat) (v : Value) (n : Nat) (xs : List Value) (hs : a.eval s = v) (hown : Hid (w.ownsRow base e 1 v n xs))
    (ad : Addr) (y : Value) (hy : y.oneCell' = true) (hx : a.eval x = .slice (some ad) 1 1) (hcell : w.cell? ad = some y) (hn : n ≤ 1000000) (hbase : base ≤ w.heap.size)
    (h : ∀ v' w', Hid (w'.ownsRow base e 1 v' (n + 1) (xs ++ [y])) → Hid (w.grownBy w' v.ownBlock) → wpList Try.prog ops Q rest (a.put o.dst v') w') : wpList Try.prog ops Q (o :: rest) a w := by
  obtain ⟨i, hi, hz0, hz1, hz2⟩ := info_parts hinfo
  have hb2 : ((n + 1) + (n + 1) / 4 + 192) * bytes ≤ 281474976710656 := by
    refine Nat.le_trans (Nat.mul_le_mul_left _ hby) ?_
    omega
  refine wpList_append_own_wide w hgd s x t ho base e i z 1 bytes ht hi hz0 hz1 hz2 hz (by omega) v n xs hs hown.out ad 1 1 [y] hx rfl ?_ (by simpa using hy) (by unfold maxLen; omega) hb2 hbase ?_
  · intro j u hj
    match j, hj with
    | 0, hj => simp at hj; subst hj; simpa [Addr.add] using hcell
  · intro v' w' h1 h2 _
    exact h v' w' h1 h2
theorem ptr_parts : (Try.prog.info? 89).map (fun i => (i.zero, i.size, i.bytes)) = some (some (.pointer none), 1, 8) := by kernel_rfl
/-- the sectors that wait among the first j of a file -/
def wlF (x : MF) (j : Nat) : List (Nat × Nat) := ((List.range j).filter fun i => x.f.ws.getD i false).map fun i => (x.g, i)
def wlL (l : List MF) : List (Nat × Nat) := l.flatMap fun x => wlF x x.f.n
def wpV (p : Nat × Nat) : Value := .pointer (some ⟨p.1, p.2 * 129, none⟩)
theorem wlF_succ (x : MF) (j : Nat) : wlF x (j + 1) = wlF x j ++ (if x.f.ws.getD j false = true then [(x.g, j)] else []) := by
  unfold wlF
  rw [List.range_succ, List.filter_append, List.map_append]
  congr 1
  simp only [List.filter_cons, List.filter_nil]
  split <;> rfl
theorem wlL_succ (l : List MF) (i : Nat) (x : MF) (h : l[i]? = some x) : wlL (l.take (i + 1)) = wlL (l.take i) ++ wlF x x.f.n := by
  obtain ⟨hi, rfl⟩ := List.getElem?_eq_some_iff.1 h
  unfold wlL
  rw [List.take_succ_eq_append_getElem hi, List.flatMap_append]; simp
theorem wlF_len (x : MF) : ∀ j, j ≤ x.f.ws.length → (wlF x j).length = waitsN (x.f.ws.take j)
  | 0, _ => rfl
  | j + 1, h => by
    rw [wlF_succ, List.length_append, wlF_len x j (by omega), waitsN_take _ _ (by omega)]
    split <;> rfl
theorem wlL_len : ∀ (l : List MF), (∀ x ∈ l, x.f.ws.length = x.f.n) → (wlL l).length = waitingN (l.map MF.f)
  | [], _ => rfl
  | x :: l, h => by
    unfold wlL
    rw [List.flatMap_cons, List.length_append]
    have h1 := wlL_len l (fun y hy => h y (List.mem_cons_of_mem _ hy))
    unfold wlL at h1
    rw [h1, wlF_len x x.f.n (by rw [h x (List.mem_cons_self ..)]; exact Nat.le_refl _), List.take_of_length_le (by rw [h x (List.mem_cons_self ..)]; exact Nat.le_refl _)]
    simp [waitingN]
theorem wlF_le (x : MF) (j : Nat) : (wlF x j).length ≤ j := by
  unfold wlF
  rw [List.length_map]
  exact Nat.le_trans (List.length_filter_le ..) (by simp)
theorem wlL_le : ∀ (l : List MF), (∀ x ∈ l, x.f.n ≤ 64) → (wlL l).length ≤ 64 * l.length
  | [], _ => by simp [wlL]
  | x :: l, h => by
    have h1 := wlL_le l (fun y hy => h y (List.mem_cons_of_mem _ hy))
    have h2 := wlF_le x x.f.n
    have h3 := h x (List.mem_cons_self ..)
    unfold wlL at h1 ⊢
    rw [List.flatMap_cons, List.length_append, List.length_cons]; omega
theorem look_mem {α : Type} {nm : α → ByteArray} {vl : α → Value} {zv : Value} {l : List α} (h : (l.map nm).Nodup) {x : α} (hx : x ∈ l) : lookV nm vl zv l (nm x) = vl x := by
  unfold lookV atBy
  have e : l.find? (fun y => decide (nm y = nm x)) = some x := by
    induction l with
    | nil => simp at hx
    | cons y r ih =>
      rw [List.map_cons, List.nodup_cons] at h
      rw [List.find?_cons]
      by_cases e : nm y = nm x
      · rw [decide_eq_true e]
        rcases List.mem_cons.1 hx with rfl | hx
        · rfl
        · exact absurd (by rw [e]; exact List.mem_map_of_mem hx) h.1
      · rw [decide_eq_false e]
        rcases List.mem_cons.1 hx with rfl | hx
        · exact absurd rfl e
        · exact ih h.2 hx
  rw [e]
/-- a name of a list of names -/
theorem SS.at_ {w : World} {a : Option Addr} {n c : Nat} {l : List ByteArray} (h : SS w (.slice a n c) l) (i : Nat) (s : ByteArray) (hs : l[i]? = some s) : ∃ b off, a = some ⟨b, off, none⟩ ∧ w.cell? ⟨b, off + i, none⟩ = some (.string s) := by
  have hi := (List.getElem?_eq_some_iff.1 hs).1
  have hn : n = l.length := by obtain ⟨_, _, e, _⟩ := h; simp at e; exact e.2.1
  subst hn
  obtain ⟨b, off, rfl, hc⟩ := CS.at_ h i hi
  refine ⟨b, off, rfl, ?_⟩
  have := hc 0 (by omega)
  rw [Nat.mul_one, Nat.add_zero, List.getElem?_map] at this
  rw [this, Nat.add_zero, hs]; rfl
theorem SS.slice {w : World} {v : Value} {l : List ByteArray} (h : SS w v l) : ∃ a c, v = .slice a l.length c := by
  obtain ⟨a, c, e, _⟩ := CS.form h; exact ⟨a, c, e⟩
theorem size_name {s : ByteArray} (h : rightB s = true) : s.size ≤ maxLen := by
  unfold rightB nameN at h
  simp only [Bool.and_eq_true, decide_eq_true_eq] at h
  have : s.data.toList.length = s.size := Array.length_toList
  unfold maxLen; omega
theorem own_low {w : World} {base base' size : Nat} {e : TypeId} {v : Value} {n : Nat} {xs : List Value} (h : w.ownsRow base e size v n xs) (hb : base' ≤ base) : w.ownsRow base' e size v n xs := by
  refine ⟨h.1, ?_⟩
  rcases h.2 with h2 | ⟨g, cap, cur, hv, hbg, h3⟩
  · exact .inl h2
  · exact .inr ⟨g, cap, cur, hv, Nat.le_trans hb hbg, h3⟩
set_option maxRecDepth 8000 in
set_option maxHeartbeats 1000000 in
theorem pwaiting_any (w : World) (b bm : Nat) (l : List MF) (d : AD) (h : Dk w b bm l d) (hg : Good d) :
    Calls Try.prog 48 #[ptr ⟨b, 0, none⟩] w fun e w' => ∃ v, e = .returned v ∧ w'.ownsRow w.heap.size 89 1 v (wlL l).length ((wlL l).map wpV) ∧ Below w.heap.size w w' := by
  have HD := Lib.hid h
  have HG := Lib.hid hg
  have HN := Lib.hid (h.names hg)
  have hl : l.length ≤ 64 := by have := hg.few; rwa [h.files, List.length_map] at this
  have HL := Lib.hid hl
  have HNM : Hid (d.names = l.map MF.nm) := Lib.hid (by unfold AD.names; rw [h.files, List.map_map]; rfl)
  have HGF : Hid (∀ x ∈ l, GF x.f) := Lib.hid fun x hx => hg.file _ (by rw [h.files]; exact List.mem_map_of_mem hx)
  clear h hg
  go_enter Try.func48, Try.ntmps48
  go_wp2_with (first
    | (go_at_call 24; (with_reducible refine (plist_any _ b bm l d HD.out HG.out).mono ?_); rintro e w1 ⟨v1, rfl, hss, hb⟩; obtain ⟨a1, k1, rfl⟩ := hss.slice; rw [HNM.out, List.length_map] at hss ⊢; have HSS := Lib.hid hss; have HB1 := Lib.hid hb; have HD1 := Lib.hid (HD.out.below hb); clear hss hb))
  go_loopw [3, 11] (fun v iv wr => ∃ i : Nat, iv = .int .i64 i ∧ i ≤ l.length ∧ Hid (wr.ownsRow w1.heap.size 89 1 v (wlL (l.take i)).length ((wlL (l.take i)).map wpV)) ∧ Hid (Below w1.heap.size w1 wr)) (fun _ iv _ => l.length - (intOf iv).toNat)
  case atStart => exact ⟨0, rfl, by omega, ⟨rfl, .inl ⟨rfl, rfl⟩⟩, Below.refl _ _⟩
  case round =>
    obtain ⟨i, rfl, hi, HO, HB⟩ := hrel
    by_cases hlt : (i : Int) < (l.length : Int)
    · obtain ⟨x, hx⟩ := row_some (L := l) (i := i) (by omega)
      have hxm := List.mem_of_getElem? hx
      have HX := Lib.hid hx
      have HXF := Lib.hid (HGF.out x hxm)
      have HSO : Hid (SS wr (.slice a1 l.length k1) (l.map MF.nm)) := Lib.hid (HSS.out.kin (Kin.below HB.out))
      obtain ⟨nb, no, rfl, hcell⟩ := SS.at_ HSO.out i x.f.name (by rw [List.getElem?_map, hx]; rfl)
      have HDO := Lib.hid (HD1.out.below HB.out)
      obtain ⟨fl, lf, hb, _⟩ := HDO.out.blk
      obtain ⟨_, c1, _⟩ := hb.cells
      have HLK := Lib.hid ((look_mem (vl := MF.v) (zv := zS) HN.out hxm).trans (show x.v = .slice (some ⟨x.g, 0, none⟩) x.f.n x.c from rfl))
      have HSZ := Lib.hid (size_name HXF.out.name)
      obtain ⟨n, hn⟩ : ∃ n, x.f.n = n := ⟨_, rfl⟩
      rw [hn] at HLK
      have HXN := Lib.hid hn
      have hn64 : (n : Int) ≤ 64 := by have := HXF.out.n64; omega
      obtain ⟨wo, hwo⟩ : ∃ wo, wo = wr := ⟨_, rfl⟩
      subst hwo
      clear hb hx hxm hn
      go_wp2_with (first
        | (refine wpl_look secE rfl (.tmp 18) (.tmp 19) 69 rfl 9 92 Try.underlying9 Try.underlying69 (zeroS _) bm l rfl HDO.out.map x.f.name rfl HSZ.out ?_; rw [show lookV MF.nm MF.v zS l x.f.name = _ from HLK.out]))
      go_loopw [3, 23] (fun v jv wr => ∃ j : Nat, jv = .int .i64 j ∧ j ≤ n ∧ Hid (wr.ownsRow w1.heap.size 89 1 v (wlL (l.take i) ++ wlF x j).length ((wlL (l.take i) ++ wlF x j).map wpV)) ∧ Hid (Below w1.heap.size w1 wr)) (fun _ jv _ => n - (intOf jv).toNat)
      case atStart => exact ⟨0, rfl, by omega, by rw [show wlF x 0 = [] from rfl, List.append_nil]; exact HO, HB⟩
      case round =>
        obtain ⟨j, rfl, hj, HO2, HB2⟩ := hrel
        by_cases hjn : (j : Int) < (n : Int)
        · have HD2 := Lib.hid (HD1.out.below HB2.out)
          have hwt := (HD2.out.row x (List.mem_of_getElem? HX.out)).wt (secsOf_get x.f j (by rw [HXN.out]; omega))
          dsimp only at hwt
          obtain ⟨q, hq⟩ : ∃ q, x.f.ws.getD j false = q := ⟨_, rfl⟩
          rw [hq] at hwt
          have HS1 := Lib.hid (wlF_succ x j)
          rw [hq] at HS1
          have HLE : Hid ((wlL (l.take i) ++ wlF x j).length ≤ 1000000) := Lib.hid (by
            have h1 := wlL_le (l.take i) (fun y hy => (HGF.out y (List.mem_of_mem_take hy)).n64)
            have h2 := wlF_le x j
            have h3 : (l.take i).length ≤ l.length := List.length_take_le' ..
            have h4 := HL.out
            rw [List.length_append]; omega)
          have hjb : j < n := by omega
          have hidx : (129 : Nat) * n ≤ 9223372036854775807 := by omega
          cases q with
          | true =>
            rw [if_pos rfl] at HS1
            have HSB := Lib.hid HB2.out.size
            go_wp2_with (first
              | (at_builtin; refine wpl_app_one rfl (.tmp 31) (.tmp 35) 87 89 rfl Try.underlying87 (.pointer none) 8 ptr_parts rfl (by omega) w1.heap.size _ _ _ rfl (Lib.hid (HO2.out.alloc _)) ⟨wr.heap.size, 0, none⟩ (wpV (x.g, j)) rfl rfl (cell_of_row _ _ 0 _ _ _ (heap_alloc_last wr _)) HLE.out (by have := HSB.out; rw [alloc_size]; omega) ?_; intro v2 w2 HO4 hG; have HB4 := Lib.hid (grown_alloc_trans hG.out HB2.out (fun j hj => (HO2.out.lt j hj).1)); clear hG))
            have HO5 : Hid (w2.ownsRow w1.heap.size 89 1 v2 (wlL (l.take i) ++ wlF x (j + 1)).length ((wlL (l.take i) ++ wlF x (j + 1)).map wpV)) := by
              have h1 := HO4.out
              rw [HS1.out, ← List.append_assoc, List.length_append, List.map_append]; exact h1
            go_roundw
            case rel => exact ⟨j + 1, by go_num, by omega, HO5, HB4⟩
            case measure => simp [intOf]; omega
          | false =>
            rw [if_neg (by simp), List.append_nil] at HS1
            have HO5 : Hid (wr.ownsRow w1.heap.size 89 1 u3 (wlL (l.take i) ++ wlF x (j + 1)).length ((wlL (l.take i) ++ wlF x (j + 1)).map wpV)) := by
              rw [HS1.out]; exact HO2
            go_wp2
            go_roundw
            case rel => exact ⟨j + 1, by go_num, by omega, HO5, HB2⟩
            case measure => simp [intOf]; omega
        · obtain rfl : j = n := by omega
          have HO3 : Hid (wr.ownsRow w1.heap.size 89 1 u3 (wlL (l.take (i + 1))).length ((wlL (l.take (i + 1))).map wpV)) := by
            rw [wlL_succ l i x HX.out, HXN.out]; exact HO2
          go_wp2
          go_roundw
          case rel => exact ⟨i + 1, by go_num, by omega, HO3, HB2⟩
          case measure => simp [intOf]; omega
    · obtain rfl : i = l.length := by omega
      rw [List.take_length] at HO
      go_wp2
      go_ret
      exact ⟨_, rfl, own_low HO.out HB1.out.size, HB1.out.trans (HB.out.mono HB1.out.size)⟩
end Go.Proofs.Ytpnialanmidekaa
/-
  LAYER 8 (disk), the program's own disk: sectors by value (a load out of a file's row, a box), appends of sectors and files, Waiting. No condition.
-/
namespace Go.Proofs.Ytpnialanmidekaa
open Go.RowKit
theorem sz_size : Try.zeroCells95.size = 129 := by kernel_rfl
theorem sct_info (c : Array Value) (h : c.size = 129) : (Try.prog.info? 95).map (·.size) = some c.size := by rw [h]; kernel_rfl
def scv (s : Sc) : Array Value := s.cells.toArray
theorem scv_size {s : Sc} (h : s.ok) : (scv s).size = 129 := by simp [scv, h.len]
theorem Sc.one (s : Sc) : ∀ v ∈ s.cells, v.oneCell' = true := by
  intro v hv
  unfold Sc.cells at hv
  simp only [List.mem_append, List.mem_singleton] at hv
  rcases hv with h | h | rfl
  · exact il_one _ _ v h
  · exact il_one _ _ v h
  · rfl
/-- a box that holds a sector of a file -/
def XB (w : World) (g : Nat) (s : Sc) : Prop := w.heap[g]? = some (.cells (scv s) 95 (0, 0)) ∧ s.ok
theorem XB.keep {w w' : World} {g : Nat} {s : Sc} (h : XB w g s) (hb : Below w.heap.size w w') : XB w' g s := ⟨by rw [hb.block g (Array.getElem?_eq_some_iff.1 h.1).1]; exact h.1, h.2⟩
theorem XB.sr {w : World} {g : Nat} {s : Sc} (h : XB w g s) : SR w g 1 [s] := by
  refine ⟨s.cells, h.1, by rw [h.2.len], by simp, by unfold maxLen; omega, fun i t ht => ?_⟩
  have hi : i = 0 := by have := (List.getElem?_eq_some_iff.1 ht).1; simpa using this
  subst hi
  simp at ht
  subst ht
  exact ⟨h.2, fun j v hv => by simpa using hv⟩
theorem XB.la {w : World} {g : Nat} {s : Sc} (h : XB w g s) : At w g 0 s.la := by simpa using h.sr.la (i := 0) rfl
theorem XB.se {w : World} {g : Nat} {s : Sc} (h : XB w g s) : At w g 64 s.se := by simpa using h.sr.se (i := 0) rfl
section
variable {w : World} {ops : Array Oper} {rest : List Oper} {o : Oper} {a : Act} {Q : Exit → Act → World → Prop}
/-- a sector of a file is loaded out of its row -/
theorem wpl_load_sc (hgd : o.guard = none) (x : Operand) (ho : o.op = .load 95 x) (g c : Nat) (S : List Sc) (h : SR w g c S) (i : Nat) (s : Sc) (hs : S[i]? = some s) (off : Nat) (hoff : i * 129 = off) (hx : a.eval x = .pointer (some ⟨g, off, none⟩))
    (hk : wpList Try.prog ops Q rest (a.put o.dst (.agg (scv s))) w) : wpList Try.prog ops Q (o :: rest) a w := by
  subst hoff
  refine wpList_load_mid hgd 95 x ho g (i * 129) hx s.cells _ ?_ Try.underlying95 rfl ?_ hk
  · intro j v hv
    exact h.cell hs hv
  · have := sct_info (scv s) (scv_size (h.ok hs))
    simpa [scv] using this
/-- .. and stored into a variable that was made for it -/
theorem wpl_store_sc {w1 : World} (hgd : o.guard = none) (x y : Operand) (ho : o.op = .store 95 x y) (hw : w = w1.alloc (.cells Try.zeroCells95 95)) (g : Nat) (hg : w1.heap.size = g) (s : Sc) (hs : s.ok)
    (hx : a.eval x = .pointer (some ⟨g, 0, none⟩)) (hy : a.eval y = .agg (scv s)) (h : ∀ w', Hid (XB w' g s) → Hid (Below w1.heap.size w1 w') → wpList Try.prog ops Q rest (a.put o.dst undef) w') : wpList Try.prog ops Q (o :: rest) a w := by
  subst hw; subst hg
  have hk : (w1.alloc (.cells Try.zeroCells95 95)).heap[w1.heap.size]? = some (.cells Try.zeroCells95 95 (0, 0)) := heap_alloc_last w1 _
  refine wpList_store_row hgd 95 x y ho w1.heap.size (scv s) hx hy _ _ hk (sct_info _ (scv_size hs)) (by rw [scv_size hs, sz_size]) (all_oneCell_toArray s.one) ?_
  exact h _ ⟨setRow_heap _ _ _ _ _ _ hk, hs⟩ (below_row (below_alloc w1 _) (Nat.le_refl _) _)
end
theorem pWaiting_any (w : World) (b bm : Nat) (l : List MF) (d : AD) (h : Dk w b bm l d) (hg : Good d) :
    Calls Try.prog 27 #[ptr ⟨b, 0, none⟩] w fun e w' => e = .returned (.int .i64 (waitingN d.L : Int)) ∧ Below w.heap.size w w' := by
  have HD := Lib.hid h
  have HG := Lib.hid hg
  have HE : Hid ((wlL l).length = waitingN d.L) := Lib.hid (by
    rw [h.files]
    exact wlL_len l fun x hx => (hg.file _ (by rw [h.files]; exact List.mem_map_of_mem hx)).ws)
  obtain ⟨n, hn⟩ : ∃ n, waitingN d.L = n := ⟨_, rfl⟩
  rw [hn] at HE ⊢
  clear h hg hn
  go_enter Try.func27, Try.ntmps27
  go_wp2_with (first
    | (go_at_call 48; (with_reducible refine (pwaiting_any _ b bm l d HD.out HG.out).mono ?_); rintro e w1 ⟨v1, rfl, hcs, hb⟩; rw [HE.out] at hcs; have HB := Lib.hid hb; obtain ⟨a1, k1, rfl, _⟩ := (CS.own hcs).form; clear hcs hb))
  go_ret
  exact ⟨rfl, HB.out⟩
/-- what a call owns stays while others are made -/
theorem own_stay {w w' : World} {base size : Nat} {e : TypeId} {v : Value} {n : Nat} {xs : List Value} (h : w.ownsRow base e size v n xs) (hb : Below w.heap.size w w') : w'.ownsRow base e size v n xs := by
  refine ⟨h.1, ?_⟩
  rcases h.2 with h2 | ⟨g, cap, cur, hv, hbg, hcur, h3⟩
  · exact .inl h2
  · exact .inr ⟨g, cap, cur, hv, hbg, by rw [hb.block g (Array.getElem?_eq_some_iff.1 hcur).1]; exact hcur, h3⟩
theorem own_base {w : World} {base base' size : Nat} {e : TypeId} {v : Value} {n : Nat} {xs : List Value} (h : w.ownsRow base e size v n xs) (hb : base' ≤ base) : w.ownsRow base' e size v n xs := own_low h hb
/-- files that a call has gathered: a row of them, each with its own row of sectors -/
def LO (B : Nat) (w : World) (v : Value) (fs : List LFile) : Prop :=
  ∃ es : List (List Value), w.ownsRow B 44 2 v fs.length es.flatten ∧ es.length = fs.length ∧ ∀ (k : Nat) (e : List Value) (f : LFile), es[k]? = some e → fs[k]? = some f → ∃ v1, e = [.string f.1, v1] ∧ w.ownsRow B 67 64 v1 f.2.1 (il .u8 f.2.2)
theorem LO.nil (B : Nat) (w : World) : LO B w (.slice none 0 0) [] := ⟨[], ⟨rfl, .inl ⟨rfl, rfl⟩⟩, rfl, fun k e f he => by simp at he⟩
theorem LO.keep {B : Nat} {w w' : World} {v : Value} {fs : List LFile} (h : LO B w v fs) (hb : Below w.heap.size w w') : LO B w' v fs := by
  obtain ⟨es, h1, h2, h3⟩ := h
  exact ⟨es, own_stay h1 hb, h2, fun k e f he hf => by obtain ⟨v1, e1, e2⟩ := h3 k e f he hf; exact ⟨v1, e1, own_stay e2 hb⟩⟩
theorem LO.la {B : Nat} {w : World} {v : Value} {fs : List LFile} (h : LO B w v fs) : LA w v fs := by
  obtain ⟨es, h1, h2, h3⟩ := h
  refine ⟨es, CS.own h1, h2, fun e he => ?_, fun k e f he hf => ?_⟩
  · obtain ⟨k, hk, rfl⟩ := List.getElem_of_mem he
    obtain ⟨v1, e1, _⟩ := h3 k _ _ (List.getElem?_eq_getElem hk) (List.getElem?_eq_getElem (by omega))
    rw [e1]; rfl
  · obtain ⟨v1, e1, e2⟩ := h3 k e f he hf
    exact ⟨v1, e1, FS.own e2⟩
theorem afile_parts : (Try.prog.info? 44).map (fun i => (i.zero, i.size, i.bytes)) = some (some (.agg #[.string ByteArray.empty, .slice none 0 0]), 2, 40) := by kernel_rfl
/-- one file more -/
theorem wpl_app_lf {w : World} {ops : Array Oper} {rest : List Oper} {o : Oper} {a : Act} {Q : Exit → Act → World → Prop} (hgd : o.guard = none) (s x : Operand)
    (ho : o.op = .call { callee := .builtin .append, args := #[s, x], argTypes := #[41, 41] })
    (B : Nat) (v : Value) (fs : List LFile) (hs : a.eval s = v) (hown : Hid (LO B w v fs)) (g : Nat) (f : LFile) (v1 : Value) (hx : a.eval x = .slice (some ⟨g, 0, none⟩) 1 1) (hblk : w.heap[g]? = some (.cells #[.string f.1, v1] 44 (0, 0))) (hf : w.ownsRow B 67 64 v1 f.2.1 (il .u8 f.2.2))
    (hn : fs.length ≤ 1000000) (hbase : B ≤ w.heap.size)
    (h : ∀ v' w', Hid (LO B w' v' (fs ++ [f])) → Hid (Below B w w') → wpList Try.prog ops Q rest (a.put o.dst v') w') : wpList Try.prog ops Q (o :: rest) a w := by
  obtain ⟨i, hi, hz0, hz1, hz2⟩ := info_parts afile_parts
  obtain ⟨es, h1, h2, h3⟩ := hown.out
  have hone : v1.oneCell' = true := by
    rcases hf.2 with ⟨rfl, _⟩ | ⟨_, _, _, rfl, _⟩ <;> rfl
  refine wpList_append_own_wide w hgd s x 41 ho B 44 i _ 2 40 Try.underlying41 hi hz0 hz1 hz2 rfl (by omega) v fs.length es.flatten hs h1 ⟨g, 0, none⟩ 1 1 [.string f.1, v1] hx rfl ?_ ?_ (by unfold maxLen; omega) (by omega) hbase ?_
  · intro j u hj
    have hc : w.cell? ⟨g, j, none⟩ = some u := by rw [cell_of_row _ g j _ _ _ hblk]; simpa using hj
    by_cases h0 : j = 0
    · subst h0; simpa [Addr.add] using hc
    · simpa [Addr.add, h0] using hc
  · intro u hu
    simp only [List.mem_cons, List.not_mem_nil, or_false] at hu
    rcases hu with rfl | rfl
    · rfl
    · exact hone
  · intro v' w' ho' hg _
    have hne : 67 ≠ 44 := by decide
    refine h v' w' ⟨es ++ [[.string f.1, v1]], by rw [List.flatten_append, List.flatten_singleton, List.length_append]; exact ho', by simp [h2], fun k e q he hq => ?_⟩ ((Below.refl B w).grown hg hbase (fun j hj => (h1.lt j hj).1))
    by_cases hk : k < fs.length
    · rw [List.getElem?_append_left (by omega)] at he
      rw [List.getElem?_append_left hk] at hq
      obtain ⟨u, e1, e2⟩ := h3 k e q he hq
      exact ⟨u, e1, own_over e2 hg (own_types e2 h1 hne)⟩
    · rw [List.getElem?_append_right (by omega)] at he hq
      have hk0 : k - fs.length = 0 := by have := (List.getElem?_eq_some_iff.1 hq).1; simpa using this
      rw [h2, hk0] at he
      rw [hk0] at hq
      simp at he hq
      subst he; subst hq
      exact ⟨v1, rfl, own_over hf hg (own_types hf h1 hne)⟩
end Go.Proofs.Ytpnialanmidekaa
