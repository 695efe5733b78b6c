/-
  TEXTS JOINED: DkLook, DkMay, DkUsed, DkList, DkWaits, DkVal, DkFiles. Each one's own words stand at its head.
-/
import Derived.Test.YtpoiapfgbbmekaaGreatDoorJ5
import Derived.Test.YtpoiapfgbbmekaaGreatDoorJ2
import Derived.Test.YtpoiapfgbbmekaaGreatDoorJ4
import Derived.Lib.MinMax
import Derived.Test.YtpoiapfgbbmekaaGreatDoorJ7
import Derived.Sort.KeysCollected
import Derived.Sort.OwnSorted
namespace Go.Proofs.YtpoiapfgbbmekaaGreatDoor
open Go.RowKit
theorem zeroS (w : World) : (zeroValue 125).run Tryz.prog w = .ok zS w := by kernel_rfl
theorem size_le {s : ByteArray} (h : s.size ≤ 281474976710656) : s.size ≤ maxLen := by unfold maxLen; omega
set_option maxRecDepth 8000 in
theorem psize_any (w : World) (b bm : Nat) (l : List MF) (d : AD) (s : ByteArray) (h : Dk w b bm l d) (hs : s.size ≤ 281474976710656) :
    Calls Tryz.prog 41 #[ptr ⟨b, 0, none⟩, .string s] w fun e w' => e = .returned (.int .i64 (if d.has s then ((d.get s).n : Int) else 0)) ∧ w = w' := by
  have HM := Lib.hid h.map
  have HZ := Lib.hid (size_le hs)
  obtain ⟨fl, lf, hb, _⟩ := h.blk
  obtain ⟨c0, c1, c2, c3, c4, c5⟩ := hb.cells
  by_cases hh : d.has s
  · obtain ⟨x, _, hf, _, hl⟩ := h.has s hh
    rw [if_pos hh, ← hf]
    have HL := Lib.hid (hl.trans (show x.v = .slice (some ⟨x.g, 0, none⟩) x.f.n x.c from rfl))
    clear hb hs h hl hf hh
    go_enter Tryz.func41, Tryz.ntmps41
    go_wp2_with (first
      | (refine wpl_look secE rfl (.tmp 10) (.tmp 11) 69 rfl 9 125 Tryz.underlying9 Tryz.underlying69 (zeroS _) bm l rfl HM.out s rfl HZ.out ?_; rw [HL.out]))
    go_ret
    exact ⟨rfl, rfl⟩
  · have HL := Lib.hid (h.hasnt s hh)
    rw [if_neg hh]
    clear hb hs h hh
    go_enter Tryz.func41, Tryz.ntmps41
    go_wp2_with (first
      | (refine wpl_look secE rfl (.tmp 10) (.tmp 11) 69 rfl 9 125 Tryz.underlying9 Tryz.underlying69 (zeroS _) bm l rfl HM.out s rfl HZ.out ?_; rw [HL.out]))
    go_ret
    exact ⟨rfl, rfl⟩
theorem pops_any (w : World) (b bm : Nat) (l : List MF) (d : AD) (h : Dk w b bm l d) :
    Calls Tryz.prog 26 #[ptr ⟨b, 0, none⟩] w fun e w' => e = .returned (.int .i64 d.ops) ∧ w = w' := by
  obtain ⟨fl, lf, hb, _⟩ := h.blk
  obtain ⟨c0, c1, c2, c3, c4, c5⟩ := hb.cells
  clear hb h
  go_enter Tryz.func26, Tryz.ntmps26
  go_wp2
  go_ret
  exact ⟨rfl, rfl⟩
theorem pdown_any (w : World) (b bm : Nat) (l : List MF) (d : AD) (h : Dk w b bm l d) :
    Calls Tryz.prog 62 #[ptr ⟨b, 0, none⟩] w fun e w' => e = .returned (.bool d.down) ∧ w = w' := by
  obtain ⟨fl, lf, hb, _⟩ := h.blk
  obtain ⟨c0, c1, c2, c3, c4, c5⟩ := hb.cells
  clear hb h
  go_enter Tryz.func62, Tryz.ntmps62
  go_wp2
  go_ret
  exact ⟨rfl, rfl⟩
theorem nearer_any (n m : Int) (_hn : I63 n) (_hm : I63 m) (w : World) :
    Calls Tryz.prog 27 #[.int .i64 n, .int .i64 m] w fun e w' => e = .returned (.int .i64 (min (max n 0) m)) ∧ w = w' := by
  go_enter Tryz.func27, Tryz.ntmps27
  go_wp2
  go_ret
  refine ⟨?_, rfl⟩
  first | rfl | skip
abbrev jobC (p : Addr) (s t : ByteArray) (x n : Int) (v : Value) : Array Value := #[ptr p, .string s, .string t, .int .i64 x, .int .i64 n, v]
abbrev jobV (p : Addr) (s t : ByteArray) (x n : Int) (v : Value) : Value := .agg (jobC p s t x n v)
set_option maxRecDepth 8000 in
theorem mayFind_any (w : World) (b bm : Nat) (l : List MF) (d : AD) (s t : ByteArray) (x n : Int) (a : Option Addr) (m c : Nat) (h : Dk w b bm l d) (hg : Good d) (hs : s.size ≤ 281474976710656) :
    Calls Tryz.prog 68 #[jobV ⟨b, 0, none⟩ s t x n (.slice a m c)] w fun e w' => e = .returned (.int .i64 (if d.has s then 0 else 7)) ∧ Below w.heap.size w w' := by
  have HD := Lib.hid (h.below (below_alloc w (.cells (jobC ⟨b, 0, none⟩ s t x n (.slice a m c)) 89)))
  have HS := Lib.hid hs
  have HB := Lib.hid (below_alloc w (.cells (jobC ⟨b, 0, none⟩ s t x n (.slice a m c)) 89))
  by_cases hh : d.has s
  · have h1 := (hg.file _ (get_mem hh)).n1
    have h2 := (hg.file _ (get_mem hh)).n64
    obtain ⟨k, hk⟩ : ∃ k, (d.get s).n = k := ⟨_, rfl⟩
    rw [hk] at h1 h2
    have HK := Lib.hid (show (if d.has s then ((d.get s).n : Int) else 0) = (k : Int) by rw [if_pos hh, hk])
    rw [if_pos hh]
    clear h hs hg hh hk
    go_enter Tryz.func68, Tryz.ntmps68
    go_wp2_with (first
      | (go_at_call 41; (with_reducible refine (psize_any _ b bm l d s HD.out HS.out).mono ?_); rintro e w1 ⟨rfl, rfl⟩; rw [HK.out]))
    all_goals first | (exfalso; omega) | skip
    all_goals go_ret
    all_goals exact ⟨rfl, HB.out⟩
  · have HK := Lib.hid (show (if d.has s then ((d.get s).n : Int) else 0) = 0 by rw [if_neg hh])
    rw [if_neg hh]
    clear h hs hg hh
    go_enter Tryz.func68, Tryz.ntmps68
    go_wp2_with (first
      | (go_at_call 41; (with_reducible refine (psize_any _ b bm l d s HD.out HS.out).mono ?_); rintro e w1 ⟨rfl, rfl⟩; rw [HK.out]))
    all_goals go_ret
    all_goals exact ⟨rfl, HB.out⟩
def JB (w : World) (g : Nat) (cs : Array Value) : Prop := w.heap[g]? = some (.cells cs 89 (0, 0))
theorem JB.below {w w' : World} {g : Nat} {cs : Array Value} (h : JB w g cs) (hb : Below w.heap.size w w') : JB w' g cs := by
  unfold JB at *; rw [hb.block g (Array.getElem?_eq_some_iff.1 h).1]; exact h
theorem JB.new (w : World) (cs : Array Value) : JB (w.alloc (.cells cs 89)) w.heap.size cs := heap_alloc_last w _
theorem JB.cells {w : World} {g : Nat} {v0 v1 v2 v3 v4 v5 : Value} (h : JB w g #[v0, v1, v2, v3, v4, v5]) :
    w.cell? ⟨g, 0, none⟩ = some v0 ∧ w.cell? ⟨g, 1, none⟩ = some v1 ∧ w.cell? ⟨g, 2, none⟩ = some v2 ∧ w.cell? ⟨g, 3, none⟩ = some v3 ∧ w.cell? ⟨g, 4, none⟩ = some v4 ∧ w.cell? ⟨g, 5, none⟩ = some v5 := by
  have hc := fun j => cell_of_row w g j _ _ _ h
  exact ⟨hc 0, hc 1, hc 2, hc 3, hc 4, hc 5⟩
structure Jd (w : World) (b bm : Nat) (l : List MF) (d : AD) (s t : ByteArray) (x n : Int) (v : Value) (w' : World) : Prop where
  below : Below w.heap.size w w'
  size : w.heap.size < w'.heap.size
  jb : JB w' w.heap.size (jobC ⟨b, 0, none⟩ s t x n v)
  dk : Dk w' b bm l d
theorem Jd.start {w : World} {b bm : Nat} {l : List MF} {d : AD} (h : Dk w b bm l d) (s t : ByteArray) (x n : Int) (v : Value) : Jd w b bm l d s t x n v (w.alloc (.cells (jobC ⟨b, 0, none⟩ s t x n v) 89)) :=
  ⟨below_alloc w _, by rw [alloc_size]; omega, JB.new w _, h.below (below_alloc w _)⟩
theorem Jd.next {w w1 w2 : World} {b bm : Nat} {l : List MF} {d : AD} {s t : ByteArray} {x n : Int} {v : Value} (h : Jd w b bm l d s t x n v w1) (hb : Below w1.heap.size w1 w2) : Jd w b bm l d s t x n v w2 :=
  ⟨chain h.below hb, Nat.lt_of_lt_of_le h.size hb.size, h.jb.below hb, h.dk.below hb⟩
theorem Jd.five {w w1 : World} {b bm : Nat} {l : List MF} {d : AD} {s t : ByteArray} {x n : Int} {v : Value} (h : Jd w b bm l d s t x n v w1) :
    w1.cell? ⟨w.heap.size, 0, none⟩ = some (ptr ⟨b, 0, none⟩) ∧ w1.cell? ⟨w.heap.size, 1, none⟩ = some (.string s) ∧ w1.cell? ⟨w.heap.size, 3, none⟩ = some (.int .i64 x) ∧ w1.cell? ⟨w.heap.size, 4, none⟩ = some (.int .i64 n) ∧ Jd w b bm l d s t x n v w1 := by
  obtain ⟨c0, c1, _, c3, c4, _⟩ := h.jb.cells
  exact ⟨c0, c1, c3, c4, h⟩
theorem Jd.drew {w w1 : World} {b bm : Nat} {l : List MF} {d : AD} {s t : ByteArray} {x n : Int} {v : Value} (h : Jd w b bm l d s t x n v w1) : Jd w b bm l d s t x n v w1.drew := h.next (Below.refl _ _).drew
set_option maxRecDepth 8000 in
set_option maxHeartbeats 1000000 in
theorem mayReach_any (w : World) (b bm : Nat) (l : List MF) (d : AD) (s t : ByteArray) (x n : Int) (a : Option Addr) (m c : Nat) (h : Dk w b bm l d) (hg : Good d) (hs : s.size ≤ 281474976710656) (hx : I63 x) (hn : I63 n) (y : Int)
    (hy : (if ¬ d.has s then 7 else if x < 0 ∨ n < 0 ∨ ((d.get s).n : Int) - n < x then 4 else 0) = y) :
    Calls Tryz.prog 59 #[jobV ⟨b, 0, none⟩ s t x n (.slice a m c)] w fun e w' => e = .returned (.int .i64 y) ∧ Below w.heap.size w w' := by
  have HJ := Lib.hid (Jd.start h s t x n (.slice a m c))
  have HS := Lib.hid hs
  have HG := Lib.hid hg
  have hx' : -9223372036854775808 ≤ x ∧ x ≤ 9223372036854775807 := hx
  have hn' : -9223372036854775808 ≤ n ∧ n ≤ 9223372036854775807 := hn
  by_cases hh : d.has s
  · rw [if_neg (by simpa using hh)] at hy
    have h2 := (hg.file _ (get_mem hh)).n64
    have HF := Lib.hid (show (if d.has s then (0 : Int) else 7) = 0 by rw [if_pos hh])
    obtain ⟨k, hk⟩ : ∃ k, (d.get s).n = k := ⟨_, rfl⟩
    have HZ := Lib.hid (show (if d.has s then ((d.get s).n : Int) else 0) = (k : Int) by rw [if_pos hh, hk])
    rw [hk] at hy h2
    clear h hs hg hx hn hh hk
    by_cases h3 : x < 0
    · rw [if_pos (.inl h3)] at hy
      subst hy
      go_enter Tryz.func59, Tryz.ntmps59
      go_wp2_with (first
        | (refine wpList_load_row rfl 89 _ rfl w.heap.size rfl _ (jobC ⟨b, 0, none⟩ s t x n (.slice a m c)) (0, 0) _ HJ.out.jb Tryz.underlying89 rfl (by kernel_rfl) ?_)
        | (go_at_call 68; (with_reducible refine (mayFind_any _ b bm l d s t x n a m c HJ.out.dk HG.out HS.out).mono ?_); rintro e w1 ⟨rfl, hb⟩; rw [HF.out]; have HJ1 := Lib.hid (HJ.out.next hb); clear hb))
      refine wp_region_held_drew (S := (fun w' => w'.cell? ⟨w.heap.size, 0, none⟩ = some (ptr ⟨b, 0, none⟩) ∧ w'.cell? ⟨w.heap.size, 1, none⟩ = some (.string s) ∧ w'.cell? ⟨w.heap.size, 3, none⟩ = some (.int .i64 x) ∧ w'.cell? ⟨w.heap.size, 4, none⟩ = some (.int .i64 n) ∧ Jd w b bm l d s t x n (.slice a m c) w')) (by kernel_rfl) (Jd.five HJ1.out.drew) (fun hS => ?_)
      refine rgw 0 ⟨some 9, .fieldAddr 89 (.tmp 1) 3, 0, _, _, none⟩ hS ?_
      refine rgw 1 ⟨some 10, .load 3 (.tmp 9), 3, _, _, none⟩ hS ?_
      refine rgw 2 ⟨some 11, .binOp .lss 3 (.tmp 10) (.const (.int .i64 0)) 3, 4, _, _, none⟩ hS ?_
      refine rgw 3 ⟨some 12, .move (.tmp 11), 4, _, _, none⟩ hS ?_
      refine rgt 4 (oi := ⟨some 13, .fieldAddr 89 (.tmp 1) 4, 0, _, _, some (3, false)⟩) (v := undef) rfl (.inr ⟨by rfl, rfl⟩) hS ?_
      (try simp only [rgp])
      refine rgt 5 (oi := ⟨some 14, .load 3 (.tmp 13), 3, _, _, some (3, false)⟩) (v := undef) rfl (.inr ⟨by rfl, rfl⟩) hS ?_
      (try simp only [rgp])
      refine rgt 6 (oi := ⟨some 15, .binOp .lss 3 (.tmp 14) (.const (.int .i64 0)) 3, 4, _, _, some (3, false)⟩) (v := undef) rfl (.inr ⟨by rfl, rfl⟩) hS ?_
      (try simp only [rgp])
      refine rgw 7 ⟨some 16, .pick (.tmp 12) (.const (.bool true)) (.tmp 15), 4, _, _, none⟩ hS ?_
      refine rgw 8 ⟨some 17, .move (.tmp 16), 4, _, _, none⟩ hS ?_
      refine rgt 9 (oi := ⟨some 18, .fieldAddr 89 (.tmp 1) 3, 0, _, _, some (8, false)⟩) (v := undef) rfl (.inr ⟨by rfl, rfl⟩) hS ?_
      (try simp only [rgp])
      refine rgt 10 (oi := ⟨some 19, .load 3 (.tmp 18), 3, _, _, some (8, false)⟩) (v := undef) rfl (.inr ⟨by rfl, rfl⟩) hS ?_
      (try simp only [rgp])
      refine rgt 11 (oi := ⟨some 20, .fieldAddr 89 (.tmp 1) 0, 0, _, _, some (8, false)⟩) (v := undef) rfl (.inr ⟨by rfl, rfl⟩) hS ?_
      (try simp only [rgp])
      refine rgt 12 (oi := ⟨some 21, .load 24 (.tmp 20), 24, _, _, some (8, false)⟩) (v := undef) rfl (.inr ⟨by rfl, rfl⟩) hS ?_
      (try simp only [rgp])
      refine rgt 13 (oi := ⟨some 22, .fieldAddr 89 (.tmp 1) 1, 0, _, _, some (8, false)⟩) (v := undef) rfl (.inr ⟨by rfl, rfl⟩) hS ?_
      (try simp only [rgp])
      refine rgt 14 (oi := ⟨some 23, .load 9 (.tmp 22), 9, _, _, some (8, false)⟩) (v := undef) rfl (.inr ⟨by rfl, rfl⟩) hS ?_
      (try simp only [rgp])
      refine rgt 15 (oi := ⟨some 24, .call { callee := .value (.func 41), args := #[.tmp 21, .tmp 23], argTypes := #[24, 9] }, 3, _, _, some (8, false)⟩) (v := undef) rfl (.inr ⟨by rfl, rfl⟩) hS ?_
      (try simp only [rgp])
      refine rgt 16 (oi := ⟨some 25, .fieldAddr 89 (.tmp 1) 4, 0, _, _, some (8, false)⟩) (v := undef) rfl (.inr ⟨by rfl, rfl⟩) hS ?_
      (try simp only [rgp])
      refine rgt 17 (oi := ⟨some 26, .load 3 (.tmp 25), 3, _, _, some (8, false)⟩) (v := undef) rfl (.inr ⟨by rfl, rfl⟩) hS ?_
      (try simp only [rgp])
      refine rgt 18 (oi := ⟨some 27, .binOp .sub 3 (.tmp 24) (.tmp 26) 3, 3, _, _, some (8, false)⟩) (v := undef) rfl (.inr ⟨by rfl, rfl⟩) hS ?_
      (try simp only [rgp])
      refine rgt 19 (oi := ⟨some 28, .binOp .gtr 3 (.tmp 19) (.tmp 27) 3, 4, _, _, some (8, false)⟩) (v := undef) rfl (.inr ⟨by rfl, rfl⟩) hS ?_
      (try simp only [rgp])
      refine rgw 20 ⟨some 29, .pick (.tmp 17) (.const (.bool true)) (.tmp 28), 4, _, _, none⟩ hS ?_
      refine wpAnyH_done (by kernel_rfl) ?_ _
      have HB := Lib.hid hS.2.2.2.2.below
      clear hS
      go_wp2
      go_ret
      exact ⟨rfl, HB.out⟩
    have hd3 : decide (x < 0) = false := decide_eq_false h3
    by_cases h4 : n < 0
    · have hd4 : decide (n < 0) = true := decide_eq_true h4
      rw [if_pos (.inr (.inl h4))] at hy
      subst hy
      go_enter Tryz.func59, Tryz.ntmps59
      go_wp2_with (first
        | (refine wpList_load_row rfl 89 _ rfl w.heap.size rfl _ (jobC ⟨b, 0, none⟩ s t x n (.slice a m c)) (0, 0) _ HJ.out.jb Tryz.underlying89 rfl (by kernel_rfl) ?_)
        | (go_at_call 68; (with_reducible refine (mayFind_any _ b bm l d s t x n a m c HJ.out.dk HG.out HS.out).mono ?_); rintro e w1 ⟨rfl, hb⟩; rw [HF.out]; have HJ1 := Lib.hid (HJ.out.next hb); clear hb))
      refine wp_region_held_drew (S := (fun w' => w'.cell? ⟨w.heap.size, 0, none⟩ = some (ptr ⟨b, 0, none⟩) ∧ w'.cell? ⟨w.heap.size, 1, none⟩ = some (.string s) ∧ w'.cell? ⟨w.heap.size, 3, none⟩ = some (.int .i64 x) ∧ w'.cell? ⟨w.heap.size, 4, none⟩ = some (.int .i64 n) ∧ Jd w b bm l d s t x n (.slice a m c) w')) (by kernel_rfl) (Jd.five HJ1.out.drew) (fun hS => ?_)
      refine rgw 0 ⟨some 9, .fieldAddr 89 (.tmp 1) 3, 0, _, _, none⟩ hS ?_
      refine rgw 1 ⟨some 10, .load 3 (.tmp 9), 3, _, _, none⟩ hS ?_
      refine rgw 2 ⟨some 11, .binOp .lss 3 (.tmp 10) (.const (.int .i64 0)) 3, 4, _, _, none⟩ hS ?_ (v := .bool false) (hy := by intro w hSw; (try dsimp only at hSw); go_simp)
      refine rgw 3 ⟨some 12, .move (.tmp 11), 4, _, _, none⟩ hS ?_
      refine rgw 4 ⟨some 13, .fieldAddr 89 (.tmp 1) 4, 0, _, _, some (3, false)⟩ hS ?_
      refine rgw 5 ⟨some 14, .load 3 (.tmp 13), 3, _, _, some (3, false)⟩ hS ?_
      refine rgw 6 ⟨some 15, .binOp .lss 3 (.tmp 14) (.const (.int .i64 0)) 3, 4, _, _, some (3, false)⟩ hS ?_ (v := .bool true) (hy := by intro w hSw; (try dsimp only at hSw); go_simp)
      refine rgw 7 ⟨some 16, .pick (.tmp 12) (.const (.bool true)) (.tmp 15), 4, _, _, none⟩ hS ?_
      refine rgw 8 ⟨some 17, .move (.tmp 16), 4, _, _, none⟩ hS ?_
      refine rgt 9 (oi := ⟨some 18, .fieldAddr 89 (.tmp 1) 3, 0, _, _, some (8, false)⟩) (v := undef) rfl (.inr ⟨by rfl, rfl⟩) hS ?_
      (try simp only [rgp])
      refine rgt 10 (oi := ⟨some 19, .load 3 (.tmp 18), 3, _, _, some (8, false)⟩) (v := undef) rfl (.inr ⟨by rfl, rfl⟩) hS ?_
      (try simp only [rgp])
      refine rgt 11 (oi := ⟨some 20, .fieldAddr 89 (.tmp 1) 0, 0, _, _, some (8, false)⟩) (v := undef) rfl (.inr ⟨by rfl, rfl⟩) hS ?_
      (try simp only [rgp])
      refine rgt 12 (oi := ⟨some 21, .load 24 (.tmp 20), 24, _, _, some (8, false)⟩) (v := undef) rfl (.inr ⟨by rfl, rfl⟩) hS ?_
      (try simp only [rgp])
      refine rgt 13 (oi := ⟨some 22, .fieldAddr 89 (.tmp 1) 1, 0, _, _, some (8, false)⟩) (v := undef) rfl (.inr ⟨by rfl, rfl⟩) hS ?_
      (try simp only [rgp])
      refine rgt 14 (oi := ⟨some 23, .load 9 (.tmp 22), 9, _, _, some (8, false)⟩) (v := undef) rfl (.inr ⟨by rfl, rfl⟩) hS ?_
      (try simp only [rgp])
      refine rgt 15 (oi := ⟨some 24, .call { callee := .value (.func 41), args := #[.tmp 21, .tmp 23], argTypes := #[24, 9] }, 3, _, _, some (8, false)⟩) (v := undef) rfl (.inr ⟨by rfl, rfl⟩) hS ?_
      (try simp only [rgp])
      refine rgt 16 (oi := ⟨some 25, .fieldAddr 89 (.tmp 1) 4, 0, _, _, some (8, false)⟩) (v := undef) rfl (.inr ⟨by rfl, rfl⟩) hS ?_
      (try simp only [rgp])
      refine rgt 17 (oi := ⟨some 26, .load 3 (.tmp 25), 3, _, _, some (8, false)⟩) (v := undef) rfl (.inr ⟨by rfl, rfl⟩) hS ?_
      (try simp only [rgp])
      refine rgt 18 (oi := ⟨some 27, .binOp .sub 3 (.tmp 24) (.tmp 26) 3, 3, _, _, some (8, false)⟩) (v := undef) rfl (.inr ⟨by rfl, rfl⟩) hS ?_
      (try simp only [rgp])
      refine rgt 19 (oi := ⟨some 28, .binOp .gtr 3 (.tmp 19) (.tmp 27) 3, 4, _, _, some (8, false)⟩) (v := undef) rfl (.inr ⟨by rfl, rfl⟩) hS ?_
      (try simp only [rgp])
      refine rgw 20 ⟨some 29, .pick (.tmp 17) (.const (.bool true)) (.tmp 28), 4, _, _, none⟩ hS ?_
      refine wpAnyH_done (by kernel_rfl) ?_ _
      have HB := Lib.hid hS.2.2.2.2.below
      clear hS
      go_wp2
      go_ret
      exact ⟨rfl, HB.out⟩
    have hd4 : decide (n < 0) = false := decide_eq_false h4
    have hw1 : IntKind.i64.wrap ((k : Int) - n) = (k : Int) - n := IntWalk.i64_in _ (by omega)
    by_cases h5 : (k : Int) - n < x
    · rw [if_pos (.inr (.inr h5))] at hy
      subst hy
      go_enter Tryz.func59, Tryz.ntmps59
      go_wp2_with (first
        | (refine wpList_load_row rfl 89 _ rfl w.heap.size rfl _ (jobC ⟨b, 0, none⟩ s t x n (.slice a m c)) (0, 0) _ HJ.out.jb Tryz.underlying89 rfl (by kernel_rfl) ?_)
        | (go_at_call 68; (with_reducible refine (mayFind_any _ b bm l d s t x n a m c HJ.out.dk HG.out HS.out).mono ?_); rintro e w1 ⟨rfl, hb⟩; rw [HF.out]; have HJ1 := Lib.hid (HJ.out.next hb); clear hb))
      refine wp_region_held_drew (S := (fun w' => w'.cell? ⟨w.heap.size, 0, none⟩ = some (ptr ⟨b, 0, none⟩) ∧ w'.cell? ⟨w.heap.size, 1, none⟩ = some (.string s) ∧ w'.cell? ⟨w.heap.size, 3, none⟩ = some (.int .i64 x) ∧ w'.cell? ⟨w.heap.size, 4, none⟩ = some (.int .i64 n) ∧ Jd w b bm l d s t x n (.slice a m c) w')) (by kernel_rfl) (Jd.five HJ1.out.drew) (fun hS => ?_)
      refine rgw 0 ⟨some 9, .fieldAddr 89 (.tmp 1) 3, 0, _, _, none⟩ hS ?_
      refine rgw 1 ⟨some 10, .load 3 (.tmp 9), 3, _, _, none⟩ hS ?_
      refine rgw 2 ⟨some 11, .binOp .lss 3 (.tmp 10) (.const (.int .i64 0)) 3, 4, _, _, none⟩ hS ?_ (v := .bool false) (hy := by intro w hSw; (try dsimp only at hSw); go_simp)
      refine rgw 3 ⟨some 12, .move (.tmp 11), 4, _, _, none⟩ hS ?_
      refine rgw 4 ⟨some 13, .fieldAddr 89 (.tmp 1) 4, 0, _, _, some (3, false)⟩ hS ?_
      refine rgw 5 ⟨some 14, .load 3 (.tmp 13), 3, _, _, some (3, false)⟩ hS ?_
      refine rgw 6 ⟨some 15, .binOp .lss 3 (.tmp 14) (.const (.int .i64 0)) 3, 4, _, _, some (3, false)⟩ hS ?_ (v := .bool false) (hy := by intro w hSw; (try dsimp only at hSw); go_simp)
      refine rgw 7 ⟨some 16, .pick (.tmp 12) (.const (.bool true)) (.tmp 15), 4, _, _, none⟩ hS ?_
      refine rgw 8 ⟨some 17, .move (.tmp 16), 4, _, _, none⟩ hS ?_
      refine rgw 9 ⟨some 18, .fieldAddr 89 (.tmp 1) 3, 0, _, _, some (8, false)⟩ hS ?_
      refine rgw 10 ⟨some 19, .load 3 (.tmp 18), 3, _, _, some (8, false)⟩ hS ?_
      refine rgw 11 ⟨some 20, .fieldAddr 89 (.tmp 1) 0, 0, _, _, some (8, false)⟩ hS ?_
      refine rgw 12 ⟨some 21, .load 24 (.tmp 20), 24, _, _, some (8, false)⟩ hS ?_
      refine rgw 13 ⟨some 22, .fieldAddr 89 (.tmp 1) 1, 0, _, _, some (8, false)⟩ hS ?_
      refine rgw 14 ⟨some 23, .load 9 (.tmp 22), 9, _, _, some (8, false)⟩ hS ?_
      refine rgw 16 ⟨some 25, .fieldAddr 89 (.tmp 1) 4, 0, _, _, some (8, false)⟩ hS ?_
      refine rgw 17 ⟨some 26, .load 3 (.tmp 25), 3, _, _, some (8, false)⟩ hS ?_
      refine rg_one 15 ⟨some 24, .call { callee := .value (.func 41), args := #[.tmp 21, .tmp 23], argTypes := #[24, 9] }, 3, _, _, some (8, false)⟩ (by kernel_rfl) rfl (fun K hK => ?_)
      go_simp
      (go_at_call 41; (with_reducible refine (psize_any _ b bm l d s hS.2.2.2.2.dk HS.out).mono ?_); rintro e w1 ⟨rfl, rfl⟩; rw [HZ.out])
      refine hK.out _ _ ?_ (fun hS1 => ?_)
      · (exact hS)
      clear hK K hS; have hS := hS1; clear hS1
      (try simp only [rgp])
      refine rgw 18 ⟨some 27, .binOp .sub 3 (.tmp 24) (.tmp 26) 3, 3, _, _, some (8, false)⟩ hS ?_
      refine rgw 19 ⟨some 28, .binOp .gtr 3 (.tmp 19) (.tmp 27) 3, 4, _, _, some (8, false)⟩ hS ?_
      refine rgw 20 ⟨some 29, .pick (.tmp 17) (.const (.bool true)) (.tmp 28), 4, _, _, none⟩ hS ?_
      refine wpAnyH_done (by kernel_rfl) ?_ _
      have HB := Lib.hid hS.2.2.2.2.below
      clear hS
      go_wp2
      go_ret
      exact ⟨rfl, HB.out⟩
    · rw [if_neg (by omega)] at hy
      subst hy
      go_enter Tryz.func59, Tryz.ntmps59
      go_wp2_with (first
        | (refine wpList_load_row rfl 89 _ rfl w.heap.size rfl _ (jobC ⟨b, 0, none⟩ s t x n (.slice a m c)) (0, 0) _ HJ.out.jb Tryz.underlying89 rfl (by kernel_rfl) ?_)
        | (go_at_call 68; (with_reducible refine (mayFind_any _ b bm l d s t x n a m c HJ.out.dk HG.out HS.out).mono ?_); rintro e w1 ⟨rfl, hb⟩; rw [HF.out]; have HJ1 := Lib.hid (HJ.out.next hb); clear hb))
      refine wp_region_held_drew (S := (fun w' => w'.cell? ⟨w.heap.size, 0, none⟩ = some (ptr ⟨b, 0, none⟩) ∧ w'.cell? ⟨w.heap.size, 1, none⟩ = some (.string s) ∧ w'.cell? ⟨w.heap.size, 3, none⟩ = some (.int .i64 x) ∧ w'.cell? ⟨w.heap.size, 4, none⟩ = some (.int .i64 n) ∧ Jd w b bm l d s t x n (.slice a m c) w')) (by kernel_rfl) (Jd.five HJ1.out.drew) (fun hS => ?_)
      refine rgw 0 ⟨some 9, .fieldAddr 89 (.tmp 1) 3, 0, _, _, none⟩ hS ?_
      refine rgw 1 ⟨some 10, .load 3 (.tmp 9), 3, _, _, none⟩ hS ?_
      refine rgw 2 ⟨some 11, .binOp .lss 3 (.tmp 10) (.const (.int .i64 0)) 3, 4, _, _, none⟩ hS ?_ (v := .bool false) (hy := by intro w hSw; (try dsimp only at hSw); go_simp)
      refine rgw 3 ⟨some 12, .move (.tmp 11), 4, _, _, none⟩ hS ?_
      refine rgw 4 ⟨some 13, .fieldAddr 89 (.tmp 1) 4, 0, _, _, some (3, false)⟩ hS ?_
      refine rgw 5 ⟨some 14, .load 3 (.tmp 13), 3, _, _, some (3, false)⟩ hS ?_
      refine rgw 6 ⟨some 15, .binOp .lss 3 (.tmp 14) (.const (.int .i64 0)) 3, 4, _, _, some (3, false)⟩ hS ?_ (v := .bool false) (hy := by intro w hSw; (try dsimp only at hSw); go_simp)
      refine rgw 7 ⟨some 16, .pick (.tmp 12) (.const (.bool true)) (.tmp 15), 4, _, _, none⟩ hS ?_
      refine rgw 8 ⟨some 17, .move (.tmp 16), 4, _, _, none⟩ hS ?_
      refine rgw 9 ⟨some 18, .fieldAddr 89 (.tmp 1) 3, 0, _, _, some (8, false)⟩ hS ?_
      refine rgw 10 ⟨some 19, .load 3 (.tmp 18), 3, _, _, some (8, false)⟩ hS ?_
      refine rgw 11 ⟨some 20, .fieldAddr 89 (.tmp 1) 0, 0, _, _, some (8, false)⟩ hS ?_
      refine rgw 12 ⟨some 21, .load 24 (.tmp 20), 24, _, _, some (8, false)⟩ hS ?_
      refine rgw 13 ⟨some 22, .fieldAddr 89 (.tmp 1) 1, 0, _, _, some (8, false)⟩ hS ?_
      refine rgw 14 ⟨some 23, .load 9 (.tmp 22), 9, _, _, some (8, false)⟩ hS ?_
      refine rgw 16 ⟨some 25, .fieldAddr 89 (.tmp 1) 4, 0, _, _, some (8, false)⟩ hS ?_
      refine rgw 17 ⟨some 26, .load 3 (.tmp 25), 3, _, _, some (8, false)⟩ hS ?_
      refine rg_one 15 ⟨some 24, .call { callee := .value (.func 41), args := #[.tmp 21, .tmp 23], argTypes := #[24, 9] }, 3, _, _, some (8, false)⟩ (by kernel_rfl) rfl (fun K hK => ?_)
      go_simp
      (go_at_call 41; (with_reducible refine (psize_any _ b bm l d s hS.2.2.2.2.dk HS.out).mono ?_); rintro e w1 ⟨rfl, rfl⟩; rw [HZ.out])
      refine hK.out _ _ ?_ (fun hS1 => ?_)
      · (exact hS)
      clear hK K hS; have hS := hS1; clear hS1
      (try simp only [rgp])
      refine rgw 18 ⟨some 27, .binOp .sub 3 (.tmp 24) (.tmp 26) 3, 3, _, _, some (8, false)⟩ hS ?_
      refine rgw 19 ⟨some 28, .binOp .gtr 3 (.tmp 19) (.tmp 27) 3, 4, _, _, some (8, false)⟩ hS ?_
      refine rgw 20 ⟨some 29, .pick (.tmp 17) (.const (.bool true)) (.tmp 28), 4, _, _, none⟩ hS ?_
      refine wpAnyH_done (by kernel_rfl) ?_ _
      have HB := Lib.hid hS.2.2.2.2.below
      clear hS
      go_wp2
      go_ret
      exact ⟨rfl, HB.out⟩
  · rw [if_pos hh] at hy
    subst hy
    have HF := Lib.hid (show (if d.has s then (0 : Int) else 7) = 7 by rw [if_neg hh])
    clear h hs hg hx hn hh
    go_enter Tryz.func59, Tryz.ntmps59
    go_wp2_with (first
      | (refine wpList_load_row rfl 89 _ rfl w.heap.size rfl _ (jobC ⟨b, 0, none⟩ s t x n (.slice a m c)) (0, 0) _ HJ.out.jb Tryz.underlying89 rfl (by kernel_rfl) ?_)
      | (go_at_call 68; (with_reducible refine (mayFind_any _ b bm l d s t x n a m c HJ.out.dk HG.out HS.out).mono ?_); rintro e w1 ⟨rfl, hb⟩; rw [HF.out]; have HJ1 := Lib.hid (HJ.out.next hb); clear hb))
    go_ret
    exact ⟨rfl, HJ1.out.below⟩
end Go.Proofs.YtpoiapfgbbmekaaGreatDoor
namespace Go.Proofs.YtpoiapfgbbmekaaGreatDoor
open Go.RowKit
theorem mayFail_any (w : World) (v0 v1 v2 v3 v5 : Value) (n : Int) :
    Calls Tryz.prog 53 #[.agg #[v0, v1, v2, v3, .int .i64 n, v5]] w fun e w' => e = .returned (.int .i64 (if n < 0 then 4 else 0)) ∧ Below w.heap.size w w' := by
  have HB := Lib.hid (below_alloc w (.cells #[v0, v1, v2, v3, .int .i64 n, v5] 89))
  obtain ⟨_, _, _, _, c4, _⟩ := (JB.new w #[v0, v1, v2, v3, .int .i64 n, v5]).cells
  by_cases h : n < 0
  · rw [if_pos h]
    go_enter Tryz.func53, Tryz.ntmps53
    go_wp2
    go_ret
    exact ⟨rfl, HB.out⟩
  · rw [if_neg h]
    go_enter Tryz.func53, Tryz.ntmps53
    go_wp2
    go_ret
    exact ⟨rfl, HB.out⟩
set_option maxRecDepth 8000 in
theorem mayRename_any (w : World) (b bm : Nat) (l : List MF) (d : AD) (s t : ByteArray) (x n : Int) (a : Option Addr) (m c : Nat) (h : Dk w b bm l d) (hg : Good d) (hs : s.size ≤ 281474976710656) (ht : t.size ≤ 281474976710656) (y : Int)
    (hy : (if ¬ d.has s then 7 else if rightB t = false then 10 else 0) = y) :
    Calls Tryz.prog 77 #[jobV ⟨b, 0, none⟩ s t x n (.slice a m c)] w fun e w' => e = .returned (.int .i64 y) ∧ Below w.heap.size w w' := by
  have HJ := Lib.hid (Jd.start h s t x n (.slice a m c))
  have HS := Lib.hid hs
  have HT := Lib.hid ht
  have HG := Lib.hid hg
  by_cases hh : d.has s
  · rw [if_neg (by simpa using hh)] at hy
    have HF := Lib.hid (show (if d.has s then (0 : Int) else 7) = 0 by rw [if_pos hh])
    obtain ⟨r, hr⟩ : ∃ r, nameN t.data.toList = r := ⟨_, rfl⟩
    have HR := Lib.hid hr
    have hr2 : rightB t = r := hr
    rw [hr2] at hy
    clear h hs ht hg hh hr hr2
    cases r with
    | true =>
      subst hy
      go_enter Tryz.func77, Tryz.ntmps77
      go_wp2_with (first
        | (refine wpList_load_row rfl 89 _ rfl w.heap.size rfl _ (jobC ⟨b, 0, none⟩ s t x n (.slice a m c)) (0, 0) _ HJ.out.jb Tryz.underlying89 rfl (by kernel_rfl) ?_)
        | (go_at_call 68; (with_reducible refine (mayFind_any _ b bm l d s t x n a m c HJ.out.dk HG.out HS.out).mono ?_); rintro e w1 ⟨rfl, hb⟩; rw [HF.out]; have HJ1 := Lib.hid (HJ.out.next hb); clear hb; obtain ⟨_, _, c2, _⟩ := HJ1.out.jb.cells)
        | (go_at_call 88; (with_reducible refine (right_any t _ HT.out).mono ?_); rintro e w2 ⟨rfl, rfl⟩; rw [HR.out]))
      go_ret
      exact ⟨rfl, HJ1.out.below⟩
    | false =>
      subst hy
      go_enter Tryz.func77, Tryz.ntmps77
      go_wp2_with (first
        | (refine wpList_load_row rfl 89 _ rfl w.heap.size rfl _ (jobC ⟨b, 0, none⟩ s t x n (.slice a m c)) (0, 0) _ HJ.out.jb Tryz.underlying89 rfl (by kernel_rfl) ?_)
        | (go_at_call 68; (with_reducible refine (mayFind_any _ b bm l d s t x n a m c HJ.out.dk HG.out HS.out).mono ?_); rintro e w1 ⟨rfl, hb⟩; rw [HF.out]; have HJ1 := Lib.hid (HJ.out.next hb); clear hb; obtain ⟨_, _, c2, _⟩ := HJ1.out.jb.cells)
        | (go_at_call 88; (with_reducible refine (right_any t _ HT.out).mono ?_); rintro e w2 ⟨rfl, rfl⟩; rw [HR.out]))
      go_ret
      exact ⟨rfl, HJ1.out.below⟩
  · rw [if_pos hh] at hy
    subst hy
    have HF := Lib.hid (show (if d.has s then (0 : Int) else 7) = 7 by rw [if_neg hh])
    clear h hs ht hg hh
    go_enter Tryz.func77, Tryz.ntmps77
    go_wp2_with (first
      | (refine wpList_load_row rfl 89 _ rfl w.heap.size rfl _ (jobC ⟨b, 0, none⟩ s t x n (.slice a m c)) (0, 0) _ HJ.out.jb Tryz.underlying89 rfl (by kernel_rfl) ?_)
      | (go_at_call 68; (with_reducible refine (mayFind_any _ b bm l d s t x n a m c HJ.out.dk HG.out HS.out).mono ?_); rintro e w1 ⟨rfl, hb⟩; rw [HF.out]; have HJ1 := Lib.hid (HJ.out.next hb); clear hb))
    go_ret
    exact ⟨rfl, HJ1.out.below⟩
theorem bit_ri (v : Value) (len : Nat) (zs : List Int) (i : Int) (w : World) (h : RI .u8 w v len zs) (hz : Bytes zs) (hi : I63 i) :
    Calls Tryz.prog 92 #[v, .int .i64 i] w fun e w' => e = .returned (.bool (bitI zs i)) ∧ w = w' := by
  have hl := h.length
  obtain ⟨a, cap, rfl, _, h2, h3, _, hc⟩ := id h
  by_cases h0 : i < 0 ∨ (0 ≤ i ∧ (len : Int) ≤ i / 8)
  · refine (bit_no a len cap i w hi h0).mono ?_
    rintro e w' ⟨rfl, rfl⟩
    refine ⟨ret_bool ?_, rfl⟩
    unfold bitI
    rcases h0 with h0 | ⟨h0, h1⟩
    · simp [show ¬ 0 ≤ i by omega]
    · rw [decide_eq_false (p := i / 8 < (zs.length : Int)) (by omega)]; simp
  · have hi0 : 0 ≤ i := by omega
    have hi1 : i / 8 < (len : Int) := by omega
    obtain ⟨k, rfl⟩ : ∃ k : Nat, i = (k : Int) := ⟨i.toNat, by omega⟩
    obtain ⟨b, off, rfl, hcell⟩ := hc (by omega)
    have hk : k / 8 < len := by omega
    refine (bit_some b off len cap zs k w hz hi.2 (by omega) hk ?_).mono ?_
    · first | exact hcell (k / 8) hk | exact hcell
    rintro e w' ⟨rfl, rfl⟩
    refine ⟨ret_bool ?_, rfl⟩
    unfold bitI
    rw [decide_eq_true hi0, decide_eq_true (p := (k : Int) / 8 < (zs.length : Int)) (by omega)]; simp
def keptN (kb : List Int) (torn cut : Int) (i : Nat) : Nat := if (i : Int) = torn then cutN cut else if bitI kb (i : Int) = true then 64 else 0
theorem keptN_le (kb : List Int) (torn cut : Int) (i : Nat) : keptN kb torn cut i ≤ 64 := by
  unfold keptN cutN; split
  · omega
  · split <;> omega
def CB (w : World) (g : Nat) (cs : Array Value) : Prop := w.heap[g]? = some (.cells cs 38 (0, 0))
set_option maxRecDepth 8000 in
theorem kept_any (w : World) (v : Value) (len : Nat) (kb : List Int) (torn cut : Int) (i : Nat) (h : RI .u8 w v len kb) (hb : Bytes kb) (_ht : I63 torn) (hc : I63 cut) (hi : (i : Int) ≤ 9223372036854775807) :
    Calls Tryz.prog 56 #[.agg #[v, .int .i64 torn, .int .i64 cut], .int .i64 i] w fun e w' => e = .returned (.int .i64 (keptN kb torn cut i)) ∧ Below w.heap.size w w' := by
  have HR := Lib.hid (h.keep (below_alloc w (.cells #[v, .int .i64 torn, .int .i64 cut] 38)))
  have HB := Lib.hid (below_alloc w (.cells #[v, .int .i64 torn, .int .i64 cut] 38))
  have HY := Lib.hid hb
  have HI := Lib.hid (show I63 (i : Int) from ⟨by omega, hi⟩)
  have HC := Lib.hid hc
  have H64 := Lib.hid (show I63 64 from ⟨by omega, by omega⟩)
  obtain ⟨a, c, rfl, _⟩ : ∃ a c, v = .slice a len c ∧ True := by obtain ⟨a, c, e, _⟩ := h; exact ⟨a, c, e, trivial⟩
  by_cases h1 : (i : Int) = torn
  · have HK : Hid (((keptN kb torn cut i : Nat) : Int) = min (max cut 0) 64) := Lib.hid (by unfold keptN cutN; rw [if_pos h1]; omega)
    rw [HK.out]
    clear h hb hc
    go_enter Tryz.func56, Tryz.ntmps56
    go_wp2_with (first
      | (go_at_call 27; (with_reducible refine (nearer_any cut 64 HC.out H64.out _).mono ?_); rintro e w2 ⟨rfl, rfl⟩))
    go_ret
    exact ⟨rfl, HB.out⟩
  · obtain ⟨r, hr⟩ : ∃ r, bitI kb (i : Int) = r := ⟨_, rfl⟩
    have HRR := Lib.hid hr
    cases r with
    | true =>
      have HK : Hid (((keptN kb torn cut i : Nat) : Int) = 64) := Lib.hid (by unfold keptN; rw [if_neg h1, if_pos hr]; rfl)
      rw [HK.out]
      clear h hb hc hr
      go_enter Tryz.func56, Tryz.ntmps56
      go_wp2_with (first
        | (go_at_call 92; (with_reducible refine (bit_ri _ len kb i _ HR.out HY.out HI.out).mono ?_); rintro e w2 ⟨rfl, rfl⟩; rw [HRR.out]))
      go_ret
      exact ⟨rfl, HB.out⟩
    | false =>
      have HK : Hid (((keptN kb torn cut i : Nat) : Int) = 0) := Lib.hid (by unfold keptN; rw [if_neg h1, if_neg (by rw [hr]; simp)]; rfl)
      rw [HK.out]
      clear h hb hc hr
      go_enter Tryz.func56, Tryz.ntmps56
      go_wp2_with (first
        | (go_at_call 92; (with_reducible refine (bit_ri _ len kb i _ HR.out HY.out HI.out).mono ?_); rintro e w2 ⟨rfl, rfl⟩; rw [HRR.out]))
      go_ret
      exact ⟨rfl, HB.out⟩
end Go.Proofs.YtpoiapfgbbmekaaGreatDoor
namespace Go.Proofs.YtpoiapfgbbmekaaGreatDoor
open Go.RowKit
theorem Asc.nodup {L : List AF} (h : Asc L) : (L.map AF.name).Nodup := by
  unfold List.Nodup
  rw [List.pairwise_map]
  exact List.Pairwise.imp (R := fun f g : AF => gtN g.name f.name = true) (fun {f g} h e => gtN_ne h (Eq.symm e)) h
theorem Dk.names {w : World} {b bm : Nat} {l : List MF} {d : AD} (h : Dk w b bm l d) (hg : Good d) : (l.map MF.nm).Nodup := by
  have := hg.asc.nodup
  rw [h.files, List.map_map] at this
  exact this
abbrev RPk (w : World) (bm r : Nat) (l todo : List MF) (cnt : Nat) : Prop := RP MF.nm MF.dat secR Tryz.prog 9 w bm r l todo cnt
def usedM (l : List MF) : Nat := (l.map fun x => x.f.n).sum
theorem usedM_perm {l l' : List MF} (h : l.Perm l') : usedM l = usedM l' := (h.map _).sum_nat
theorem Dk.used_eq {w : World} {b bm : Nat} {l : List MF} {d : AD} (h : Dk w b bm l d) : usedN d.L = usedM l := by rw [h.files]; unfold usedN; rw [List.map_map]; rfl
set_option maxRecDepth 8000 in
set_option maxHeartbeats 1000000 in
theorem pused_any (w : World) (b bm : Nat) (l : List MF) (d : AD) (h : Dk w b bm l d) (hg : Good d) :
    Calls Tryz.prog 89 #[ptr ⟨b, 0, none⟩] w fun e w' => e = .returned (.int .i64 (usedN d.L : Int)) ∧ Below w.heap.size w w' := by
  have HN := Lib.hid (h.names hg)
  have hu := hg.used
  have hc := hg.cap1
  rw [h.used_eq] at hu ⊢
  have hub : (usedM l : Int) ≤ 1048576 := by omega
  have HM := Lib.hid h.map
  obtain ⟨fl, lf, hb, _⟩ := h.blk
  obtain ⟨c0, c1, c2, c3, c4, c5⟩ := hb.cells
  clear hb h hg hu hc
  go_enter Tryz.func89, Tryz.ntmps89
  go_wp2_with (first
    | (refine wpl_range rfl (.tmp 11) 69 rfl 9 125 Tryz.underlying9 Tryz.underlying69 bm l rfl HM.out ?_; intro w0 HR0 hG0 HS0; have HB0 := Lib.hid ((Below.refl w.heap.size w).grown hG0.out (Nat.le_refl _) (by simp)); clear hG0))
  go_frame
  go_loopw [3] (fun v wr => ∃ (todo : List MF) (cnt u : Nat), v = .int .i64 (u : Int) ∧ Hid (RPk wr bm w.heap.size l todo cnt) ∧ u + usedM todo = usedM l ∧ Hid (Below w.heap.size w wr)) (fun _ wr => wr.rangeLeft bm w.heap.size)
  case atStart => exact ⟨l, l.length, 0, rfl, HR0, by omega, HB0⟩
  case round =>
    obtain ⟨todo, cnt, u, rfl, HR, hsum, HB⟩ := hrel
    go_wp2_with (first
      | (refine wpl_next secE rfl (.tmp 12) rfl 9 Tryz.underlying9 bm w.heap.size l todo cnt rfl HR.out ?_ ?_))
    · intro h0
      subst h0
      obtain rfl : u = usedM l := by simpa [usedM] using hsum
      go_wp2
      go_ret
      exact ⟨rfl, HB.out⟩
    · intro x w1 cnt1 hx HR1 hlt hG1 hs1 hen
      have hnd : (todo.map MF.nm).Nodup := HN.out.sublist (HR.out.sub.map _)
      have hp := usedM_perm (out_perm hnd hx.out)
      have hp2 : usedM (x :: outBy MF.nm todo (MF.nm x)) = x.f.n + usedM (outBy MF.nm todo (MF.nm x)) := by simp [usedM]
      have hw : IntKind.i64.wrap ((u : Int) + (x.f.n : Int)) = (u : Int) + (x.f.n : Int) := IntWalk.i64_in _ (by omega)
      have HB1 := Lib.hid (HB.out.grown hG1.out HB.out.size (fun j hj => by cases hj; exact Nat.le_refl _))
      obtain ⟨xn, hxn⟩ : ∃ xn, x.f.n = xn := ⟨_, rfl⟩
      have hv : x.v = .slice (some ⟨x.g, 0, none⟩) xn x.c := by rw [← hxn]; rfl
      rw [hv] at hen ⊢
      rw [hxn] at hw hp2
      have HE := Lib.hid (HR.out.left_eq)
      have HE1 := Lib.hid (HR1.out.left_eq)
      clear hnd hG1 hs1 hx HR HB hv hxn
      go_wp2
      go_roundw
      case rel => exact ⟨_, cnt1, u + xn, by go_num, HR1, by omega, HB1⟩
      case measure => rw [HE.out, HE1.out]; exact hlt.out
theorem Jd.seven {w w1 : World} {b bm : Nat} {l : List MF} {d : AD} {s t : ByteArray} {x n : Int} {v : Value} (h : Jd w b bm l d s t x n v w1) :
    w1.cell? ⟨w.heap.size, 0, none⟩ = some (ptr ⟨b, 0, none⟩) ∧ w1.cell? ⟨w.heap.size, 1, none⟩ = some (.string s) ∧ w1.cell? ⟨w.heap.size, 4, none⟩ = some (.int .i64 n) ∧ w1.cell? ⟨b, 0, none⟩ = some (.int .i64 d.cap) ∧ w1.cell? ⟨b, 1, none⟩ = some (.map (some bm)) ∧ Jd w b bm l d s t x n v w1 := by
  obtain ⟨c0, c1, _, c3, c4, _⟩ := h.jb.cells
  obtain ⟨fl, lf, hb, _⟩ := h.dk.blk
  obtain ⟨e0, e1, _⟩ := hb.cells
  exact ⟨c0, c1, c4, e0, e1, h⟩
set_option maxRecDepth 8000 in
set_option maxHeartbeats 1000000 in
theorem mayMake_any (w : World) (b bm : Nat) (l : List MF) (d : AD) (s t : ByteArray) (x n : Int) (a : Option Addr) (m c : Nat) (h : Dk w b bm l d) (hg : Good d) (hs : s.size ≤ 281474976710656) (_hn : I63 n) (y : Int)
    (hy : (if rightB s = false then 10 else if d.has s then 8 else if n < 1 ∨ 64 < n then 4 else if d.cap < (usedN d.L : Int) + n ∨ 64 ≤ d.L.length then 6 else 0) = y) :
    Calls Tryz.prog 46 #[jobV ⟨b, 0, none⟩ s t x n (.slice a m c)] w fun e w' => e = .returned (.int .i64 y) ∧ Below w.heap.size w w' := by
  have HJ := Lib.hid (Jd.start h s t x n (.slice a m c))
  have HS := Lib.hid hs
  have HG := Lib.hid hg
  obtain ⟨c0, c1, c4, e0, e1, _⟩ := HJ.out.seven
  obtain ⟨r, hr⟩ : ∃ r, nameN s.data.toList = r := ⟨_, rfl⟩
  have HR := Lib.hid hr
  have hr2 : rightB s = r := hr
  rw [hr2] at hy
  cases r with
  | false =>
    rw [if_pos rfl] at hy
    subst hy
    clear h hs hg _hn hr hr2
    go_enter Tryz.func46, Tryz.ntmps46
    go_wp2_with (first
      | (go_at_call 88; (with_reducible refine (right_any s _ HS.out).mono ?_); rintro e w2 ⟨rfl, rfl⟩; rw [HR.out]))
    go_ret
    exact ⟨rfl, HJ.out.below⟩
  | true =>
    rw [if_neg (by simp)] at hy
    by_cases hh : d.has s
    · rw [if_pos hh] at hy
      subst hy
      have h1 := (hg.file _ (get_mem hh)).n1
      obtain ⟨k, hk⟩ : ∃ k, (d.get s).n = k := ⟨_, rfl⟩
      have HZ := Lib.hid (show (if d.has s then ((d.get s).n : Int) else 0) = (k : Int) by rw [if_pos hh, hk])
      rw [hk] at h1
      clear h hs hg _hn hr hr2 hh hk
      go_enter Tryz.func46, Tryz.ntmps46
      go_wp2_with (first
        | (go_at_call 88; (with_reducible refine (right_any s _ HS.out).mono ?_); rintro e w2 ⟨rfl, rfl⟩; rw [HR.out])
        | (go_at_call 41; (with_reducible refine (psize_any _ b bm l d s HJ.out.dk HS.out).mono ?_); rintro e w1 ⟨rfl, rfl⟩; rw [HZ.out]))
      all_goals first | (exfalso; omega) | skip
      all_goals go_ret
      all_goals exact ⟨rfl, HJ.out.below⟩
    · rw [if_neg hh] at hy
      have HZ := Lib.hid (show (if d.has s then ((d.get s).n : Int) else 0) = 0 by rw [if_neg hh])
      by_cases hr1 : n < 1
      · rw [if_pos (.inl hr1)] at hy
        subst hy
        clear h hs hg _hn hr hr2 hh
        go_enter Tryz.func46, Tryz.ntmps46
        go_wp2_with (first
          | (go_at_call 88; (with_reducible refine (right_any s _ HS.out).mono ?_); rintro e w2 ⟨rfl, rfl⟩; rw [HR.out])
          | (go_at_call 41; (with_reducible refine (psize_any _ b bm l d s HJ.out.dk HS.out).mono ?_); rintro e w1 ⟨rfl, rfl⟩; rw [HZ.out]))
        go_ret
        exact ⟨rfl, HJ.out.below⟩
      by_cases hr3 : 64 < n
      · rw [if_pos (.inr hr3)] at hy
        subst hy
        clear h hs hg _hn hr hr2 hh
        go_enter Tryz.func46, Tryz.ntmps46
        go_wp2_with (first
          | (go_at_call 88; (with_reducible refine (right_any s _ HS.out).mono ?_); rintro e w2 ⟨rfl, rfl⟩; rw [HR.out])
          | (go_at_call 41; (with_reducible refine (psize_any _ b bm l d s HJ.out.dk HS.out).mono ?_); rintro e w1 ⟨rfl, rfl⟩; rw [HZ.out]))
        go_ret
        exact ⟨rfl, HJ.out.below⟩
      rw [if_neg (by omega)] at hy
      have hu := hg.used
      have hc := hg.cap1
      obtain ⟨u, hu2⟩ : ∃ u, usedN d.L = u := ⟨_, rfl⟩
      have HU := Lib.hid hu2
      have hl : d.L.length = l.length := by rw [h.files, List.length_map]
      rw [hu2] at hu hy
      rw [hl] at hy
      have hw : IntKind.i64.wrap ((u : Int) + n) = (u : Int) + n := IntWalk.i64_in _ (by omega)
      by_cases hf1 : d.cap < (u : Int) + n
      · rw [if_pos (.inl hf1)] at hy
        subst hy
        have hd : decide (d.cap < (u : Int) + n) = true := decide_eq_true hf1
        clear h hs hg _hn hr hr2 hh hu2 hl
        go_enter Tryz.func46, Tryz.ntmps46
        go_wp2_with (first
          | (go_at_call 88; (with_reducible refine (right_any s _ HS.out).mono ?_); rintro e w2 ⟨rfl, rfl⟩; rw [HR.out])
          | (go_at_call 41; (with_reducible refine (psize_any _ b bm l d s HJ.out.dk HS.out).mono ?_); rintro e w1 ⟨rfl, rfl⟩; rw [HZ.out]))
        refine wp_region_held_drew (S := (fun w' => w'.cell? ⟨w.heap.size, 0, none⟩ = some (ptr ⟨b, 0, none⟩) ∧ w'.cell? ⟨w.heap.size, 1, none⟩ = some (.string s) ∧ w'.cell? ⟨w.heap.size, 4, none⟩ = some (.int .i64 n) ∧ w'.cell? ⟨b, 0, none⟩ = some (.int .i64 d.cap) ∧ w'.cell? ⟨b, 1, none⟩ = some (.map (some bm)) ∧ Jd w b bm l d s t x n (.slice a m c) w')) (by kernel_rfl) (Jd.seven HJ.out.drew) (fun hS => ?_)
        refine rgw 0 ⟨some 25, .fieldAddr 89 (.tmp 1) 0, 0, _, _, none⟩ hS ?_
        refine rgw 1 ⟨some 26, .load 24 (.tmp 25), 24, _, _, none⟩ hS ?_
        refine rgw 3 ⟨some 28, .fieldAddr 89 (.tmp 1) 4, 0, _, _, none⟩ hS ?_
        refine rgw 4 ⟨some 29, .load 3 (.tmp 28), 3, _, _, none⟩ hS ?_
        refine rgw 6 ⟨some 31, .fieldAddr 89 (.tmp 1) 0, 0, _, _, none⟩ hS ?_
        refine rgw 7 ⟨some 32, .load 24 (.tmp 31), 24, _, _, none⟩ hS ?_
        refine rgw 8 ⟨some 33, .nilCheck (.tmp 32), 0, _, _, none⟩ hS ?_
        refine rgw 9 ⟨some 34, .fieldAddr 71 (.tmp 33) 0, 0, _, _, none⟩ hS ?_
        refine rgw 10 ⟨some 35, .load 3 (.tmp 34), 3, _, _, none⟩ hS ?_
        refine rg_one 2 ⟨some 27, .call { callee := .value (.func 89), args := #[.tmp 26], argTypes := #[24] }, 3, _, _, none⟩ (by kernel_rfl) rfl (fun K hK => ?_)
        go_simp
        (go_at_call 89; (with_reducible refine (pused_any _ b bm l d hS.2.2.2.2.2.dk HG.out).mono ?_); rintro e w1 ⟨rfl, hb⟩; rw [HU.out])
        refine hK.out _ _ ?_ (fun hS1 => ?_)
        · (exact Jd.seven (hS.2.2.2.2.2.next hb))
        clear hK K hS; have hS := hS1; clear hS1
        (try simp only [rgp])
        refine rgw 5 ⟨some 30, .binOp .add 3 (.tmp 27) (.tmp 29) 3, 3, _, _, none⟩ hS ?_
        refine rgw 11 ⟨some 36, .binOp .gtr 3 (.tmp 30) (.tmp 35) 3, 4, _, _, none⟩ hS ?_ (v := .bool true) (hy := by intro w hSw; (try dsimp only at hSw); go_simp)
        refine rgw 12 ⟨some 37, .move (.tmp 36), 4, _, _, none⟩ hS ?_
        refine rgt 13 (oi := ⟨some 38, .fieldAddr 89 (.tmp 1) 0, 0, _, _, some (12, false)⟩) (v := undef) rfl (.inr ⟨by rfl, rfl⟩) hS ?_
        (try simp only [rgp])
        refine rgt 14 (oi := ⟨some 39, .load 24 (.tmp 38), 24, _, _, some (12, false)⟩) (v := undef) rfl (.inr ⟨by rfl, rfl⟩) hS ?_
        (try simp only [rgp])
        refine rgt 15 (oi := ⟨some 40, .nilCheck (.tmp 39), 0, _, _, some (12, false)⟩) (v := undef) rfl (.inr ⟨by rfl, rfl⟩) hS ?_
        (try simp only [rgp])
        refine rgt 16 (oi := ⟨some 41, .fieldAddr 71 (.tmp 40) 1, 0, _, _, some (12, false)⟩) (v := undef) rfl (.inr ⟨by rfl, rfl⟩) hS ?_
        (try simp only [rgp])
        refine rgt 17 (oi := ⟨some 42, .load 69 (.tmp 41), 69, _, _, some (12, false)⟩) (v := undef) rfl (.inr ⟨by rfl, rfl⟩) hS ?_
        (try simp only [rgp])
        refine rgt 18 (oi := ⟨some 43, .call { callee := .builtin Builtin.len, args := #[.tmp 42], argTypes := #[69] }, 3, _, _, some (12, false)⟩) (v := undef) rfl (.inr ⟨by rfl, rfl⟩) hS ?_
        (try simp only [rgp])
        refine rgt 19 (oi := ⟨some 44, .binOp .geq 3 (.tmp 43) (.const (.int .i64 64)) 3, 4, _, _, some (12, false)⟩) (v := undef) rfl (.inr ⟨by rfl, rfl⟩) hS ?_
        (try simp only [rgp])
        refine rgw 20 ⟨some 45, .pick (.tmp 37) (.const (.bool true)) (.tmp 44), 4, _, _, none⟩ hS ?_
        refine rgw 21 ⟨some 24, .assign (.tmp 45), 4, _, _, none⟩ hS ?_
        refine wpAnyH_done (by kernel_rfl) ?_ _
        have HB := Lib.hid hS.2.2.2.2.2.below
        clear hS
        go_wp2
        go_ret
        exact ⟨rfl, HB.out⟩
      have hd : decide (d.cap < (u : Int) + n) = false := decide_eq_false hf1
      by_cases hf2 : 64 ≤ l.length
      · rw [if_pos (.inr hf2)] at hy
        subst hy
        have hd2 : decide (64 ≤ (l.length : Int)) = true := decide_eq_true (by omega)
        clear h hs hg _hn hr hr2 hh hu2 hl
        go_enter Tryz.func46, Tryz.ntmps46
        go_wp2_with (first
          | (go_at_call 88; (with_reducible refine (right_any s _ HS.out).mono ?_); rintro e w2 ⟨rfl, rfl⟩; rw [HR.out])
          | (go_at_call 41; (with_reducible refine (psize_any _ b bm l d s HJ.out.dk HS.out).mono ?_); rintro e w1 ⟨rfl, rfl⟩; rw [HZ.out]))
        refine wp_region_held_drew (S := (fun w' => w'.cell? ⟨w.heap.size, 0, none⟩ = some (ptr ⟨b, 0, none⟩) ∧ w'.cell? ⟨w.heap.size, 1, none⟩ = some (.string s) ∧ w'.cell? ⟨w.heap.size, 4, none⟩ = some (.int .i64 n) ∧ w'.cell? ⟨b, 0, none⟩ = some (.int .i64 d.cap) ∧ w'.cell? ⟨b, 1, none⟩ = some (.map (some bm)) ∧ Jd w b bm l d s t x n (.slice a m c) w')) (by kernel_rfl) (Jd.seven HJ.out.drew) (fun hS => ?_)
        refine rgw 0 ⟨some 25, .fieldAddr 89 (.tmp 1) 0, 0, _, _, none⟩ hS ?_
        refine rgw 1 ⟨some 26, .load 24 (.tmp 25), 24, _, _, none⟩ hS ?_
        refine rgw 3 ⟨some 28, .fieldAddr 89 (.tmp 1) 4, 0, _, _, none⟩ hS ?_
        refine rgw 4 ⟨some 29, .load 3 (.tmp 28), 3, _, _, none⟩ hS ?_
        refine rgw 6 ⟨some 31, .fieldAddr 89 (.tmp 1) 0, 0, _, _, none⟩ hS ?_
        refine rgw 7 ⟨some 32, .load 24 (.tmp 31), 24, _, _, none⟩ hS ?_
        refine rgw 8 ⟨some 33, .nilCheck (.tmp 32), 0, _, _, none⟩ hS ?_
        refine rgw 9 ⟨some 34, .fieldAddr 71 (.tmp 33) 0, 0, _, _, none⟩ hS ?_
        refine rgw 10 ⟨some 35, .load 3 (.tmp 34), 3, _, _, none⟩ hS ?_
        refine rg_one 2 ⟨some 27, .call { callee := .value (.func 89), args := #[.tmp 26], argTypes := #[24] }, 3, _, _, none⟩ (by kernel_rfl) rfl (fun K hK => ?_)
        go_simp
        (go_at_call 89; (with_reducible refine (pused_any _ b bm l d hS.2.2.2.2.2.dk HG.out).mono ?_); rintro e w1 ⟨rfl, hb⟩; rw [HU.out])
        refine hK.out _ _ ?_ (fun hS1 => ?_)
        · (exact Jd.seven (hS.2.2.2.2.2.next hb))
        clear hK K hS; have hS := hS1; clear hS1
        (try simp only [rgp])
        refine rgw 5 ⟨some 30, .binOp .add 3 (.tmp 27) (.tmp 29) 3, 3, _, _, none⟩ hS ?_
        refine rgw 11 ⟨some 36, .binOp .gtr 3 (.tmp 30) (.tmp 35) 3, 4, _, _, none⟩ hS ?_ (v := .bool false) (hy := by intro w hSw; (try dsimp only at hSw); go_simp)
        refine rgw 12 ⟨some 37, .move (.tmp 36), 4, _, _, none⟩ hS ?_
        refine rgw 13 ⟨some 38, .fieldAddr 89 (.tmp 1) 0, 0, _, _, some (12, false)⟩ hS ?_
        refine rgw 14 ⟨some 39, .load 24 (.tmp 38), 24, _, _, some (12, false)⟩ hS ?_
        refine rgw 15 ⟨some 40, .nilCheck (.tmp 39), 0, _, _, some (12, false)⟩ hS ?_
        refine rgw 16 ⟨some 41, .fieldAddr 71 (.tmp 40) 1, 0, _, _, some (12, false)⟩ hS ?_
        refine rgw 17 ⟨some 42, .load 69 (.tmp 41), 69, _, _, some (12, false)⟩ hS ?_
        refine rgw 18 ⟨some 43, .call { callee := .builtin Builtin.len, args := #[.tmp 42], argTypes := #[69] }, 3, _, _, some (12, false)⟩ hS ?_ (v := .int .i64 l.length) (hy := by intro w hSw; (try dsimp only at hSw); exact exec_mlen (.tmp 42) 69 rfl 9 125 Tryz.underlying69 bm l rfl hSw.2.2.2.2.2.dk.map)
        refine rgw 19 ⟨some 44, .binOp .geq 3 (.tmp 43) (.const (.int .i64 64)) 3, 4, _, _, some (12, false)⟩ hS ?_ (v := .bool true) (hy := by intro w hSw; (try dsimp only at hSw); go_simp)
        refine rgw 20 ⟨some 45, .pick (.tmp 37) (.const (.bool true)) (.tmp 44), 4, _, _, none⟩ hS ?_
        refine rgw 21 ⟨some 24, .assign (.tmp 45), 4, _, _, none⟩ hS ?_
        refine wpAnyH_done (by kernel_rfl) ?_ _
        have HB := Lib.hid hS.2.2.2.2.2.below
        clear hS
        go_wp2
        go_ret
        exact ⟨rfl, HB.out⟩
      · rw [if_neg (by omega)] at hy
        subst hy
        have hd2 : decide (64 ≤ (l.length : Int)) = false := decide_eq_false (by omega)
        clear h hs hg _hn hr hr2 hh hu2 hl
        go_enter Tryz.func46, Tryz.ntmps46
        go_wp2_with (first
          | (go_at_call 88; (with_reducible refine (right_any s _ HS.out).mono ?_); rintro e w2 ⟨rfl, rfl⟩; rw [HR.out])
          | (go_at_call 41; (with_reducible refine (psize_any _ b bm l d s HJ.out.dk HS.out).mono ?_); rintro e w1 ⟨rfl, rfl⟩; rw [HZ.out]))
        refine wp_region_held_drew (S := (fun w' => w'.cell? ⟨w.heap.size, 0, none⟩ = some (ptr ⟨b, 0, none⟩) ∧ w'.cell? ⟨w.heap.size, 1, none⟩ = some (.string s) ∧ w'.cell? ⟨w.heap.size, 4, none⟩ = some (.int .i64 n) ∧ w'.cell? ⟨b, 0, none⟩ = some (.int .i64 d.cap) ∧ w'.cell? ⟨b, 1, none⟩ = some (.map (some bm)) ∧ Jd w b bm l d s t x n (.slice a m c) w')) (by kernel_rfl) (Jd.seven HJ.out.drew) (fun hS => ?_)
        refine rgw 0 ⟨some 25, .fieldAddr 89 (.tmp 1) 0, 0, _, _, none⟩ hS ?_
        refine rgw 1 ⟨some 26, .load 24 (.tmp 25), 24, _, _, none⟩ hS ?_
        refine rgw 3 ⟨some 28, .fieldAddr 89 (.tmp 1) 4, 0, _, _, none⟩ hS ?_
        refine rgw 4 ⟨some 29, .load 3 (.tmp 28), 3, _, _, none⟩ hS ?_
        refine rgw 6 ⟨some 31, .fieldAddr 89 (.tmp 1) 0, 0, _, _, none⟩ hS ?_
        refine rgw 7 ⟨some 32, .load 24 (.tmp 31), 24, _, _, none⟩ hS ?_
        refine rgw 8 ⟨some 33, .nilCheck (.tmp 32), 0, _, _, none⟩ hS ?_
        refine rgw 9 ⟨some 34, .fieldAddr 71 (.tmp 33) 0, 0, _, _, none⟩ hS ?_
        refine rgw 10 ⟨some 35, .load 3 (.tmp 34), 3, _, _, none⟩ hS ?_
        refine rg_one 2 ⟨some 27, .call { callee := .value (.func 89), args := #[.tmp 26], argTypes := #[24] }, 3, _, _, none⟩ (by kernel_rfl) rfl (fun K hK => ?_)
        go_simp
        (go_at_call 89; (with_reducible refine (pused_any _ b bm l d hS.2.2.2.2.2.dk HG.out).mono ?_); rintro e w1 ⟨rfl, hb⟩; rw [HU.out])
        refine hK.out _ _ ?_ (fun hS1 => ?_)
        · (exact Jd.seven (hS.2.2.2.2.2.next hb))
        clear hK K hS; have hS := hS1; clear hS1
        (try simp only [rgp])
        refine rgw 5 ⟨some 30, .binOp .add 3 (.tmp 27) (.tmp 29) 3, 3, _, _, none⟩ hS ?_
        refine rgw 11 ⟨some 36, .binOp .gtr 3 (.tmp 30) (.tmp 35) 3, 4, _, _, none⟩ hS ?_ (v := .bool false) (hy := by intro w hSw; (try dsimp only at hSw); go_simp)
        refine rgw 12 ⟨some 37, .move (.tmp 36), 4, _, _, none⟩ hS ?_
        refine rgw 13 ⟨some 38, .fieldAddr 89 (.tmp 1) 0, 0, _, _, some (12, false)⟩ hS ?_
        refine rgw 14 ⟨some 39, .load 24 (.tmp 38), 24, _, _, some (12, false)⟩ hS ?_
        refine rgw 15 ⟨some 40, .nilCheck (.tmp 39), 0, _, _, some (12, false)⟩ hS ?_
        refine rgw 16 ⟨some 41, .fieldAddr 71 (.tmp 40) 1, 0, _, _, some (12, false)⟩ hS ?_
        refine rgw 17 ⟨some 42, .load 69 (.tmp 41), 69, _, _, some (12, false)⟩ hS ?_
        refine rgw 18 ⟨some 43, .call { callee := .builtin Builtin.len, args := #[.tmp 42], argTypes := #[69] }, 3, _, _, some (12, false)⟩ hS ?_ (v := .int .i64 l.length) (hy := by intro w hSw; (try dsimp only at hSw); exact exec_mlen (.tmp 42) 69 rfl 9 125 Tryz.underlying69 bm l rfl hSw.2.2.2.2.2.dk.map)
        refine rgw 19 ⟨some 44, .binOp .geq 3 (.tmp 43) (.const (.int .i64 64)) 3, 4, _, _, some (12, false)⟩ hS ?_ (v := .bool false) (hy := by intro w hSw; (try dsimp only at hSw); go_simp)
        refine rgw 20 ⟨some 45, .pick (.tmp 37) (.const (.bool true)) (.tmp 44), 4, _, _, none⟩ hS ?_
        refine rgw 21 ⟨some 24, .assign (.tmp 45), 4, _, _, none⟩ hS ?_
        refine wpAnyH_done (by kernel_rfl) ?_ _
        have HB := Lib.hid hS.2.2.2.2.2.below
        clear hS
        go_wp2
        go_ret
        exact ⟨rfl, HB.out⟩
end Go.Proofs.YtpoiapfgbbmekaaGreatDoor
namespace Go.Proofs.YtpoiapfgbbmekaaGreatDoor
open Go.RowKit Go.Sort
def MF.key (x : MF) : List UInt8 := x.f.name.data.toList
theorem key_enc (x : MF) : encStr x.key = .string x.f.name := by
  unfold encStr MF.key
  congr 1
theorem key_le (x y : MF) (h : gtN y.f.name x.f.name = true) : x.key ≤ y.key := by
  have h1 := (gtN_iff _ _).1 h
  rw [Lib.toList_data, Lib.toList_data] at h1
  exact List.le_of_lt h1
theorem keys_sorted {l : List MF} (ha : Asc (l.map MF.f)) {ss : List (List UInt8)} (hp : ss.Perm (l.map MF.key)) : (ss.mergeSort fun x y => decide (x ≤ y)) = l.map MF.key := by
  refine (mergeSort_of_perm hp).trans ?_
  refine List.mergeSort_of_pairwise ?_
  rw [List.pairwise_map]
  unfold Asc at ha
  rw [List.pairwise_map] at ha
  exact ha.imp fun h => by simpa [leB] using key_le _ _ h
theorem own_ne_iter {w : World} {base size : Nat} {e : TypeId} {v : Value} {n : Nat} {xs : List Value} {bm r cnt : Nat} {l todo : List MF} (h : w.ownsRow base e size v n xs) (hr : RPk w bm r l todo cnt) : ∀ g, v.ownBlock = some g → some g ≠ some r := fun g hg e1 => by
  obtain rfl := Option.some.inj e1
  rcases h.2 with ⟨rfl, _⟩ | ⟨q, cap, cur, rfl, _, hb, _⟩
  · simp [Value.ownBlock] at hg
  · simp only [Value.ownBlock, Option.some.injEq] at hg
    subst hg
    exact hr.iter _ _ _ hb
theorem own_ne_iter' {w : World} {base size : Nat} {e : TypeId} {v : Value} {n : Nat} {xs : List Value} {bm r cnt : Nat} {l todo : List MF} (h : w.ownsRow base e size v n xs) (hr : RPk w bm r l todo cnt) : some r ≠ v.ownBlock := fun e1 => own_ne_iter h hr r e1.symm rfl
set_option maxRecDepth 8000 in
set_option maxHeartbeats 1000000 in
theorem plist_any (w : World) (b bm : Nat) (l : List MF) (d : AD) (h : Dk w b bm l d) (hg : Good d) :
    Calls Tryz.prog 91 #[ptr ⟨b, 0, none⟩] w fun e w' => ∃ v, e = .returned v ∧ SS w' v d.names ∧ Below w.heap.size w w' := by
  have HN := Lib.hid (h.names hg)
  have HA := Lib.hid (show Asc (l.map MF.f) by rw [← h.files]; exact hg.asc)
  have hl : l.length ≤ 64 := by have := hg.few; rwa [h.files, List.length_map] at this
  have HNM : Hid (d.names = l.map MF.nm) := Lib.hid (by unfold AD.names; rw [h.files, List.map_map]; rfl)
  have HM := Lib.hid h.map
  have HBM := Lib.hid h.map.lt
  obtain ⟨fl, lf, hb, _⟩ := h.blk
  obtain ⟨c0, c1, c2, c3, c4, c5⟩ := hb.cells
  clear hb h hg
  go_enter Tryz.func91, Tryz.ntmps91
  go_wp2_with (first
    | (refine wpl_range rfl (.tmp 10) 69 rfl 9 125 Tryz.underlying9 Tryz.underlying69 bm l rfl HM.out ?_; intro w0 HR0 hG0 HS0; have HB0 := Lib.hid ((Below.refl w.heap.size w).grown hG0.out (Nat.le_refl _) (by simp)); clear hG0))
  go_frame
  go_loopw [3] (fun v wr => ∃ (todo : List MF) (cnt : Nat) (ss : List (List UInt8)), Hid (RPk wr bm w.heap.size l todo cnt) ∧ Hid (wr.ownsRow w.heap.size 9 1 v ss.length (ss.map encStr)) ∧ Hid ((ss ++ todo.map MF.key).Perm (l.map MF.key)) ∧ Hid (Below w.heap.size w wr)) (fun _ wr => wr.rangeLeft bm w.heap.size)
  case atStart => exact ⟨l, l.length, [], HR0, ⟨rfl, .inl ⟨rfl, rfl⟩⟩, Lib.hid (List.Perm.refl _), HB0⟩
  case round =>
    obtain ⟨todo, cnt, ss, HR, HO, HP, HB⟩ := hrel
    go_wp2_with (first
      | (refine wpl_next secE rfl (.tmp 11) rfl 9 Tryz.underlying9 bm w.heap.size l todo cnt rfl HR.out ?_ ?_))
    · intro h0
      subst h0
      have hp : ss.Perm (l.map MF.key) := by have := HP.out; simpa using this
      have hsl : ss.length = l.length := by rw [hp.length_eq, List.length_map]
      have hks := keys_sorted HA.out hp
      rcases HO.out.2 with ⟨rfl, hnil⟩ | ⟨g, cap, cur, rfl, hbase, hb, h1, h2, h3, h4⟩
      · have hc := Tryz.slices_Sort_string_none none 0 wr
        have h0 : l = [] := List.length_eq_zero_iff.1 (by omega)
        have HSS := Lib.hid (show SS wr (.slice none 0 0) d.names by
          rw [HNM.out, h0]; exact CS.nil 1 wr)
        clear HO hks hsl hp h0
        go_wp2_with (first
          | (go_at_call 107; (refine hc.mono ?_); rintro e w' ⟨rfl, rfl⟩))
        go_ret
        exact ⟨_, rfl, HSS.out, HB.out⟩
      · have hH : Holds encStr wr g 0 ss.toArray := holds_of_block hb (by simpa using h4)
        have hgl : g < wr.heap.size := (Array.getElem?_eq_some_iff.1 hb).1
        have hc := Tryz.slices_Sort_string g 0 cap ss wr hH hgl (by omega)
        have HSS : Hid (∀ nn os, SS (grow (putRow encStr (Sort.ahead wr nn) g 0 (ss.mergeSort fun x y => decide (x ≤ y)).toArray) os) (.slice (some ⟨g, 0, none⟩) ss.length cap) d.names ∧ Below w.heap.size w (grow (putRow encStr (Sort.ahead wr nn) g 0 (ss.mergeSort fun x y => decide (x ≤ y)).toArray) os)) := Lib.hid fun nn os => by
          refine ⟨?_, HB.out.grown (grownBy_sorted _) HB.out.size (fun j hj => by cases hj; exact hbase)⟩
          have ho := ownsRow_sorted (os := os) (n := nn) (ts := ss.mergeSort fun x y => decide (x ≤ y)) (by simp) hbase hb h1 h2 h3
          have hcs := CS.own ho
          unfold SS
          rw [HNM.out, List.length_map, ← hsl, List.map_map]
          rw [hks, List.map_map] at hcs
          have e : encStr ∘ MF.key = Value.string ∘ MF.nm := by funext x; exact key_enc x
          rw [e, ← hks] at hcs
          exact hcs
        clear HO hks hsl hp hH hgl hb h4 h3 h1 h2
        go_wp2_with (first
          | (go_at_call 107; (refine hc.mono ?_); rintro e w' ⟨rfl, nn, os, rfl⟩))
        go_ret
        exact ⟨_, rfl, HSS.out nn os⟩
    · intro x w1 cnt1 hx HR1 hlt hG1 hs1 hen
      have hnd : (todo.map MF.nm).Nodup := HN.out.sublist (HR.out.sub.map _)
      have hp := out_perm hnd hx.out
      have HO1 := Lib.hid (own_over HO.out hG1.out (own_ne_iter HO.out HR.out))
      have HB1 := Lib.hid (HB.out.grown hG1.out HB.out.size (fun j hj => by cases hj; exact Nat.le_refl _))
      have hle : ss.length ≤ 64 := by
        have h1 := HP.out.length_eq
        rw [List.length_append, List.length_map, List.length_map] at h1
        omega
      have HE := Lib.hid (HR.out.left_eq)
      have HSZ := Lib.hid (HB1.out.size)
      have HP1 : Hid (((ss ++ [x.key]) ++ (outBy MF.nm todo (MF.nm x)).map MF.key).Perm (l.map MF.key)) := Lib.hid (by
        refine List.Perm.trans ?_ HP.out
        rw [List.append_assoc]
        exact List.Perm.append_left _ (by simpa using (hp.map MF.key).symm))
      have HNE := Lib.hid (HR.out.ne)
      clear hnd hp HR HB HO hG1 hs1
      go_wp2_with (first
        | (at_builtin; go_loud (refine wpl_app_str rfl (.tmp 16) (.tmp 18) rfl w.heap.size _ ss.length (ss.map encStr) rfl (Lib.hid (HO1.out.alloc _)) ⟨w1.heap.size, 0, none⟩ x.f.name rfl (cell_of_row _ _ 0 _ _ _ (heap_alloc_last w1 _)) (by omega) (by have := HSZ.out; rw [alloc_size]; omega) ?_); intro v' w2 HO2 hG2))
      have HR2 := Lib.hid ((HR1.out.below (below_alloc w1 _)).kept hG2.out (row_ne_low HO1.out HBM.out) (own_ne_iter' HO1.out HR1.out))
      have HE2 := Lib.hid (HR2.out.left_eq)
      have HB2 := Lib.hid (grown_alloc_trans hG2.out HB1.out (fun j hj => (HO1.out.lt j hj).1))
      clear hG2
      go_roundw
      case rel => exact ⟨_, cnt1, ss ++ [x.key], HR2, Lib.hid (by have := HO2.out; rw [List.length_append, List.map_append, List.map_cons, List.map_nil, key_enc]; exact this), HP1, HB2⟩
      case measure => rw [HE.out, HE2.out]; exact hlt.out
end Go.Proofs.YtpoiapfgbbmekaaGreatDoor
namespace Go.Proofs.YtpoiapfgbbmekaaGreatDoor
open Go.RowKit
theorem wpl_app_one {w : World} {ops : Array Oper} {rest : List Oper} {o : Oper} {a : Act} {Q : Exit → Act → World → Prop} (hgd : o.guard = none) (s x : Operand) (t e : TypeId)
    (ho : o.op = .call { callee := .builtin .append, args := #[s, x], argTypes := #[t, t] }) (ht : Tryz.prog.underlying t = some (.slice e)) (z : Value) (bytes : Nat) (hinfo : (Tryz.prog.info? e).map (fun i => (i.zero, i.size, i.bytes)) = some (some z, 1, bytes)) (hz : z.cells.size = 1) (hby : bytes ≤ 1000)
    (base : Nat) (v : Value) (n : Nat) (xs : List Value) (hs : a.eval s = v) (hown : Hid (w.ownsRow base e 1 v n xs))
    (ad : Addr) (y : Value) (hy : y.oneCell' = true) (hx : a.eval x = .slice (some ad) 1 1) (hcell : w.cell? ad = some y) (hn : n ≤ 1000000) (hbase : base ≤ w.heap.size)
    (h : ∀ v' w', Hid (w'.ownsRow base e 1 v' (n + 1) (xs ++ [y])) → Hid (w.grownBy w' v.ownBlock) → wpList Tryz.prog ops Q rest (a.put o.dst v') w') : wpList Tryz.prog ops Q (o :: rest) a w := by
  obtain ⟨i, hi, hz0, hz1, hz2⟩ := info_parts hinfo
  have hb2 : ((n + 1) + (n + 1) / 4 + 192) * bytes ≤ 281474976710656 := by
    refine Nat.le_trans (Nat.mul_le_mul_left _ hby) ?_
    omega
  refine wpList_append_own_wide w hgd s x t ho base e i z 1 bytes ht hi hz0 hz1 hz2 hz (by omega) v n xs hs hown.out ad 1 1 [y] hx rfl ?_ (by simpa using hy) (by unfold maxLen; omega) hb2 hbase ?_
  · intro j u hj
    match j, hj with
    | 0, hj => simp at hj; subst hj; simpa [Addr.add] using hcell
  · intro v' w' h1 h2 _
    exact h v' w' h1 h2
theorem ptr_parts : (Tryz.prog.info? 98).map (fun i => (i.zero, i.size, i.bytes)) = some (some (.pointer none), 1, 8) := by kernel_rfl
def wlF (x : MF) (j : Nat) : List (Nat × Nat) := ((List.range j).filter fun i => x.f.ws.getD i false).map fun i => (x.g, i)
def wlL (l : List MF) : List (Nat × Nat) := l.flatMap fun x => wlF x x.f.n
def wpV (p : Nat × Nat) : Value := .pointer (some ⟨p.1, p.2 * 129, none⟩)
theorem wlF_succ (x : MF) (j : Nat) : wlF x (j + 1) = wlF x j ++ (if x.f.ws.getD j false = true then [(x.g, j)] else []) := by
  unfold wlF
  rw [List.range_succ, List.filter_append, List.map_append]
  congr 1
  simp only [List.filter_cons, List.filter_nil]
  split <;> rfl
theorem wlL_succ (l : List MF) (i : Nat) (x : MF) (h : l[i]? = some x) : wlL (l.take (i + 1)) = wlL (l.take i) ++ wlF x x.f.n := by
  obtain ⟨hi, rfl⟩ := List.getElem?_eq_some_iff.1 h
  unfold wlL
  rw [List.take_succ_eq_append_getElem hi, List.flatMap_append]; simp
theorem wlF_len (x : MF) : ∀ j, j ≤ x.f.ws.length → (wlF x j).length = waitsN (x.f.ws.take j)
  | 0, _ => rfl
  | j + 1, h => by
    rw [wlF_succ, List.length_append, wlF_len x j (by omega), waitsN_take _ _ (by omega)]
    split <;> rfl
theorem wlL_len : ∀ (l : List MF), (∀ x ∈ l, x.f.ws.length = x.f.n) → (wlL l).length = waitingN (l.map MF.f)
  | [], _ => rfl
  | x :: l, h => by
    unfold wlL
    rw [List.flatMap_cons, List.length_append]
    have h1 := wlL_len l (fun y hy => h y (List.mem_cons_of_mem _ hy))
    unfold wlL at h1
    rw [h1, wlF_len x x.f.n (by rw [h x (List.mem_cons_self ..)]; exact Nat.le_refl _), List.take_of_length_le (by rw [h x (List.mem_cons_self ..)]; exact Nat.le_refl _)]
    simp [waitingN]
theorem wlF_le (x : MF) (j : Nat) : (wlF x j).length ≤ j := by
  unfold wlF
  rw [List.length_map]
  exact Nat.le_trans (List.length_filter_le ..) (by simp)
theorem wlL_le : ∀ (l : List MF), (∀ x ∈ l, x.f.n ≤ 64) → (wlL l).length ≤ 64 * l.length
  | [], _ => by simp [wlL]
  | x :: l, h => by
    have h1 := wlL_le l (fun y hy => h y (List.mem_cons_of_mem _ hy))
    have h2 := wlF_le x x.f.n
    have h3 := h x (List.mem_cons_self ..)
    unfold wlL at h1 ⊢
    rw [List.flatMap_cons, List.length_append, List.length_cons]; omega
theorem look_mem {α : Type} {nm : α → ByteArray} {vl : α → Value} {zv : Value} {l : List α} (h : (l.map nm).Nodup) {x : α} (hx : x ∈ l) : lookV nm vl zv l (nm x) = vl x := by
  unfold lookV atBy
  have e : l.find? (fun y => decide (nm y = nm x)) = some x := by
    induction l with
    | nil => simp at hx
    | cons y r ih =>
      rw [List.map_cons, List.nodup_cons] at h
      rw [List.find?_cons]
      by_cases e : nm y = nm x
      · rw [decide_eq_true e]
        rcases List.mem_cons.1 hx with rfl | hx
        · rfl
        · exact absurd (by rw [e]; exact List.mem_map_of_mem hx) h.1
      · rw [decide_eq_false e]
        rcases List.mem_cons.1 hx with rfl | hx
        · exact absurd rfl e
        · exact ih h.2 hx
  rw [e]
theorem SS.slice {w : World} {v : Value} {l : List ByteArray} (h : SS w v l) : ∃ a c, v = .slice a l.length c := by
  obtain ⟨a, c, e, _⟩ := CS.form h; exact ⟨a, c, e⟩
theorem size_name {s : ByteArray} (h : rightB s = true) : s.size ≤ maxLen := by
  unfold rightB nameN at h
  simp only [Bool.and_eq_true, decide_eq_true_eq] at h
  have : s.data.toList.length = s.size := Array.length_toList
  unfold maxLen; omega
theorem own_low {w : World} {base base' size : Nat} {e : TypeId} {v : Value} {n : Nat} {xs : List Value} (h : w.ownsRow base e size v n xs) (hb : base' ≤ base) : w.ownsRow base' e size v n xs := by
  refine ⟨h.1, ?_⟩
  rcases h.2 with h2 | ⟨g, cap, cur, hv, hbg, h3⟩
  · exact .inl h2
  · exact .inr ⟨g, cap, cur, hv, Nat.le_trans hb hbg, h3⟩
set_option maxRecDepth 8000 in
set_option maxHeartbeats 1000000 in
theorem pwaiting_any (w : World) (b bm : Nat) (l : List MF) (d : AD) (h : Dk w b bm l d) (hg : Good d) :
    Calls Tryz.prog 54 #[ptr ⟨b, 0, none⟩] w fun e w' => ∃ v, e = .returned v ∧ w'.ownsRow w.heap.size 98 1 v (wlL l).length ((wlL l).map wpV) ∧ Below w.heap.size w w' := by
  have HD := Lib.hid h
  have HG := Lib.hid hg
  have HN := Lib.hid (h.names hg)
  have hl : l.length ≤ 64 := by have := hg.few; rwa [h.files, List.length_map] at this
  have HL := Lib.hid hl
  have HNM : Hid (d.names = l.map MF.nm) := Lib.hid (by unfold AD.names; rw [h.files, List.map_map]; rfl)
  have HGF : Hid (∀ x ∈ l, GF x.f) := Lib.hid fun x hx => hg.file _ (by rw [h.files]; exact List.mem_map_of_mem hx)
  clear h hg
  go_enter Tryz.func54, Tryz.ntmps54
  go_wp2_with (first
    | (go_at_call 91; (with_reducible refine (plist_any _ b bm l d HD.out HG.out).mono ?_); rintro e w1 ⟨v1, rfl, hss, hb⟩; obtain ⟨a1, k1, rfl⟩ := hss.slice; rw [HNM.out, List.length_map] at hss ⊢; have HSS := Lib.hid hss; have HB1 := Lib.hid hb; have HD1 := Lib.hid (HD.out.below hb); clear hss hb))
  go_loopw [3, 11] (fun v iv wr => ∃ i : Nat, iv = .int .i64 i ∧ i ≤ l.length ∧ Hid (wr.ownsRow w1.heap.size 98 1 v (wlL (l.take i)).length ((wlL (l.take i)).map wpV)) ∧ Hid (Below w1.heap.size w1 wr)) (fun _ iv _ => l.length - (intOf iv).toNat)
  case atStart => exact ⟨0, rfl, by omega, ⟨rfl, .inl ⟨rfl, rfl⟩⟩, Below.refl _ _⟩
  case round =>
    obtain ⟨i, rfl, hi, HO, HB⟩ := hrel
    by_cases hlt : (i : Int) < (l.length : Int)
    · obtain ⟨x, hx⟩ := row_some (L := l) (i := i) (by omega)
      have hxm := List.mem_of_getElem? hx
      have HX := Lib.hid hx
      have HXF := Lib.hid (HGF.out x hxm)
      have HSO : Hid (SS wr (.slice a1 l.length k1) (l.map MF.nm)) := Lib.hid (HSS.out.kin (Kin.below HB.out))
      obtain ⟨nb, no, rfl, hcell⟩ := SS.at_ HSO.out i x.f.name (by rw [List.getElem?_map, hx]; rfl)
      have HDO := Lib.hid (HD1.out.below HB.out)
      obtain ⟨fl, lf, hb, _⟩ := HDO.out.blk
      obtain ⟨_, c1, _⟩ := hb.cells
      have HLK := Lib.hid ((look_mem (vl := MF.v) (zv := zS) HN.out hxm).trans (show x.v = .slice (some ⟨x.g, 0, none⟩) x.f.n x.c from rfl))
      have HSZ := Lib.hid (size_name HXF.out.name)
      obtain ⟨n, hn⟩ : ∃ n, x.f.n = n := ⟨_, rfl⟩
      rw [hn] at HLK
      have HXN := Lib.hid hn
      have hn64 : (n : Int) ≤ 64 := by have := HXF.out.n64; omega
      obtain ⟨wo, hwo⟩ : ∃ wo, wo = wr := ⟨_, rfl⟩
      subst hwo
      clear hb hx hxm hn
      go_wp2_with (first
        | (refine wpl_look secE rfl (.tmp 18) (.tmp 19) 69 rfl 9 125 Tryz.underlying9 Tryz.underlying69 (zeroS _) bm l rfl HDO.out.map x.f.name rfl HSZ.out ?_; rw [show lookV MF.nm MF.v zS l x.f.name = _ from HLK.out]))
      go_loopw [3, 23] (fun v jv wr => ∃ j : Nat, jv = .int .i64 j ∧ j ≤ n ∧ Hid (wr.ownsRow w1.heap.size 98 1 v (wlL (l.take i) ++ wlF x j).length ((wlL (l.take i) ++ wlF x j).map wpV)) ∧ Hid (Below w1.heap.size w1 wr)) (fun _ jv _ => n - (intOf jv).toNat)
      case atStart => exact ⟨0, rfl, by omega, by rw [show wlF x 0 = [] from rfl, List.append_nil]; exact HO, HB⟩
      case round =>
        obtain ⟨j, rfl, hj, HO2, HB2⟩ := hrel
        by_cases hjn : (j : Int) < (n : Int)
        · have HD2 := Lib.hid (HD1.out.below HB2.out)
          have hwt := (HD2.out.row x (List.mem_of_getElem? HX.out)).wt (secsOf_get x.f j (by rw [HXN.out]; omega))
          dsimp only at hwt
          obtain ⟨q, hq⟩ : ∃ q, x.f.ws.getD j false = q := ⟨_, rfl⟩
          rw [hq] at hwt
          have HS1 := Lib.hid (wlF_succ x j)
          rw [hq] at HS1
          have HLE : Hid ((wlL (l.take i) ++ wlF x j).length ≤ 1000000) := Lib.hid (by
            have h1 := wlL_le (l.take i) (fun y hy => (HGF.out y (List.mem_of_mem_take hy)).n64)
            have h2 := wlF_le x j
            have h3 : (l.take i).length ≤ l.length := List.length_take_le' ..
            have h4 := HL.out
            rw [List.length_append]; omega)
          have hjb : j < n := by omega
          have hidx : (129 : Nat) * n ≤ 9223372036854775807 := by omega
          cases q with
          | true =>
            rw [if_pos rfl] at HS1
            have HSB := Lib.hid HB2.out.size
            go_wp2_with (first
              | (at_builtin; refine wpl_app_one rfl (.tmp 31) (.tmp 35) 96 98 rfl Tryz.underlying96 (.pointer none) 8 ptr_parts rfl (by omega) w1.heap.size _ _ _ rfl (Lib.hid (HO2.out.alloc _)) ⟨wr.heap.size, 0, none⟩ (wpV (x.g, j)) rfl rfl (cell_of_row _ _ 0 _ _ _ (heap_alloc_last wr _)) HLE.out (by have := HSB.out; rw [alloc_size]; omega) ?_; intro v2 w2 HO4 hG; have HB4 := Lib.hid (grown_alloc_trans hG.out HB2.out (fun j hj => (HO2.out.lt j hj).1)); clear hG))
            have HO5 : Hid (w2.ownsRow w1.heap.size 98 1 v2 (wlL (l.take i) ++ wlF x (j + 1)).length ((wlL (l.take i) ++ wlF x (j + 1)).map wpV)) := by
              have h1 := HO4.out
              rw [HS1.out, ← List.append_assoc, List.length_append, List.map_append]; exact h1
            go_roundw
            case rel => exact ⟨j + 1, by go_num, by omega, HO5, HB4⟩
            case measure => simp [intOf]; omega
          | false =>
            rw [if_neg (by simp), List.append_nil] at HS1
            have HO5 : Hid (wr.ownsRow w1.heap.size 98 1 u3 (wlL (l.take i) ++ wlF x (j + 1)).length ((wlL (l.take i) ++ wlF x (j + 1)).map wpV)) := by
              rw [HS1.out]; exact HO2
            go_wp2
            go_roundw
            case rel => exact ⟨j + 1, by go_num, by omega, HO5, HB2⟩
            case measure => simp [intOf]; omega
        · obtain rfl : j = n := by omega
          have HO3 : Hid (wr.ownsRow w1.heap.size 98 1 u3 (wlL (l.take (i + 1))).length ((wlL (l.take (i + 1))).map wpV)) := by
            rw [wlL_succ l i x HX.out, HXN.out]; exact HO2
          go_wp2
          go_roundw
          case rel => exact ⟨i + 1, by go_num, by omega, HO3, HB2⟩
          case measure => simp [intOf]; omega
    · obtain rfl : i = l.length := by omega
      rw [List.take_length] at HO
      go_wp2
      go_ret
      exact ⟨_, rfl, own_low HO.out HB1.out.size, HB1.out.trans (HB.out.mono HB1.out.size)⟩
end Go.Proofs.YtpoiapfgbbmekaaGreatDoor
namespace Go.Proofs.YtpoiapfgbbmekaaGreatDoor
open Go.RowKit
theorem sz_size : Tryz.zeroCells133.size = 129 := by kernel_rfl
theorem sct_info (c : Array Value) (h : c.size = 129) : (Tryz.prog.info? 133).map (·.size) = some c.size := by rw [h]; kernel_rfl
def scv (s : Sc) : Array Value := s.cells.toArray
theorem scv_size {s : Sc} (h : s.ok) : (scv s).size = 129 := by simp [scv, h.len]
theorem Sc.one (s : Sc) : ∀ v ∈ s.cells, v.oneCell' = true := by
  intro v hv
  unfold Sc.cells at hv
  simp only [List.mem_append, List.mem_singleton] at hv
  rcases hv with h | h | rfl
  · exact il_one _ _ v h
  · exact il_one _ _ v h
  · rfl
def XB (w : World) (g : Nat) (s : Sc) : Prop := w.heap[g]? = some (.cells (scv s) 133 (0, 0)) ∧ s.ok
theorem XB.keep {w w' : World} {g : Nat} {s : Sc} (h : XB w g s) (hb : Below w.heap.size w w') : XB w' g s := ⟨by rw [hb.block g (Array.getElem?_eq_some_iff.1 h.1).1]; exact h.1, h.2⟩
theorem XB.sr {w : World} {g : Nat} {s : Sc} (h : XB w g s) : SR w g 1 [s] := by
  refine ⟨s.cells, h.1, by rw [h.2.len], by simp, by unfold maxLen; omega, fun i t ht => ?_⟩
  have hi : i = 0 := by have := (List.getElem?_eq_some_iff.1 ht).1; simpa using this
  subst hi
  simp at ht
  subst ht
  exact ⟨h.2, fun j v hv => by simpa using hv⟩
theorem XB.la {w : World} {g : Nat} {s : Sc} (h : XB w g s) : At w g 0 s.la := by simpa using h.sr.la (i := 0) rfl
theorem XB.se {w : World} {g : Nat} {s : Sc} (h : XB w g s) : At w g 64 s.se := by simpa using h.sr.se (i := 0) rfl
section
variable {w : World} {ops : Array Oper} {rest : List Oper} {o : Oper} {a : Act} {Q : Exit → Act → World → Prop}
theorem wpl_load_sc (hgd : o.guard = none) (x : Operand) (ho : o.op = .load 133 x) (g c : Nat) (S : List Sc) (h : SR w g c S) (i : Nat) (s : Sc) (hs : S[i]? = some s) (off : Nat) (hoff : i * 129 = off) (hx : a.eval x = .pointer (some ⟨g, off, none⟩))
    (hk : wpList Tryz.prog ops Q rest (a.put o.dst (.agg (scv s))) w) : wpList Tryz.prog ops Q (o :: rest) a w := by
  subst hoff
  refine wpList_load_mid hgd 133 x ho g (i * 129) hx s.cells _ ?_ Tryz.underlying133 rfl ?_ hk
  · intro j v hv
    exact h.cell hs hv
  · have := sct_info (scv s) (scv_size (h.ok hs))
    simpa [scv] using this
theorem wpl_store_sc {w1 : World} (hgd : o.guard = none) (x y : Operand) (ho : o.op = .store 133 x y) (hw : w = w1.alloc (.cells Tryz.zeroCells133 133)) (g : Nat) (hg : w1.heap.size = g) (s : Sc) (hs : s.ok)
    (hx : a.eval x = .pointer (some ⟨g, 0, none⟩)) (hy : a.eval y = .agg (scv s)) (h : ∀ w', Hid (XB w' g s) → Hid (Below w1.heap.size w1 w') → wpList Tryz.prog ops Q rest (a.put o.dst undef) w') : wpList Tryz.prog ops Q (o :: rest) a w := by
  subst hw; subst hg
  have hk : (w1.alloc (.cells Tryz.zeroCells133 133)).heap[w1.heap.size]? = some (.cells Tryz.zeroCells133 133 (0, 0)) := heap_alloc_last w1 _
  refine wpList_store_row hgd 133 x y ho w1.heap.size (scv s) hx hy _ _ hk (sct_info _ (scv_size hs)) (by rw [scv_size hs, sz_size]) (all_oneCell_toArray s.one) ?_
  exact h _ ⟨setRow_heap _ _ _ _ _ _ hk, hs⟩ (below_row (below_alloc w1 _) (Nat.le_refl _) _)
end
theorem pWaiting_any (w : World) (b bm : Nat) (l : List MF) (d : AD) (h : Dk w b bm l d) (hg : Good d) :
    Calls Tryz.prog 63 #[ptr ⟨b, 0, none⟩] w fun e w' => e = .returned (.int .i64 (waitingN d.L : Int)) ∧ Below w.heap.size w w' := by
  have HD := Lib.hid h
  have HG := Lib.hid hg
  have HE : Hid ((wlL l).length = waitingN d.L) := Lib.hid (by
    rw [h.files]
    exact wlL_len l fun x hx => (hg.file _ (by rw [h.files]; exact List.mem_map_of_mem hx)).ws)
  obtain ⟨n, hn⟩ : ∃ n, waitingN d.L = n := ⟨_, rfl⟩
  rw [hn] at HE ⊢
  clear h hg hn
  go_enter Tryz.func63, Tryz.ntmps63
  go_wp2_with (first
    | (go_at_call 54; (with_reducible refine (pwaiting_any _ b bm l d HD.out HG.out).mono ?_); rintro e w1 ⟨v1, rfl, hcs, hb⟩; rw [HE.out] at hcs; have HB := Lib.hid hb; obtain ⟨a1, k1, rfl, _⟩ := (CS.own hcs).form; clear hcs hb))
  go_ret
  exact ⟨rfl, HB.out⟩
theorem own_stay {w w' : World} {base size : Nat} {e : TypeId} {v : Value} {n : Nat} {xs : List Value} (h : w.ownsRow base e size v n xs) (hb : Below w.heap.size w w') : w'.ownsRow base e size v n xs := by
  refine ⟨h.1, ?_⟩
  rcases h.2 with h2 | ⟨g, cap, cur, hv, hbg, hcur, h3⟩
  · exact .inl h2
  · exact .inr ⟨g, cap, cur, hv, hbg, by rw [hb.block g (Array.getElem?_eq_some_iff.1 hcur).1]; exact hcur, h3⟩
theorem own_base {w : World} {base base' size : Nat} {e : TypeId} {v : Value} {n : Nat} {xs : List Value} (h : w.ownsRow base e size v n xs) (hb : base' ≤ base) : w.ownsRow base' e size v n xs := own_low h hb
def LO (B : Nat) (w : World) (v : Value) (fs : List LFile) : Prop :=
  ∃ es : List (List Value), w.ownsRow B 107 2 v fs.length es.flatten ∧ es.length = fs.length ∧ ∀ (k : Nat) (e : List Value) (f : LFile), es[k]? = some e → fs[k]? = some f → ∃ v1, e = [.string f.1, v1] ∧ w.ownsRow B 63 64 v1 f.2.1 (il .u8 f.2.2)
theorem LO.nil (B : Nat) (w : World) : LO B w (.slice none 0 0) [] := ⟨[], ⟨rfl, .inl ⟨rfl, rfl⟩⟩, rfl, fun k e f he => by simp at he⟩
theorem LO.keep {B : Nat} {w w' : World} {v : Value} {fs : List LFile} (h : LO B w v fs) (hb : Below w.heap.size w w') : LO B w' v fs := by
  obtain ⟨es, h1, h2, h3⟩ := h
  exact ⟨es, own_stay h1 hb, h2, fun k e f he hf => by obtain ⟨v1, e1, e2⟩ := h3 k e f he hf; exact ⟨v1, e1, own_stay e2 hb⟩⟩
theorem LO.la {B : Nat} {w : World} {v : Value} {fs : List LFile} (h : LO B w v fs) : LA w v fs := by
  obtain ⟨es, h1, h2, h3⟩ := h
  refine ⟨es, CS.own h1, h2, fun e he => ?_, fun k e f he hf => ?_⟩
  · obtain ⟨k, hk, rfl⟩ := List.getElem_of_mem he
    obtain ⟨v1, e1, _⟩ := h3 k _ _ (List.getElem?_eq_getElem hk) (List.getElem?_eq_getElem (by omega))
    rw [e1]; rfl
  · obtain ⟨v1, e1, e2⟩ := h3 k e f he hf
    exact ⟨v1, e1, FS.own e2⟩
theorem afile_parts : (Tryz.prog.info? 107).map (fun i => (i.zero, i.size, i.bytes)) = some (some (.agg #[.string ByteArray.empty, .slice none 0 0]), 2, 40) := by kernel_rfl
theorem wpl_app_lf {w : World} {ops : Array Oper} {rest : List Oper} {o : Oper} {a : Act} {Q : Exit → Act → World → Prop} (hgd : o.guard = none) (s x : Operand)
    (ho : o.op = .call { callee := .builtin .append, args := #[s, x], argTypes := #[103, 103] })
    (B : Nat) (v : Value) (fs : List LFile) (hs : a.eval s = v) (hown : Hid (LO B w v fs)) (g : Nat) (f : LFile) (v1 : Value) (hx : a.eval x = .slice (some ⟨g, 0, none⟩) 1 1) (hblk : w.heap[g]? = some (.cells #[.string f.1, v1] 107 (0, 0))) (hf : w.ownsRow B 63 64 v1 f.2.1 (il .u8 f.2.2))
    (hn : fs.length ≤ 1000000) (hbase : B ≤ w.heap.size)
    (h : ∀ v' w', Hid (LO B w' v' (fs ++ [f])) → Hid (Below B w w') → wpList Tryz.prog ops Q rest (a.put o.dst v') w') : wpList Tryz.prog ops Q (o :: rest) a w := by
  obtain ⟨i, hi, hz0, hz1, hz2⟩ := info_parts afile_parts
  obtain ⟨es, h1, h2, h3⟩ := hown.out
  have hone : v1.oneCell' = true := by
    rcases hf.2 with ⟨rfl, _⟩ | ⟨_, _, _, rfl, _⟩ <;> rfl
  refine wpList_append_own_wide w hgd s x 103 ho B 107 i _ 2 40 Tryz.underlying103 hi hz0 hz1 hz2 rfl (by omega) v fs.length es.flatten hs h1 ⟨g, 0, none⟩ 1 1 [.string f.1, v1] hx rfl ?_ ?_ (by unfold maxLen; omega) (by omega) hbase ?_
  · intro j u hj
    have hc : w.cell? ⟨g, j, none⟩ = some u := by rw [cell_of_row _ g j _ _ _ hblk]; simpa using hj
    by_cases h0 : j = 0
    · subst h0; simpa [Addr.add] using hc
    · simpa [Addr.add, h0] using hc
  · intro u hu
    simp only [List.mem_cons, List.not_mem_nil, or_false] at hu
    rcases hu with rfl | rfl
    · rfl
    · exact hone
  · intro v' w' ho' hg _
    have hne : 63 ≠ 107 := by decide
    refine h v' w' ⟨es ++ [[.string f.1, v1]], by rw [List.flatten_append, List.flatten_singleton, List.length_append]; exact ho', by simp [h2], fun k e q he hq => ?_⟩ ((Below.refl B w).grown hg hbase (fun j hj => (h1.lt j hj).1))
    by_cases hk : k < fs.length
    · rw [List.getElem?_append_left (by omega)] at he
      rw [List.getElem?_append_left hk] at hq
      obtain ⟨u, e1, e2⟩ := h3 k e q he hq
      exact ⟨u, e1, own_over e2 hg (own_types e2 h1 hne)⟩
    · rw [List.getElem?_append_right (by omega)] at he hq
      have hk0 : k - fs.length = 0 := by have := (List.getElem?_eq_some_iff.1 hq).1; simpa using this
      rw [h2, hk0] at he
      rw [hk0] at hq
      simp at he hq
      subst he; subst hq
      exact ⟨v1, rfl, own_over hf hg (own_types hf h1 hne)⟩
end Go.Proofs.YtpoiapfgbbmekaaGreatDoor
namespace Go.Proofs.YtpoiapfgbbmekaaGreatDoor
open Go.RowKit
def MF.lf (x : MF) : LFile := (x.f.name, x.f.n, x.f.las)
theorem take_chunk (l : List Int) (j : Nat) : l.take (j * 64) ++ chunk l j = l.take ((j + 1) * 64) := by
  unfold chunk
  rw [show (j + 1) * 64 = j * 64 + 64 from by omega, List.take_add]
def FB (w : World) (g : Nat) (s : ByteArray) (v : Value) : Prop := w.heap[g]? = some (.cells #[.string s, v] 107 (0, 0))
theorem FB.below {w w' : World} {B g : Nat} {s : ByteArray} {v : Value} (h : FB w g s v) (hb : Below B w w') (hg : g < B) : FB w' g s v := by unfold FB at *; rw [hb.block g hg]; exact h
theorem FB.cells {w : World} {g : Nat} {s : ByteArray} {v : Value} (h : FB w g s v) : w.cell? ⟨g, 0, none⟩ = some (.string s) ∧ w.cell? ⟨g, 1, none⟩ = some v := ⟨cell_of_row w g 0 _ _ _ h, cell_of_row w g 1 _ _ _ h⟩
theorem FB.frozen {w : World} {g : Nat} {s : ByteArray} {v : Value} (h : FB w g s v) (j : Nat) : w.frozen? ⟨g, j, none⟩ = false := Joins.unfrozen_of_block h j
theorem FB.set {w : World} {g : Nat} {s : ByteArray} {v : Value} (h : FB w g s v) (u : Value) : FB (w.setCell ⟨g, 1, none⟩ u) g s u := Joins.block_setCell h _
theorem FB.grown {w w' : World} {g : Nat} {s : ByteArray} {v : Value} {row : Option Nat} (h : FB w g s v) (hg : w.grownBy w' row) (hne : some g ≠ row) : FB w' g s v := by
  unfold FB at *; rw [hg.block g (Array.getElem?_eq_some_iff.1 h).1 hne]; exact h
theorem FB.ne_row {w : World} {g base size n : Nat} {e : TypeId} {v : Value} {xs : List Value} (h : w.ownsRow base e size v n xs) (hg : g < base) : some g ≠ v.ownBlock := fun e1 => by have := (h.lt g e1.symm).1; omega
set_option maxRecDepth 20000 in
set_option maxHeartbeats 2000000 in
theorem pfiles_any (w : World) (b bm : Nat) (l : List MF) (d : AD) (h : Dk w b bm l d) (hg : Good d) :
    Calls Tryz.prog 61 #[ptr ⟨b, 0, none⟩] w fun e w' => ∃ v, e = .returned v ∧ LA w' v d.files ∧ Below w.heap.size w w' := by
  have HD := Lib.hid h
  have HG := Lib.hid hg
  have HN := Lib.hid (h.names hg)
  have hl : l.length ≤ 64 := by have := hg.few; rwa [h.files, List.length_map] at this
  have HL := Lib.hid hl
  have HNM : Hid (d.names = l.map MF.nm) := Lib.hid (by unfold AD.names; rw [h.files, List.map_map]; rfl)
  have HFM : Hid (d.files = l.map MF.lf) := Lib.hid (by unfold AD.files; rw [h.files, List.map_map]; rfl)
  have HGF : Hid (∀ x ∈ l, GF x.f) := Lib.hid fun x hx => hg.file _ (by rw [h.files]; exact List.mem_map_of_mem hx)
  clear h hg
  go_enter Tryz.func61, Tryz.ntmps61
  go_wp2_with (first
    | (go_at_call 91; (with_reducible refine (plist_any _ b bm l d HD.out HG.out).mono ?_); rintro e w1 ⟨v1, rfl, hss, hb⟩; obtain ⟨a1, k1, rfl⟩ := hss.slice; rw [HNM.out, List.length_map] at hss ⊢; have HSS := Lib.hid hss; have HB1 := Lib.hid hb; have HD1 := Lib.hid (HD.out.below hb); clear hss hb))
  go_loopw [3, 12] (fun v iv wr => ∃ i : Nat, iv = .int .i64 i ∧ i ≤ l.length ∧ Hid (LO w1.heap.size wr v ((l.take i).map MF.lf)) ∧ Hid (Below w1.heap.size w1 wr)) (fun _ iv _ => l.length - (intOf iv).toNat)
  case atStart => exact ⟨0, rfl, by omega, LO.nil _ _, Below.refl _ _⟩
  case round =>
    obtain ⟨i, rfl, hi, HO, HB⟩ := hrel
    by_cases hlt : (i : Int) < (l.length : Int)
    · obtain ⟨x, hx⟩ := row_some (L := l) (i := i) (by omega)
      have hxm := List.mem_of_getElem? hx
      have HX := Lib.hid hx
      have HXF := Lib.hid (HGF.out x hxm)
      have HSO : Hid (SS wr (.slice a1 l.length k1) (l.map MF.nm)) := Lib.hid (HSS.out.kin (Kin.below HB.out))
      obtain ⟨nb, no, rfl, hcell⟩ := SS.at_ HSO.out i x.f.name (by rw [List.getElem?_map, hx]; rfl)
      have HDO := Lib.hid (HD1.out.below HB.out)
      have HLK := Lib.hid ((look_mem (vl := MF.v) (zv := zS) HN.out hxm).trans (show x.v = .slice (some ⟨x.g, 0, none⟩) x.f.n x.c from rfl))
      have HSZ := Lib.hid (size_name HXF.out.name)
      obtain ⟨n, hn⟩ : ∃ n, x.f.n = n := ⟨_, rfl⟩
      rw [hn] at HLK
      have HXN := Lib.hid hn
      have hn64 : (n : Int) ≤ 64 := by have := HXF.out.n64; omega
      obtain ⟨wo, hwo⟩ : ∃ wo, wo = wr := ⟨_, rfl⟩
      subst hwo
      clear hx hxm hn
      have HD2 := Lib.hid (HDO.out.below (below_alloc wo (.cells #[.string x.f.name, .slice none 0 0] 107)))
      obtain ⟨fl, lf, hb, _⟩ := HD2.out.blk
      obtain ⟨_, c1, _⟩ := hb.cells
      have HF0 : Hid (FB (wo.alloc (.cells #[.string x.f.name, .slice none 0 0] 107)) wo.heap.size x.f.name (.slice none 0 0)) := Lib.hid (heap_alloc_last wo _)
      have HB0 := Lib.hid (below_alloc wo (.cells #[.string x.f.name, .slice none 0 0] 107))
      clear hb
      go_wp2_with (first
        | (refine wpl_look secE rfl (.tmp 21) (.tmp 22) 69 rfl 9 125 Tryz.underlying9 Tryz.underlying69 (zeroS _) bm l rfl HD2.out.map x.f.name rfl HSZ.out ?_; rw [show lookV MF.nm MF.v zS l x.f.name = _ from HLK.out]))
      go_loopw [25] (fun jv wr => ∃ (j : Nat) (v : Value), jv = .int .i64 j ∧ j ≤ n ∧ Hid (FB wr wo.heap.size x.f.name v) ∧ Hid (wr.ownsRow (wo.heap.size + 1) 63 64 v j (il .u8 (x.f.las.take (j * 64)))) ∧ Hid (Below wo.heap.size wo wr)) (fun jv _ => n - (intOf jv).toNat)
      case atStart => exact ⟨0, _, rfl, by omega, HF0, Lib.hid ⟨rfl, .inl ⟨rfl, rfl⟩⟩, HB0⟩
      case round =>
        obtain ⟨j, v, rfl, hj, HF, HV, HB2⟩ := hrel
        obtain ⟨va, vc, rfl⟩ := own_slice HV.out
        by_cases hjn : (j : Int) < (n : Int)
        · have HDW := Lib.hid (HDO.out.below HB2.out)
          have hjb : j < n := by omega
          have hsc := secsOf_get x.f j (by rw [HXN.out]; omega)
          obtain ⟨s, hs⟩ : ∃ s : Sc, s = ⟨chunk x.f.las j, chunk x.f.seen j, x.f.ws.getD j false⟩ := ⟨_, rfl⟩
          rw [← hs] at hsc
          have HSC := Lib.hid hsc
          have HSR := Lib.hid (HDW.out.row x (List.mem_of_getElem? HX.out))
          have HSOK := Lib.hid (HSR.out.ok hsc)
          have HLA : Hid (s.la = chunk x.f.las j) := Lib.hid (by rw [hs])
          have HFL := Lib.hid (Array.getElem?_eq_some_iff.1 HF.out).1
          clear hsc hs
          go_wp2_with (first
            | (refine wpl_load_sc rfl (.tmp 27) rfl x.g x.c _ HSR.out j s HSC.out (j * 129) rfl rfl ?_)
            | (refine wpl_store_sc rfl (.tmp 8) (.tmp 28) rfl rfl wr.heap.size rfl s HSOK.out rfl rfl ?_; intro w3 HX3 hb3; have HB3 := Lib.hid hb3.out; have HF3 := Lib.hid (HF.out.below HB3.out HFL.out); have HV3 := Lib.hid (own_stay HV.out HB3.out); clear hb3; obtain ⟨_, f1⟩ := HF3.out.cells)
            | (refine wpl_load_at rfl (.tmp 31) rfl wr.heap.size 0 rfl s.la HX3.out.la ?_)
            | (refine wpl_build_sec rfl (.tmp 32) rfl s.la HSOK.out.la rfl ?_)
            | (at_builtin; refine wpl_app_fs rfl (.tmp 30) (.tmp 33) rfl (wo.heap.size + 1) _ j _ rfl (Lib.hid (HV3.out.alloc _)) _ 1 s.la rfl (Lib.hid (FS.blk (Blk.new w3 s.la HSOK.out.la))) (by omega) wo.heap.size wo (Lib.hid ((chain HB2.out HB3.out).alloc (chain HB2.out HB3.out).size _)) (by omega) (by have h1 := HFL; have h2 := HB3.out.size; rw [alloc_size]; exact Nat.le_trans h1.out (by omega)) ?_; intro v4 w4 HV4 HB4 hG4; obtain ⟨va4, vc4, rfl⟩ := own_slice HV4.out; have HF4 := Lib.hid ((HF3.out.below (below_alloc w3 _) (Array.getElem?_eq_some_iff.1 HF3.out).1).grown hG4.out (FB.ne_row HV3.out (by omega))); clear hG4; obtain ⟨_, f4⟩ := HF4.out.cells; have fz4 := HF4.out.frozen 1))
          have hT : il .u8 (x.f.las.take (j * 64) ++ s.la) = il .u8 (x.f.las.take ((j + 1) * 64)) := by rw [HLA.out, take_chunk]
          rw [hT] at HV4
          have HV5 : Hid ((w4.setCell ⟨wo.heap.size, 1, none⟩ (.slice va4 (j + 1) vc4)).ownsRow (wo.heap.size + 1) 63 64 (.slice va4 (j + 1) vc4) (j + 1) (il .u8 (x.f.las.take ((j + 1) * 64)))) :=
            Lib.hid (own_over HV4.out (grown_setCell _ _ _ _) (fun g hg e => by obtain rfl := Option.some.inj e; have := (HV4.out.lt _ hg).1; omega))
          have HB5 : Hid (Below wo.heap.size wo (w4.setCell ⟨wo.heap.size, 1, none⟩ (.slice va4 (j + 1) vc4))) := Lib.hid (HB4.out.setCell (Nat.le_refl _) _)
          go_roundw
          case rel => exact ⟨j + 1, _, by go_num, by omega, HF4.out.set _, HV5, HB5⟩
          case measure => simp [intOf]; omega
        · obtain rfl : j = n := by omega
          have hT : x.f.las.take (j * 64) = x.f.las := List.take_of_length_le (by rw [HXF.out.las, HXN.out]; exact Nat.le_refl _)
          rw [hT] at HV
          have HOW := Lib.hid (HO.out.keep HB2.out)
          have HLE : Hid (((l.take i).map MF.lf).length ≤ 1000000) := Lib.hid (by
            rw [List.length_map]
            have h1 : (l.take i).length ≤ l.length := List.length_take_le' ..
            have := HL.out; omega)
          have hlf : x.lf = (x.f.name, j, x.f.las) := by unfold MF.lf; rw [HXN.out]
          have HTK : Hid ((l.take (i + 1)).map MF.lf = (l.take i).map MF.lf ++ [x.lf]) := Lib.hid (by
            obtain ⟨hi2, rfl⟩ := List.getElem?_eq_some_iff.1 HX.out
            rw [List.take_succ_eq_append_getElem hi2, List.map_append]; rfl)
          rw [hlf] at HTK
          obtain ⟨f0, f1⟩ := HF.out.cells
          have HS1 := Lib.hid HB.out.size
          have HS2 := Lib.hid HB2.out.size
          clear hT hlf
          go_wp2_with (first
            | (at_builtin; refine wpl_app_lf rfl (.tmp 37) (.tmp 39) rfl w1.heap.size _ _ rfl (Lib.hid (HOW.out.keep (below_alloc wr _))) wr.heap.size (x.f.name, j, x.f.las) _ rfl (heap_alloc_last wr _) (own_stay (own_base HV.out (by have := HS1.out; omega)) (below_alloc wr _)) HLE.out (by have h1 := HS1.out; have h2 := HS2.out; rw [alloc_size]; omega) ?_; intro v6 w6 HO6 HB6; rw [← HTK.out] at HO6; have HB7 := Lib.hid ((HB.out.trans (HB2.out.mono HB.out.size)).trans ((below_alloc wr (.cells #[.string x.f.name, .slice va j vc] 107)).mono (Nat.le_trans HS1.out HS2.out) |>.trans HB6.out)); clear HB6))
          go_roundw
          case rel => exact ⟨i + 1, by go_num, by omega, HO6, HB7⟩
          case measure => simp [intOf]; omega
    · obtain rfl : i = l.length := by omega
      rw [List.take_length] at HO
      go_wp2
      go_ret
      exact ⟨_, rfl, by rw [HFM.out]; exact HO.out.la, HB1.out.trans (HB.out.mono HB1.out.size)⟩
end Go.Proofs.YtpoiapfgbbmekaaGreatDoor
