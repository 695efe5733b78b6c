/-
  WHICH HEADERS ARE RIGHT, AND WHICH ARE NEWER (layer 18): what the program's within, Right, Newer answer. For every header that its types allow.
-/
import Derived.Test.YtncnmmillhnhlaaDoorHeadBlk
namespace Go.Proofs.YtncnmmillhnhlaaDoor
open Go.RowKit
def btwn (n a b : Int) : Bool := decide (a ≤ n ∧ n ≤ b)
theorem within_any (n a b : Int) (w : World) : Calls Tryd.prog 15 #[.int .i64 n, .int .i64 a, .int .i64 b] w fun e w' => e = .returned (.bool (btwn n a b)) ∧ w = w' := by
  by_cases h1 : a ≤ n
  · by_cases h2 : n ≤ b
    · rw [show btwn n a b = true from by simp [btwn, h1, h2]]
      go_enter Tryd.func15, Tryd.ntmps15
      go_wp2
      go_ret
      exact ⟨rfl, rfl⟩
    · rw [show btwn n a b = false from by simp [btwn, h2]]
      go_enter Tryd.func15, Tryd.ntmps15
      go_wp2
      go_ret
      exact ⟨rfl, rfl⟩
  · rw [show btwn n a b = false from by simp [btwn, h1]]
    go_enter Tryd.func15, Tryd.ntmps15
    go_wp2
    go_ret
    exact ⟨rfl, rfl⟩
/-- the heads' bound as the program tells it -/
def bndF (f : Int) : Int := IntKind.i64.wrap (f - 1)
def okF (f : Int) (l : List Int) (i : Nat) : Prop := ∀ j, j < i → btwn (l.getD j 0) 0 (bndF f) = true
theorem right_false {h : Hdr} (ht : HdT h) {i : Nat} (hi : i < 4) (hb : btwn (h.l.getD i 0) 0 (bndF h.f) = false) : hdOk h = false := by
  cases hk : hdOk h
  · rfl
  · obtain ⟨_, _, h3, h4⟩ := hdOk_parts hk
    have := h4 (h.l.getD i 0) (getD_mem (by rw [ht.n]; exact hi))
    have hw : bndF h.f = h.f - 1 := IntWalk.i64_in _ (by omega)
    rw [hw] at hb
    unfold btwn at hb
    simp only [decide_eq_false_iff_not] at hb
    omega
theorem right_all {h : Hdr} (ht : HdT h) (hf : okF h.f h.l 4) : hdOk h = (decide (h.e ≠ 0) && (btwn h.s 1 2147483647 && btwn h.f 1 2147483647)) := by
  rw [Bool.eq_iff_iff]
  constructor
  · intro hk
    obtain ⟨h1, h2, h3, _⟩ := hdOk_parts hk
    simp [h1, btwn, h2, h3]
  · intro hk
    simp only [Bool.and_eq_true, decide_eq_true_eq, btwn] at hk
    obtain ⟨h1, h2, h3⟩ := hk
    refine hdOk_of h1 (by simp [lsn, h2]) (by simp [lsn, h3]) fun x hx => ?_
    obtain ⟨j, hj, rfl⟩ := List.getElem_of_mem hx
    have := hf j (by rw [ht.n] at hj; exact hj)
    have hw : bndF h.f = h.f - 1 := IntWalk.i64_in _ (by omega)
    rw [hw] at this
    simp only [btwn, decide_eq_true_eq, List.getD, hj, getElem?_pos, Option.getD_some] at this
    omega
set_option maxRecDepth 8000 in
set_option maxHeartbeats 1000000 in
theorem hright_any (h : Hdr) (ht : HdT h) (w : World) : Calls Tryd.prog 7 #[.agg (hv h)] w fun e w' => e = .returned (.bool (hdOk h)) ∧ Below w.heap.size w w' := by
  obtain ⟨w0, hw0⟩ : ∃ q, w.alloc (.cells (hv h) 25) = q := ⟨_, rfl⟩
  have HK := Lib.hid (show HB w0 w.heap.size h from by rw [← hw0]; exact HB.new w h ht.n)
  have HW := Lib.hid (show Below w.heap.size w w0 from by rw [← hw0]; exact balloc w _)
  have HTY := Lib.hid ht
  obtain ⟨z0, z1, z2⟩ := HK.out.cells
  have he : 0 ≤ h.e ∧ h.e ≤ 18446744073709551615 := ht.e
  obtain ⟨m, hm⟩ : ∃ m, bndF h.f = m := ⟨_, rfl⟩
  have hm2 : IntKind.i64.wrap (h.f - 1) = m := hm
  obtain ⟨y, hy⟩ : ∃ y, hdOk h = y := ⟨_, rfl⟩
  have HY := Lib.hid hy
  have HM := Lib.hid hm
  rw [hy]
  obtain ⟨e, s, f, l⟩ := h
  dsimp only at *
  clear ht hy hm
  go_enter Tryd.func7, Tryd.ntmps7
  go_wp2_with (first
    | (refine wpl_load_l4 rfl (.tmp 5) rfl rfl HK.out ?_))
  go_loopw [7] (fun v wr => ∃ i : Nat, v = .int .i64 i ∧ i ≤ 4 ∧ Hid (okF f l i) ∧ wr = w0) (fun v _ => 4 - (intOf v).toNat)
  case atStart => exact ⟨0, rfl, by omega, Lib.hid (fun j hj => absurd hj (by omega)), rfl⟩
  case round =>
    obtain ⟨i, rfl, hi, HO, rfl⟩ := hrel
    by_cases hlt : i < 4
    · have hix := index_l4 l HTY.out.n i hlt wr
      obtain ⟨x, hx⟩ : ∃ x, l.getD i 0 = x := ⟨_, rfl⟩
      rw [hx] at hix
      obtain ⟨b, hb⟩ : ∃ b, btwn x 0 m = b := ⟨_, rfl⟩
      have HX := Lib.hid hx
      have HBT := Lib.hid hb
      have HC := Lib.hid (within_any x 0 m wr)
      rw [hb] at HC
      have hlt2 : (i : Int) < 4 := by omega
      clear hx hb
      cases b with
      | false =>
        go_wp2_with (first
          | (go_at_call 15; (with_reducible refine (HC.out).mono ?_); rintro r w' ⟨rfl, rfl⟩))
        go_ret
        exact ⟨ret_bool (by rw [← HY.out]; exact (right_false HTY.out hlt (by dsimp only; rw [HX.out, HM.out]; exact HBT.out)).symm), HW.out⟩
      | true =>
        go_wp2_with (first
          | (go_at_call 15; (with_reducible refine (HC.out).mono ?_); rintro r w' ⟨rfl, rfl⟩))
        go_roundw
        case rel =>
          refine ⟨i + 1, by go_num, by omega, Lib.hid fun j hj => ?_, trivial⟩
          by_cases hji : j = i
          · subst hji; rw [HX.out, HM.out]; exact HBT.out
          · exact HO.out j (by omega)
        case measure => simp [intOf]; omega
    · obtain rfl : i = 4 := by omega
      have HA := Lib.hid (right_all HTY.out HO.out)
      rw [HY.out] at HA
      dsimp only at HA
      obtain ⟨b1, hb1⟩ : ∃ b, btwn s 1 2147483647 = b := ⟨_, rfl⟩
      obtain ⟨b2, hb2⟩ : ∃ b, btwn f 1 2147483647 = b := ⟨_, rfl⟩
      have HC1 := Lib.hid (within_any s 1 2147483647 wr)
      have HC2 := Lib.hid (within_any f 1 2147483647 wr)
      rw [hb1] at HC1
      rw [hb2] at HC2
      rw [hb1, hb2] at HA
      clear hb1 hb2
      have hi4 : ¬ ((4 : Nat) : Int) < 4 := by omega
      by_cases h0 : e = 0
      · subst h0
        go_wp2
        go_ret
        exact ⟨ret_bool (by rw [HA.out]; simp), HW.out⟩
      · cases b1 with
        | false =>
          go_wp2_with (first
            | (go_at_call 15; (with_reducible refine (HC1.out).mono ?_); rintro r w' ⟨rfl, rfl⟩))
          go_ret
          exact ⟨ret_bool (by rw [HA.out]; simp), HW.out⟩
        | true =>
          go_wp2_with (first
            | (go_at_call 15; first | ((with_reducible refine (HC1.out).mono ?_); rintro r w' ⟨rfl, rfl⟩) | ((with_reducible refine (HC2.out).mono ?_); rintro r w' ⟨rfl, rfl⟩)))
          go_ret
          exact ⟨ret_bool (by rw [HA.out]; simp [h0]), HW.out⟩
theorem newer_any (x y : Hdr) (hx : HdT x) (hy : HdT y) (w : World) : Calls Tryd.prog 9 #[.agg (hv x), .agg (hv y)] w fun r w' => r = .returned (.bool (decide (y.e < x.e) || (decide (x.e = y.e) && decide (y.s < x.s)))) ∧ Below w.heap.size w w' := by
  obtain ⟨w0, hw0⟩ : ∃ q, w.alloc (.cells (hv x) 25) = q := ⟨_, rfl⟩
  obtain ⟨w1, hw1⟩ : ∃ q, w0.alloc (.cells (hv y) 25) = q := ⟨_, rfl⟩
  have hb0 : Below w.heap.size w w0 := by rw [← hw0]; exact balloc w _
  have hb1 : Below w0.heap.size w0 w1 := by rw [← hw1]; exact balloc w0 _
  have hs0 : w0.heap.size = w.heap.size + 1 := by rw [← hw0]; exact alloc_size w _
  have k0 : HB w0 w.heap.size x := by rw [← hw0]; exact HB.new w x hx.n
  have k1 : HB w1 w0.heap.size y := by rw [← hw1]; exact HB.new w0 y hy.n
  obtain ⟨a0, a1, _⟩ := (k0.keep hb1).cells
  obtain ⟨c0, c1, _⟩ := k1.cells
  rw [hs0] at c0 c1
  have HW := Lib.hid (bch hb0 hb1)
  obtain ⟨e, s, f, l⟩ := x
  obtain ⟨e', s', f', l'⟩ := y
  dsimp only at *
  clear k0 k1 hb0 hb1 hx hy
  by_cases h1 : e' < e
  · go_enter Tryd.func9, Tryd.ntmps9
    go_wp2
    go_ret
    exact ⟨ret_bool (by simp [h1]), HW.out⟩
  · by_cases h2 : e = e'
    · subst h2
      go_enter Tryd.func9, Tryd.ntmps9
      go_wp2
      go_ret
      exact ⟨ret_bool (by simp), HW.out⟩
    · go_enter Tryd.func9, Tryd.ntmps9
      go_wp2
      go_ret
      exact ⟨ret_bool (by simp [h1]), HW.out⟩
end Go.Proofs.YtncnmmillhnhlaaDoor
