/-
  WHAT THE PROGRAM'S OWN kind, Room, Fits OF LAYER 14 (cut) ANSWER. No condition.
-/
import Derived.Test.YtepmiooemjjhdaaCutMath
import Derived.Test.YtepmiooemjjhdaaSpanCode
import Derived.Test.YtepmiooemjjhdaaBelow
namespace Go.Proofs.Ytepmiooemjjhdaa
open Go.RowKit
set_option maxRecDepth 8000 in
theorem kind_any (x y : Bool) (w : World) : Calls Try.prog 18 #[.bool x, .bool y] w fun e w' => e = .returned (.int .i64 (kindN x y)) ∧ w' = w := by
  cases x <;> cases y <;>
  · go_enter Try.func18, Try.ntmps18
    go_wp2
    go_ret
    exact ⟨rfl, rfl⟩
set_option maxRecDepth 8000 in
theorem room_any (n : Int) (h : I63 n) (w : World) : Calls Try.prog 12 #[.int .i64 n] w fun e w' => e = .returned (.int .i64 (roomI (nr n))) ∧ Below w.heap.size w w' := by
  have hle := nr_le n
  have hbl := begin_le _ hle
  have hll := left_le _ hbl
  have H1 : Hid (∀ w, Calls Try.prog 16 #[.int .i64 n] w fun e w' => e = .returned (.int .i64 (beginN (nr n) : Int)) ∧ Below w.heap.size w w') := fun w => begin_any n h w
  have hbr := begin_room _ hle
  obtain ⟨r, hr⟩ : ∃ r, roomI (nr n) = r := ⟨_, rfl⟩
  rw [hr]
  unfold roomI at hr
  generalize nr n = a at *
  generalize beginN a = b at *
  have H2 : Hid (∀ w, Calls Try.prog 17 #[.int .i64 (b : Int)] w fun e w' => e = .returned (.int .i64 (leftN b : Int)) ∧ Below w.heap.size w w') := fun w => by
    have := left_any b (by unfold I63; omega) w; rwa [nr_nat _ hbl] at this
  generalize leftN b = l at *
  clear h
  by_cases h8 : b = 832
  · subst h8
    rw [if_pos rfl] at hr
    subst hr
    go_enter Try.func12, Try.ntmps12
    go_wp2_with (first
      | (go_at_call 16; (with_reducible refine (H1.out _).mono ?_); rintro e w1 ⟨rfl, hb⟩; have HB1 := Lib.hid hb; clear hb))
    go_ret
    exact ⟨rfl, HB1.out⟩
  · rw [if_neg h8] at hr
    have hb8 : ¬ (b : Int) = 832 := by omega
    have hdv : ((832 : Int) - b - l).tdiv 208 = (((832 - b - l) / 208 : Nat) : Int) := by rw [Int.tdiv_eq_ediv_of_nonneg (by omega)]; omega
    obtain ⟨q, hq⟩ : ∃ q, (832 - b - l) / 208 = q := ⟨_, rfl⟩
    rw [hq] at hdv hr
    have hq4 : (q : Int) ≤ 4 := by omega
    have hl11 : (11 : Int) ≤ l := by omega
    have hsum : (b : Int) + l ≤ 832 := by omega
    have HR := Lib.hid hr
    clear hr hq hbr hll
    go_enter Try.func12, Try.ntmps12
    go_wp2_with (first
      | (go_at_call 16; (with_reducible refine (H1.out _).mono ?_); rintro e w1 ⟨rfl, hb⟩; have HB1 := Lib.hid hb; clear hb)
      | (go_at_call 17; (with_reducible refine (H2.out _).mono ?_); rintro e w2 ⟨rfl, hb⟩; have HB2 := Lib.hid (bch HB1.out hb); clear hb))
    go_ret
    exact ⟨ret_int (by rw [← HR.out]), HB2.out⟩
set_option maxRecDepth 8000 in
theorem fits_any (a n : Int) (ha : I63 a) (w : World) : Calls Try.prog 9 #[.int .i64 a, .int .i64 n] w fun e w' => e = .returned (.bool (fitI a n)) ∧ Below w.heap.size w w' := by
  have H1 : Hid (∀ w, Calls Try.prog 12 #[.int .i64 a] w fun e w' => e = .returned (.int .i64 (roomI (nr a))) ∧ Below w.heap.size w w') := fun w => room_any a ha w
  by_cases h0 : n < 0
  · rw [fitI_neg a n h0]
    clear ha
    go_enter Try.func9, Try.ntmps9
    go_wp2
    go_ret
    exact ⟨rfl, Below.refl _ _⟩
  · have h0' : 0 ≤ n := by omega
    have he : fitI a n = decide (n ≤ roomI (nr a)) := by unfold fitI; simp [h0']
    rw [he]
    generalize roomI (nr a) = r at *
    by_cases hc : n ≤ r
    · rw [decide_eq_true hc]
      clear ha he
      go_enter Try.func9, Try.ntmps9
      go_wp2_with (first
        | (go_at_call 12; (with_reducible refine (H1.out _).mono ?_); rintro e w1 ⟨rfl, hb⟩; have HB1 := Lib.hid hb; clear hb))
      go_ret
      exact ⟨by first | rfl | exact ret_bool (decide_eq_true hc), HB1.out⟩
    · rw [decide_eq_false hc]
      clear ha he
      go_enter Try.func9, Try.ntmps9
      go_wp2_with (first
        | (go_at_call 12; (with_reducible refine (H1.out _).mono ?_); rintro e w1 ⟨rfl, hb⟩; have HB1 := Lib.hid hb; clear hb))
      go_ret
      exact ⟨by first | rfl | exact ret_bool (decide_eq_false (by omega)), HB1.out⟩
end Go.Proofs.Ytepmiooemjjhdaa
