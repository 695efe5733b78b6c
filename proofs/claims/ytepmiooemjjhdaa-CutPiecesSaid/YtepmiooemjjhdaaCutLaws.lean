/-
  awake OF LAYER 14, AND THE WALK OF CutRooms: whatever place comes in: the call returns true and changes nothing that was there.
-/
import Derived.Test.YtepmiooemjjhdaaCutFrags
import Derived.Test.YtepmiooemjjhdaaCutRef
import Derived.Test.YtepmiooemjjhdaaCutSame
namespace Go.Proofs.Ytepmiooemjjhdaa
open Go.RowKit
theorem run_awake : Run 0 200 0 ∧ Run 0 200 1 ∧ Run 0 200 2 := by
  have h0 : Run 0 200 0 := Run.zero (by omega)
  have h1 : Run 0 200 1 := h0.next (.inl rfl) (by decide)
  exact ⟨h0, h1, h1.next (.inr (by decide)) (by decide)⟩
theorem cuts_awake : Cuts (nr 0) 200 2 := by
  obtain ⟨h0, h1, h2⟩ := run_awake
  refine ⟨by omega, by decide, fun j h3 h4 => ?_, fun j h3 => ?_⟩
  · obtain rfl : j = 1 := by omega
    decide
  · rcases (by omega : j = 0 ∨ j = 1 ∨ j = 2) with rfl | rfl | rfl
    · exact h0
    · exact h1
    · exact h2
theorem cut_awake (w : World) : Calls Try.prog 6 #[.int .i64 0, .int .i64 200] w fun e w' => ∃ a c, e = .returned (.tuple #[.slice a 2 c, .int .i64 222, .bool true]) ∧ Below w.heap.size w w' := by
  have hf : Fit (nr 0) 200 := by unfold Fit; decide
  refine (cut_yes 0 200 2 (by unfold I63; omega) (by omega) cuts_awake hf w).mono fun e w' ⟨v, he, ho, hb⟩ => ?_
  obtain ⟨a, c, rfl⟩ := own_form ho
  exact ⟨a, c, he, hb⟩
set_option maxRecDepth 8000 in
theorem awake_any (w : World) : Calls Try.prog 11 #[] w fun e w' => e = .returned (.bool true) ∧ Below w.heap.size w w' := by
  have H2 : Hid (∀ w, Calls Try.prog 12 #[.int .i64 0] w fun e w' => e = .returned (.int .i64 788) ∧ Below w.heap.size w w') := fun w => room_any 0 (by unfold I63; omega) w
  go_enter Try.func11, Try.ntmps11
  go_wp2_with (first
    | (go_at_call 6; (with_reducible refine (cut_awake _).mono ?_); rintro e w1 ⟨a1, c1, rfl, hb⟩; have HB1 := Lib.hid hb; clear hb)
    | (go_at_call 12; (with_reducible refine (H2.out _).mono ?_); rintro e w2 ⟨rfl, hb⟩; have HB2 := Lib.hid (bch HB1.out hb); clear hb))
  go_ret
  exact ⟨rfl, HB2.out⟩
set_option maxRecDepth 8000 in
set_option maxHeartbeats 800000 in
theorem rooms_walk (x : Int) (h : I63 x) (W : World) : Calls Try.prog 4 #[.int .i64 x] W fun e w' => e = .returned (.bool true) ∧ Below W.heap.size W w' := by
  have hr1 := room_ge _ (nr_le x)
  have hr2 := room_le _ (nr_le x)
  have H1 : Hid (∀ w, Calls Try.prog 12 #[.int .i64 x] w fun e w' => e = .returned (.int .i64 (roomI (nr x))) ∧ Below w.heap.size w w') := fun w => room_any x h w
  have H2 : Hid (∀ w, Calls Try.prog 7 #[.int .i64 x, .int .i64 (roomI (nr x) + 1)] w fun e w' => ∃ v t, e = .returned (.tuple #[v, .int .i64 t, .bool false]) ∧ Below w.heap.size w w') := fun w => by
    have := rcut_any x (roomI (nr x) + 1) h (by unfold I63; omega) w
    rw [show fitI x (roomI (nr x) + 1) = false from decide_eq_false (by omega)] at this
    exact this.mono fun e w' ⟨v, he, _, hb⟩ => ⟨v, _, he, hb⟩
  have H3 : Hid (∀ w, Calls Try.prog 7 #[.int .i64 x, .int .i64 (roomI (nr x))] w fun e w' => ∃ v t, e = .returned (.tuple #[v, .int .i64 t, .bool (decide (0 ≤ roomI (nr x)))]) ∧ Below w.heap.size w w') := fun w => by
    have := rcut_any x (roomI (nr x)) h (by unfold I63; omega) w
    rw [show fitI x (roomI (nr x)) = decide (0 ≤ roomI (nr x)) from by unfold fitI; simp] at this
    exact this.mono fun e w' ⟨v, he, _, hb⟩ => ⟨v, _, he, hb⟩
  generalize roomI (nr x) = r at *
  clear h
  have hge : -1 ≤ r := hr1
  rcases (by omega : 0 ≤ r ∨ r = -1) with h0 | h0
  · rw [decide_eq_true h0] at H3
    go_enter Try.func4, Try.ntmps4
    go_wp2_with (first
      | (go_at_call 12; (with_reducible refine (H1.out _).mono ?_); rintro e w1 ⟨rfl, hb⟩; have HB1 := Lib.hid hb; clear hb)
      | (go_at_call 7; (with_reducible refine (H2.out _).mono ?_); rintro e w2 ⟨v2, t2, rfl, hb⟩; have HB2 := Lib.hid (bch HB1.out hb); clear hb)
      | (go_at_call 7; (with_reducible refine (H3.out _).mono ?_); rintro e w3 ⟨v3, t3, rfl, hb⟩; have HB3 := Lib.hid (bch HB2.out hb); clear hb)
      | (go_at_call 11; (with_reducible refine (awake_any _).mono ?_); rintro e w4 ⟨rfl, hb⟩; have HB4 := Lib.hid (bch HB3.out hb); clear hb))
    go_ret
    exact ⟨rfl, HB4.out⟩
  · subst h0
    rw [show (-1 : Int) + 1 = 0 from rfl] at H2
    rw [decide_eq_false (by decide)] at H3
    go_enter Try.func4, Try.ntmps4
    go_wp2_with (first
      | (go_at_call 12; (with_reducible refine (H1.out _).mono ?_); rintro e w1 ⟨rfl, hb⟩; have HB1 := Lib.hid hb; clear hb)
      | (go_at_call 7; (with_reducible refine (H2.out _).mono ?_); rintro e w2 ⟨v2, t2, rfl, hb⟩; have HB2 := Lib.hid (bch HB1.out hb); clear hb)
      | (go_at_call 7; (with_reducible refine (H3.out _).mono ?_); rintro e w3 ⟨v3, t3, rfl, hb⟩; have HB3 := Lib.hid (bch HB2.out hb); clear hb)
      | (go_at_call 11; (with_reducible refine (awake_any _).mono ?_); rintro e w4 ⟨rfl, hb⟩; have HB4 := Lib.hid (bch HB3.out hb); clear hb))
    go_ret
    exact ⟨rfl, HB4.out⟩
end Go.Proofs.Ytepmiooemjjhdaa
