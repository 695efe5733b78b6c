/-
  LAYER 7 (span), Touch: which sectors places lie in: what the reference's and the program's answer. No condition.
-/
import Derived.Test.YtedjebccclocnaaSpanWhere
namespace Go.Proofs.Ytedjebccclocnaa
open Go.RowKit
/-- which sectors places lie in -/
def touchN (a b : Nat) : Nat × Nat := if a < b then (a / 52, (b - 1) / 52 + 1) else (0, 0)
set_option maxRecDepth 8000 in
set_option maxHeartbeats 800000 in
theorem rtouch_any (n m : Int) (h : I63 n) (h2 : I63 m) (w : World) : Calls Try.prog 16 #[.int .i64 n, .int .i64 m] w fun e w' => e = .returned (.tuple #[.int .i64 ((touchN (nr n) (nr m)).1 : Int), .int .i64 ((touchN (nr n) (nr m)).2 : Int)]) ∧ w' = w := by
  have hle := nr_le n
  have hle2 := nr_le m
  have HN : Hid (∀ w, Calls Try.prog 24 #[.int .i64 n] w fun e w' => e = .returned (.int .i64 (nr n : Int)) ∧ w' = w) := fun w => near_any n h w
  have HM : Hid (∀ w, Calls Try.prog 24 #[.int .i64 m] w fun e w' => e = .returned (.int .i64 (nr m : Int)) ∧ w' = w) := fun w => near_any m h2 w
  generalize nr n = a at *
  generalize nr m = b at *
  go_enter Try.func16, Try.ntmps16
  go_wp2_with (first
    | (go_at_call 24; (with_reducible refine (HN.out _).mono ?_); rintro e w' ⟨rfl, rfl⟩))
  go_loop [6, 7, 8] (fun fv lv iv => ∃ (i : Nat) (f l : Int), iv = .int .i64 i ∧ fv = .int .i64 f ∧ lv = .int .i64 l ∧ i ≤ 832 ∧ -1 ≤ f ∧ f ≤ 16 ∧ -1 ≤ l ∧ l ≤ 16 ∧ Hid ((i = a ∧ f = -1 ∧ l = -1) ∨ (a < i ∧ i ≤ b ∧ f = ((a / 52 : Nat) : Int) ∧ l = (((i - 1) / 52 : Nat) : Int)))) (fun _ _ iv => 832 - (intOf iv).toNat)
  case atStart => exact ⟨a, -1, -1, rfl, rfl, rfl, by omega, by omega, by omega, by omega, by omega, .inl ⟨rfl, rfl, rfl⟩⟩
  case round =>
    obtain ⟨i, f, l, rfl, rfl, rfl, hi, hf1, hf2, hl1, hl2, HR⟩ := hrel
    have hd : (i : Int).tdiv 52 = ((i / 52 : Nat) : Int) := by rw [Int.tdiv_eq_ediv_of_nonneg (by omega)]; omega
    obtain ⟨q, hq⟩ : ∃ q, i / 52 = q := ⟨_, rfl⟩
    rw [hq] at hd
    have hwq : wrap64 (q : Int) = (q : Int) := by unfold wrap64; omega
    have HQ := Lib.hid hq
    have HWQ := Lib.hid (congrArg (Value.int IntKind.i64) hwq)
    clear hq hwq
    by_cases hlt : (i : Int) < (b : Int)
    · by_cases hf : f < 0
      · go_wp2_with (first
          | (go_at_call 24; (with_reducible refine (HM.out _).mono ?_); rintro e w' ⟨rfl, rfl⟩))
        go_round
        case rel =>
          refine ⟨i + 1, q, q, by go_num, HWQ.out, HWQ.out, by omega, by omega, by have := HQ.out; omega, by omega, by have := HQ.out; omega, .inr ?_⟩
          have := HQ.out
          rcases HR.out with ⟨rfl, _, _⟩ | ⟨g1, g2, g3, g4⟩ <;> omega
        case measure => simp [intOf]; omega
      · go_wp2_with (first
          | (go_at_call 24; (with_reducible refine (HM.out _).mono ?_); rintro e w' ⟨rfl, rfl⟩))
        go_round
        case rel =>
          refine ⟨i + 1, f, q, by go_num, rfl, HWQ.out, by omega, by omega, by omega, by omega, by have := HQ.out; omega, .inr ?_⟩
          have := HQ.out
          rcases HR.out with ⟨rfl, _, _⟩ | ⟨g1, g2, g3, g4⟩ <;> omega
        case measure => simp [intOf]; omega
    · by_cases hf : f < 0
      · have HT := Lib.hid (show touchN a b = (0, 0) from if_neg (by rcases HR.out with ⟨rfl, _, _⟩ | ⟨g1, g2, g3, g4⟩ <;> omega))
        go_wp2_with (first
          | (go_at_call 24; (with_reducible refine (HM.out _).mono ?_); rintro e w' ⟨rfl, rfl⟩))
        go_ret2
        exact ⟨by rw [HT.out]; rfl, rfl⟩
      · have HT := Lib.hid (show ((touchN a b).1 : Int) = f ∧ ((touchN a b).2 : Int) = l + 1 from by
          rcases HR.out with ⟨rfl, g2, _⟩ | ⟨g1, g2, g3, g4⟩
          · omega
          · rw [show touchN a b = (a / 52, (b - 1) / 52 + 1) from if_pos (by omega)]
            exact ⟨by omega, by omega⟩)
        go_wp2_with (first
          | (go_at_call 24; (with_reducible refine (HM.out _).mono ?_); rintro e w' ⟨rfl, rfl⟩))
        go_ret2
        exact ⟨by rw [HT.out.1, HT.out.2]; rfl, rfl⟩
set_option maxRecDepth 8000 in
theorem touch_any (n m : Int) (h : I63 n) (h2 : I63 m) (w : World) : Calls Try.prog 20 #[.int .i64 n, .int .i64 m] w fun e w' => e = .returned (.tuple #[.int .i64 ((touchN (nr n) (nr m)).1 : Int), .int .i64 ((touchN (nr n) (nr m)).2 : Int)]) ∧ Below w.heap.size w w' := by
  have hln := nr_le n
  have hlm := nr_le m
  have HN : Hid (∀ w, Calls Try.prog 28 #[.int .i64 n] w fun e w' => e = .returned (.int .i64 (nr n : Int)) ∧ w' = w) := fun w => place_any n h w
  have HM : Hid (∀ w, Calls Try.prog 28 #[.int .i64 m] w fun e w' => e = .returned (.int .i64 (nr m : Int)) ∧ w' = w) := fun w => place_any m h2 w
  generalize nr n = a at *
  generalize nr m = b at *
  by_cases hlt : (a : Int) < (b : Int)
  · have ht : touchN a b = (a / 52, (b - 1) / 52 + 1) := by unfold touchN; rw [if_pos (by omega)]
    rw [ht]
    have H1 : Hid (∀ w, Calls Try.prog 29 #[.int .i64 (a : Int)] w fun e w' => e = .returned (.agg #[.int .i64 ((a / 52 : Nat) : Int), .int .i64 ((a % 52 : Nat) : Int)]) ∧ Below w.heap.size w w') := fun w => by
      have := where_any a (by unfold I63; omega) w; rwa [nr_nat _ hln] at this
    have H2 : Hid (∀ w, Calls Try.prog 29 #[.int .i64 ((b : Int) - 1)] w fun e w' => e = .returned (.agg #[.int .i64 (((b - 1) / 52 : Nat) : Int), .int .i64 (((b - 1) % 52 : Nat) : Int)]) ∧ Below w.heap.size w w') := fun w => by
      have := where_any ((b - 1 : Nat) : Int) (by unfold I63; omega) w; rwa [nr_nat _ (by omega), show ((b - 1 : Nat) : Int) = (b : Int) - 1 from by omega] at this
    have hq : (((b - 1) / 52 : Nat) : Int) ≤ 16 := by omega
    generalize (b - 1) / 52 = q at *
    generalize (b - 1) % 52 = r at *
    generalize a / 52 = q2 at *
    generalize a % 52 = r2 at *
    clear ht
    go_enter Try.func20, Try.ntmps20
    have hf1 : ∀ w, (Instr.field 53 (.agg #[.int .i64 q2, .int .i64 r2]) 0).run Try.prog w = .ok (.int .i64 q2) w := fun _ => by kernel_rfl
    have hf2 : ∀ w, (Instr.field 53 (.agg #[.int .i64 q, .int .i64 r]) 0).run Try.prog w = .ok (.int .i64 q) w := fun _ => by kernel_rfl
    go_wp2_with (first
      | (go_at_call 28; (with_reducible refine (HN.out _).mono ?_); rintro e w' ⟨rfl, rfl⟩)
      | (go_at_call 28; (with_reducible refine (HM.out _).mono ?_); rintro e w' ⟨rfl, rfl⟩)
      | (go_at_call 29; (with_reducible refine (H1.out _).mono ?_); rintro e w1 ⟨rfl, hb⟩; have HB1 := Lib.hid hb; clear hb)
      | (go_at_call 29; (with_reducible refine (H2.out _).mono ?_); rintro e w2 ⟨rfl, hb⟩; have HB2 := Lib.hid (bchain HB1.out hb); clear hb))
    go_ret2
    exact ⟨rfl, HB2.out⟩
  · have ht : touchN a b = (0, 0) := by unfold touchN; rw [if_neg (by omega)]
    rw [ht]
    clear ht
    go_enter Try.func20, Try.ntmps20
    go_wp2_with (first
      | (go_at_call 28; (with_reducible refine (HN.out _).mono ?_); rintro e w' ⟨rfl, rfl⟩)
      | (go_at_call 28; (with_reducible refine (HM.out _).mono ?_); rintro e w' ⟨rfl, rfl⟩))
    go_ret2
    exact ⟨rfl, Below.refl _ _⟩
end Go.Proofs.Ytedjebccclocnaa
