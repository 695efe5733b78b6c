/-
  TEXTS JOINED: SpanNear, SpanWhere, SpanTouch. Each one's own words stand at its head.
-/
import Derived.Test.YthickhfbllddjaaDoorBase
import Derived.Test.YthickhfbllddjaaDoorRegion
import Derived.Laws.StructEq
import Derived.Deep.WholeRow
/-
  LAYER 7 (span): the place that is meant; the reference's Near. No condition.
-/
namespace Go.Proofs.YthickhfbllddjaaDoor
open Go.RowKit
/-- the place that is meant -/
def nr (n : Int) : Nat := (min (max n 0) 832).toNat
theorem nr_le (n : Int) : nr n ≤ 832 := by unfold nr; omega
theorem nr_nat (k : Nat) (h : k ≤ 832) : nr k = k := by unfold nr; omega
theorem near_any (n : Int) (h : I63 n) (w : World) : Calls Tryd.prog 25 #[.int .i64 n] w fun e w' => e = .returned (.int .i64 (nr n : Int)) ∧ w' = w := by
  unfold I63 at h
  go_enter Tryd.func25, Tryd.ntmps25
  go_wp2
  all_goals
    go_ret
    exact ⟨ret_int (by unfold nr; omega), rfl⟩
end Go.Proofs.YthickhfbllddjaaDoor
/-
  WHAT THE PROGRAM'S OWN FUNCTIONS OF LAYER 7 (span) ANSWER: place, Where. A Spot is the value .agg of its two numbers. No condition.
-/
namespace Go.Proofs.YthickhfbllddjaaDoor
open Go.RowKit
theorem spot_info : (Tryd.prog.info? 71).map (·.size) = some 2 := by kernel_rfl
theorem nearer_any (n m : Int) (h : I63 n) (h2 : 0 ≤ m ∧ m ≤ 832) (w : World) : Calls Tryd.prog 57 #[.int .i64 n, .int .i64 m] w fun e w' => e = .returned (.int .i64 (min (max n 0) m)) ∧ w' = w := by
  unfold I63 at h
  go_enter Tryd.func57, Tryd.ntmps57
  go_wp2
  all_goals
    go_ret
    exact ⟨ret_int (by omega), rfl⟩
theorem place_any (n : Int) (h : I63 n) (w : World) : Calls Tryd.prog 41 #[.int .i64 n] w fun e w' => e = .returned (.int .i64 (nr n : Int)) ∧ w' = w := by
  have HN : Hid (∀ w, Calls Tryd.prog 57 #[.int .i64 n, .int .i64 832] w fun e w' => e = .returned (.int .i64 (nr n : Int)) ∧ w' = w) := fun w =>
    (nearer_any n 832 h (by omega) w).mono fun e w' ⟨he, hw⟩ => ⟨by rw [he]; unfold nr; congr 2; omega, hw⟩
  go_enter Tryd.func41, Tryd.ntmps41
  go_wp2_with (first
    | (go_at_call 57; (with_reducible refine (HN.out _).mono ?_); rintro e w' ⟨rfl, rfl⟩))
  go_ret
  exact ⟨rfl, rfl⟩
theorem where_any (n : Int) (h : I63 n) (w : World) : Calls Tryd.prog 23 #[.int .i64 n] w fun e w' => e = .returned (.agg #[.int .i64 ((nr n / 52 : Nat) : Int), .int .i64 ((nr n % 52 : Nat) : Int)]) ∧ Below w.heap.size w w' := by
  have hle := nr_le n
  have HP : Hid (∀ w, Calls Tryd.prog 41 #[.int .i64 n] w fun e w' => e = .returned (.int .i64 (nr n : Int)) ∧ w' = w) := fun w => place_any n h w
  generalize nr n = a at *
  have hq : (a : Int).tdiv 52 = ((a / 52 : Nat) : Int) := by rw [Int.tdiv_eq_ediv_of_nonneg (by omega)]; omega
  have hm : (a : Int).tmod 52 = ((a % 52 : Nat) : Int) := by rw [Int.tmod_eq_emod_of_nonneg (by omega)]; omega
  obtain ⟨q, hq2⟩ : ∃ q, a / 52 = q := ⟨_, rfl⟩
  obtain ⟨r, hr2⟩ : ∃ r, a % 52 = r := ⟨_, rfl⟩
  rw [hq2] at hq ⊢
  rw [hr2] at hm ⊢
  have hq3 : (q : Int) ≤ 16 := by omega
  have hr3 : (r : Int) ≤ 51 := by omega
  clear hq2 hr2
  go_enter Tryd.func23, Tryd.ntmps23
  go_wp2_with (first
    | (go_at_call 41; (with_reducible refine (HP.out _).mono ?_); rintro e w' ⟨rfl, rfl⟩))
  exact bodyPost_ret_by (v := .agg #[.int .i64 q, .int .i64 r]) (results_cell_row rfl _ _ w.heap.size _ #[.int .i64 q, .int .i64 r] (0, 0) _ rfl (heap_alloc_last w _) Tryd.underlying71 rfl spot_info) rfl ⟨rfl, (Below.refl _ _).alloc (Nat.le_refl _) _⟩
theorem wrap_id (x : Int) (h : -1000 ≤ x ∧ x ≤ 10000) : IntKind.i64.wrap x = x := by
  exact IntWalk.i64_in _ (by omega)
theorem bchain {a b c : World} (h : Below a.heap.size a b) (k : Below b.heap.size b c) : Below a.heap.size a c := h.trans (k.mono h.size)
end Go.Proofs.YthickhfbllddjaaDoor
/-
  LAYER 7 (span), Touch: which sectors places lie in: what the reference's and the program's answer. No condition.
-/
namespace Go.Proofs.YthickhfbllddjaaDoor
open Go.RowKit
/-- which sectors places lie in -/
def touchN (a b : Nat) : Nat × Nat := if a < b then (a / 52, (b - 1) / 52 + 1) else (0, 0)
set_option maxRecDepth 8000 in
set_option maxHeartbeats 800000 in
theorem rtouch_any (n m : Int) (h : I63 n) (h2 : I63 m) (w : World) : Calls Tryd.prog 42 #[.int .i64 n, .int .i64 m] w fun e w' => e = .returned (.tuple #[.int .i64 ((touchN (nr n) (nr m)).1 : Int), .int .i64 ((touchN (nr n) (nr m)).2 : Int)]) ∧ w' = w := by
  have hle := nr_le n
  have hle2 := nr_le m
  have HN : Hid (∀ w, Calls Tryd.prog 25 #[.int .i64 n] w fun e w' => e = .returned (.int .i64 (nr n : Int)) ∧ w' = w) := fun w => near_any n h w
  have HM : Hid (∀ w, Calls Tryd.prog 25 #[.int .i64 m] w fun e w' => e = .returned (.int .i64 (nr m : Int)) ∧ w' = w) := fun w => near_any m h2 w
  generalize nr n = a at *
  generalize nr m = b at *
  go_enter Tryd.func42, Tryd.ntmps42
  go_wp2_with (first
    | (go_at_call 25; (with_reducible refine (HN.out _).mono ?_); rintro e w' ⟨rfl, rfl⟩))
  go_loop [6, 7, 8] (fun fv lv iv => ∃ (i : Nat) (f l : Int), iv = .int .i64 i ∧ fv = .int .i64 f ∧ lv = .int .i64 l ∧ i ≤ 832 ∧ -1 ≤ f ∧ f ≤ 16 ∧ -1 ≤ l ∧ l ≤ 16 ∧ Hid ((i = a ∧ f = -1 ∧ l = -1) ∨ (a < i ∧ i ≤ b ∧ f = ((a / 52 : Nat) : Int) ∧ l = (((i - 1) / 52 : Nat) : Int)))) (fun _ _ iv => 832 - (intOf iv).toNat)
  case atStart => exact ⟨a, -1, -1, rfl, rfl, rfl, by omega, by omega, by omega, by omega, by omega, .inl ⟨rfl, rfl, rfl⟩⟩
  case round =>
    obtain ⟨i, f, l, rfl, rfl, rfl, hi, hf1, hf2, hl1, hl2, HR⟩ := hrel
    have hd : (i : Int).tdiv 52 = ((i / 52 : Nat) : Int) := by rw [Int.tdiv_eq_ediv_of_nonneg (by omega)]; omega
    obtain ⟨q, hq⟩ : ∃ q, i / 52 = q := ⟨_, rfl⟩
    rw [hq] at hd
    have hwq : wrap64 (q : Int) = (q : Int) := by unfold wrap64; omega
    have HQ := Lib.hid hq
    have HWQ := Lib.hid (congrArg (Value.int IntKind.i64) hwq)
    clear hq hwq
    by_cases hlt : (i : Int) < (b : Int)
    · by_cases hf : f < 0
      · go_wp2_with (first
          | (go_at_call 25; (with_reducible refine (HM.out _).mono ?_); rintro e w' ⟨rfl, rfl⟩))
        go_round
        case rel =>
          refine ⟨i + 1, q, q, by go_num, HWQ.out, HWQ.out, by omega, by omega, by have := HQ.out; omega, by omega, by have := HQ.out; omega, .inr ?_⟩
          have := HQ.out
          rcases HR.out with ⟨rfl, _, _⟩ | ⟨g1, g2, g3, g4⟩ <;> omega
        case measure => simp [intOf]; omega
      · go_wp2_with (first
          | (go_at_call 25; (with_reducible refine (HM.out _).mono ?_); rintro e w' ⟨rfl, rfl⟩))
        go_round
        case rel =>
          refine ⟨i + 1, f, q, by go_num, rfl, HWQ.out, by omega, by omega, by omega, by omega, by have := HQ.out; omega, .inr ?_⟩
          have := HQ.out
          rcases HR.out with ⟨rfl, _, _⟩ | ⟨g1, g2, g3, g4⟩ <;> omega
        case measure => simp [intOf]; omega
    · by_cases hf : f < 0
      · have HT := Lib.hid (show touchN a b = (0, 0) from if_neg (by rcases HR.out with ⟨rfl, _, _⟩ | ⟨g1, g2, g3, g4⟩ <;> omega))
        go_wp2_with (first
          | (go_at_call 25; (with_reducible refine (HM.out _).mono ?_); rintro e w' ⟨rfl, rfl⟩))
        go_ret2
        exact ⟨by rw [HT.out]; rfl, rfl⟩
      · have HT := Lib.hid (show ((touchN a b).1 : Int) = f ∧ ((touchN a b).2 : Int) = l + 1 from by
          rcases HR.out with ⟨rfl, g2, _⟩ | ⟨g1, g2, g3, g4⟩
          · omega
          · rw [show touchN a b = (a / 52, (b - 1) / 52 + 1) from if_pos (by omega)]
            exact ⟨by omega, by omega⟩)
        go_wp2_with (first
          | (go_at_call 25; (with_reducible refine (HM.out _).mono ?_); rintro e w' ⟨rfl, rfl⟩))
        go_ret2
        exact ⟨by rw [HT.out.1, HT.out.2]; rfl, rfl⟩
set_option maxRecDepth 8000 in
theorem touch_any (n m : Int) (h : I63 n) (h2 : I63 m) (w : World) : Calls Tryd.prog 73 #[.int .i64 n, .int .i64 m] w fun e w' => e = .returned (.tuple #[.int .i64 ((touchN (nr n) (nr m)).1 : Int), .int .i64 ((touchN (nr n) (nr m)).2 : Int)]) ∧ Below w.heap.size w w' := by
  have hln := nr_le n
  have hlm := nr_le m
  have HN : Hid (∀ w, Calls Tryd.prog 41 #[.int .i64 n] w fun e w' => e = .returned (.int .i64 (nr n : Int)) ∧ w' = w) := fun w => place_any n h w
  have HM : Hid (∀ w, Calls Tryd.prog 41 #[.int .i64 m] w fun e w' => e = .returned (.int .i64 (nr m : Int)) ∧ w' = w) := fun w => place_any m h2 w
  generalize nr n = a at *
  generalize nr m = b at *
  by_cases hlt : (a : Int) < (b : Int)
  · have ht : touchN a b = (a / 52, (b - 1) / 52 + 1) := by unfold touchN; rw [if_pos (by omega)]
    rw [ht]
    have H1 : Hid (∀ w, Calls Tryd.prog 23 #[.int .i64 (a : Int)] w fun e w' => e = .returned (.agg #[.int .i64 ((a / 52 : Nat) : Int), .int .i64 ((a % 52 : Nat) : Int)]) ∧ Below w.heap.size w w') := fun w => by
      have := where_any a (by unfold I63; omega) w; rwa [nr_nat _ hln] at this
    have H2 : Hid (∀ w, Calls Tryd.prog 23 #[.int .i64 ((b : Int) - 1)] w fun e w' => e = .returned (.agg #[.int .i64 (((b - 1) / 52 : Nat) : Int), .int .i64 (((b - 1) % 52 : Nat) : Int)]) ∧ Below w.heap.size w w') := fun w => by
      have := where_any ((b - 1 : Nat) : Int) (by unfold I63; omega) w; rwa [nr_nat _ (by omega), show ((b - 1 : Nat) : Int) = (b : Int) - 1 from by omega] at this
    have hq : (((b - 1) / 52 : Nat) : Int) ≤ 16 := by omega
    generalize (b - 1) / 52 = q at *
    generalize (b - 1) % 52 = r at *
    generalize a / 52 = q2 at *
    generalize a % 52 = r2 at *
    clear ht
    go_enter Tryd.func73, Tryd.ntmps73
    have hf1 : ∀ w, (Instr.field 71 (.agg #[.int .i64 q2, .int .i64 r2]) 0).run Tryd.prog w = .ok (.int .i64 q2) w := fun _ => by kernel_rfl
    have hf2 : ∀ w, (Instr.field 71 (.agg #[.int .i64 q, .int .i64 r]) 0).run Tryd.prog w = .ok (.int .i64 q) w := fun _ => by kernel_rfl
    go_wp2_with (first
      | (go_at_call 41; (with_reducible refine (HN.out _).mono ?_); rintro e w' ⟨rfl, rfl⟩)
      | (go_at_call 41; (with_reducible refine (HM.out _).mono ?_); rintro e w' ⟨rfl, rfl⟩)
      | (go_at_call 23; (with_reducible refine (H1.out _).mono ?_); rintro e w1 ⟨rfl, hb⟩; have HB1 := Lib.hid hb; clear hb)
      | (go_at_call 23; (with_reducible refine (H2.out _).mono ?_); rintro e w2 ⟨rfl, hb⟩; have HB2 := Lib.hid (bchain HB1.out hb); clear hb))
    go_ret2
    exact ⟨rfl, HB2.out⟩
  · have ht : touchN a b = (0, 0) := by unfold touchN; rw [if_neg (by omega)]
    rw [ht]
    clear ht
    go_enter Tryd.func73, Tryd.ntmps73
    go_wp2_with (first
      | (go_at_call 41; (with_reducible refine (HN.out _).mono ?_); rintro e w' ⟨rfl, rfl⟩)
      | (go_at_call 41; (with_reducible refine (HM.out _).mono ?_); rintro e w' ⟨rfl, rfl⟩))
    go_ret2
    exact ⟨rfl, Below.refl _ _⟩
end Go.Proofs.YthickhfbllddjaaDoor
