/-
  WHAT THE PROGRAM'S OWN FUNCTIONS OF LAYER 7 (span) ANSWER: place, Where. A Spot is the value .agg of its two numbers. No condition.
-/
import Derived.Test.YtedjebccclocnaaSpanNear
import Derived.Test.YtedjebccclocnaaRegion
import Derived.Laws.StructEq
import Derived.Deep.WholeRow
namespace Go.Proofs.Ytedjebccclocnaa
open Go.RowKit
theorem spot_info : (Try.prog.info? 53).map (·.size) = some 2 := by kernel_rfl
theorem nearer_any (n m : Int) (h : I63 n) (h2 : 0 ≤ m ∧ m ≤ 832) (w : World) : Calls Try.prog 34 #[.int .i64 n, .int .i64 m] w fun e w' => e = .returned (.int .i64 (min (max n 0) m)) ∧ w' = w := by
  unfold I63 at h
  go_enter Try.func34, Try.ntmps34
  go_wp2
  all_goals
    go_ret
    exact ⟨ret_int (by omega), rfl⟩
theorem place_any (n : Int) (h : I63 n) (w : World) : Calls Try.prog 28 #[.int .i64 n] w fun e w' => e = .returned (.int .i64 (nr n : Int)) ∧ w' = w := by
  have HN : Hid (∀ w, Calls Try.prog 34 #[.int .i64 n, .int .i64 832] w fun e w' => e = .returned (.int .i64 (nr n : Int)) ∧ w' = w) := fun w =>
    (nearer_any n 832 h (by omega) w).mono fun e w' ⟨he, hw⟩ => ⟨by rw [he]; unfold nr; congr 2; omega, hw⟩
  go_enter Try.func28, Try.ntmps28
  go_wp2_with (first
    | (go_at_call 34; (with_reducible refine (HN.out _).mono ?_); rintro e w' ⟨rfl, rfl⟩))
  go_ret
  exact ⟨rfl, rfl⟩
theorem where_any (n : Int) (h : I63 n) (w : World) : Calls Try.prog 29 #[.int .i64 n] w fun e w' => e = .returned (.agg #[.int .i64 ((nr n / 52 : Nat) : Int), .int .i64 ((nr n % 52 : Nat) : Int)]) ∧ Below w.heap.size w w' := by
  have hle := nr_le n
  have HP : Hid (∀ w, Calls Try.prog 28 #[.int .i64 n] w fun e w' => e = .returned (.int .i64 (nr n : Int)) ∧ w' = w) := fun w => place_any n h w
  generalize nr n = a at *
  have hq : (a : Int).tdiv 52 = ((a / 52 : Nat) : Int) := by rw [Int.tdiv_eq_ediv_of_nonneg (by omega)]; omega
  have hm : (a : Int).tmod 52 = ((a % 52 : Nat) : Int) := by rw [Int.tmod_eq_emod_of_nonneg (by omega)]; omega
  obtain ⟨q, hq2⟩ : ∃ q, a / 52 = q := ⟨_, rfl⟩
  obtain ⟨r, hr2⟩ : ∃ r, a % 52 = r := ⟨_, rfl⟩
  rw [hq2] at hq ⊢
  rw [hr2] at hm ⊢
  have hq3 : (q : Int) ≤ 16 := by omega
  have hr3 : (r : Int) ≤ 51 := by omega
  clear hq2 hr2
  go_enter Try.func29, Try.ntmps29
  go_wp2_with (first
    | (go_at_call 28; (with_reducible refine (HP.out _).mono ?_); rintro e w' ⟨rfl, rfl⟩))
  exact bodyPost_ret_by (v := .agg #[.int .i64 q, .int .i64 r]) (results_cell_row rfl _ _ w.heap.size _ #[.int .i64 q, .int .i64 r] (0, 0) _ rfl (heap_alloc_last w _) Try.underlying53 rfl spot_info) rfl ⟨rfl, (Below.refl _ _).alloc (Nat.le_refl _) _⟩
theorem wrap_id (x : Int) (h : -1000 ≤ x ∧ x ≤ 10000) : IntKind.i64.wrap x = x := by
  exact IntWalk.i64_in _ (by omega)
theorem bchain {a b c : World} (h : Below a.heap.size a b) (k : Below b.heap.size b c) : Below a.heap.size a c := h.trans (k.mono h.size)
end Go.Proofs.Ytedjebccclocnaa
