/-
  LAYER 7 (span): the place that is meant; the reference's Near. No condition.
-/
import Derived.Test.YtedjebccclocnaaBase
namespace Go.Proofs.Ytedjebccclocnaa
open Go.RowKit
/-- the place that is meant -/
def nr (n : Int) : Nat := (min (max n 0) 832).toNat
theorem nr_le (n : Int) : nr n ≤ 832 := by unfold nr; omega
theorem nr_nat (k : Nat) (h : k ≤ 832) : nr k = k := by unfold nr; omega
theorem near_any (n : Int) (h : I63 n) (w : World) : Calls Try.prog 24 #[.int .i64 n] w fun e w' => e = .returned (.int .i64 (nr n : Int)) ∧ w' = w := by
  unfold I63 at h
  go_enter Try.func24, Try.ntmps24
  go_wp2
  all_goals
    go_ret
    exact ⟨ret_int (by unfold nr; omega), rfl⟩
end Go.Proofs.Ytedjebccclocnaa
