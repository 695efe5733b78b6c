/-
  LAYER 1 (word), what later layers take of it: what the reference's Two answers.
-/
import Derived.Test.YtncnmmillhnhlaaDoorPutMath
import Derived.Test.YtncnmmillhnhlaaDoorDrawn
namespace Go.Proofs.YtncnmmillhnhlaaDoor
open Go.RowKit
set_option maxHeartbeats 400000 in
theorem two_any (n : Int) (h : I63 n) (w : World) : Calls Tryd.prog 31 #[.int .i64 n] w fun e w' => e = .returned (.int .u64 (two n.toNat)) ∧ w = w' := by
  unfold I63 at h
  go_enter Tryd.func31, Tryd.ntmps31
  go_wp2
  go_loop [3, 4] (fun t i => ∃ k : Nat, (k : Int) ≤ max n 0 ∧ i = .int .i64 k ∧ t = .int .u64 (two k)) (fun _ i => n.toNat - (intOf i).toNat)
  case atStart => exact ⟨0, by omega, rfl, rfl⟩
  case round =>
    obtain ⟨k, hk, rfl, rfl⟩ := hrel
    by_cases hlt : (k : Int) < n
    · go_wp2
      go_round
      case rel => exact ⟨k + 1, by omega, by go_num, by rw [two_succ]⟩
      case measure => simp [intOf]; omega
    · go_wp2
      go_ret
      exact ⟨ret_int (by congr 1; omega), rfl⟩
theorem two_at (n : Int) (k : Nat) (hn : n = k) (h : k < 9223372036854775808) (w : World) : Calls Tryd.prog 31 #[.int .i64 n] w fun e w' => e = .returned (.int .u64 (two k)) ∧ w = w' :=
  (two_any n (by unfold I63; omega) w).mono fun _ _ ⟨he, hw⟩ => ⟨by rw [he, hn, Int.toNat_natCast], hw⟩

end Go.Proofs.YtncnmmillhnhlaaDoor
