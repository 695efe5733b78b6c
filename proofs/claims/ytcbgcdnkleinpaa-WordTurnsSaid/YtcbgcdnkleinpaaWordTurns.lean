/-
  THE WALK OF THE LAW WordTurns: whatever number, places and bits come in: the call returns true and changes nothing that was there. No condition.
-/
import Derived.Test.YtcbgcdnkleinpaaWordB
import Derived.WalkKit
import Derived.ProofKit
import Derived.OpenShut
import Derived.Lib.Hide
namespace Go.Proofs.Ytcbgcdnkleinpaa
open Go.RowKit
theorem turn_at (n m : Int) (s : Nat) (v : Int) (h : 0 ≤ n ∧ n < 4294967296) (hs : (m % 32).toNat = s) (hv : rotI n s = v) (w : World) : Calls Try.prog 12 #[.int .u32 n, .int .i64 m] w fun e w' => e = .returned (.int .u32 v) ∧ w = w' :=
  (turn_any n m h w).mono fun _ _ ⟨he, hw⟩ => ⟨by rw [he, hs, hv], hw⟩
theorem rturn_at (n m : Int) (s : Nat) (v : Int) (h : 0 ≤ n ∧ n < 4294967296) (h2 : I63 m) (hs : (m % 32).toNat = s) (hv : rotI n s = v) (w : World) : Calls Try.prog 13 #[.int .u32 n, .int .i64 m] w fun e w' => e = .returned (.int .u32 v) ∧ w = w' :=
  (rturn_any n m s h h2 hs w).mono fun _ _ ⟨he, hw⟩ => ⟨by rw [he, hv], hw⟩
set_option maxHeartbeats 400000 in
theorem turns_walk (x k n : Int) (hx : 0 ≤ x ∧ x < 4294967296) (hk : I63 k) (hn : U64 n) (w : World) :
    Calls Try.prog 4 #[.int .u32 x, .int .i64 k, .int .u64 n] w fun e w' => e = .returned (.bool true) ∧ Below w.heap.size w w' := by
  obtain ⟨s, hs⟩ : ∃ s : Nat, (k % 32).toNat = s := ⟨_, rfl⟩
  obtain ⟨y, hy⟩ : ∃ y, rotI x s = y := ⟨_, rfl⟩
  obtain ⟨l, hl⟩ : ∃ l, lowI n k = l := ⟨_, rfl⟩
  have hs32 : s < 32 := by omega
  have hyb : 0 ≤ y ∧ y < 4294967296 := by rw [← hy]; exact rotI_bd x s hx hs32
  obtain ⟨r, hr, r0, r1, r2⟩ : ∃ r, k.tmod 32 = r ∧ -31 ≤ r ∧ r ≤ 31 ∧ (r - s) % 32 = 0 := by
    refine ⟨_, rfl, ?_⟩
    rcases (by omega : 0 ≤ k ∨ k < 0) with h0 | h0
    · rw [Int.tmod_eq_emod_of_nonneg h0]; omega
    · have e := Int.tmod_eq_emod_of_nonneg (a := -k) (b := 32) (by omega)
      rw [Int.neg_tmod] at e
      omega
  obtain ⟨t, ht, ht2⟩ : ∃ t : Nat, ((-r) % 32).toNat = t ∧ t = (32 - s) % 32 := ⟨_, rfl, by omega⟩
  have hback : rotI y t = x := by
    rw [← hy, ht2]
    rcases (by omega : s = 0 ∨ 0 < s) with h0 | h0
    · rw [h0, rot_zero x hx, show (32 - 0) % 32 = 0 from rfl, rot_zero x hx]
    · rw [Nat.mod_eq_of_lt (by omega), rot_back x s hx h0 hs32]
  have HK := Lib.hid hk
  unfold I63 at hk
  have HS := Lib.hid hs; clear hs
  have HY := Lib.hid hy; clear hy
  have HL := Lib.hid hl; clear hl
  have HT := Lib.hid ht; clear ht ht2 r2
  have HB := Lib.hid hback; clear hback
  go_enter Try.func4, Try.ntmps4
  go_wp2_with (first
    | (go_at_call 12; (with_reducible refine (turn_at x k s y hx HS.out HY.out _).mono ?_); rintro e w' ⟨rfl, rfl⟩)
    | (go_at_call 12; (with_reducible refine (turn_at y (-r) t x hyb HT.out HB.out _).mono ?_); rintro e w' ⟨rfl, rfl⟩)
    | (go_at_call 13; (with_reducible refine (rturn_at x k s y hx HK.out HS.out HY.out _).mono ?_); rintro e w' ⟨rfl, rfl⟩)
    | (go_at_call 10; (with_reducible refine (low_any n k hn HK.out _).mono ?_); rintro e w' ⟨rfl, rfl⟩)
    | (go_at_call 14; (with_reducible refine (rlow_any n k hn HK.out _).mono ?_); rintro e w' ⟨rfl, rfl⟩)
    | (go_at_call 11; (with_reducible refine (awake_any _).mono ?_); rintro e w' ⟨rfl, hb⟩; have HB1 := Lib.hid hb; clear hb))
  go_ret
  exact ⟨rfl, HB1.out⟩
end Go.Proofs.Ytcbgcdnkleinpaa
