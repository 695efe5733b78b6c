/-
  WHAT word.Bit, the reference's Bit and Turn, and 'awake' answer. As XWord: for every input; bytes must lie where the slice says.
-/
import Derived.Test.YtcbgcdnkleinpaaWord
import Derived.WalkKit
import Derived.ProofKit
import Derived.OpenShut
import Derived.BigQuiet
import Derived.Deep.QuietTactic
import Derived.Lib.Hide
namespace Go.Proofs.Ytcbgcdnkleinpaa
open Go.RowKit
def bitB (zs : List Int) (k : Nat) : Bool := decide (zs.getD (k / 8) 0 / 2 ^ (k % 8) % 2 = 1)
theorem bit_mask (x : Int) (h : 0 ≤ x ∧ x ≤ 255) (s : Nat) : (bits .and .u8 (x / 2 ^ s) 1 == 1) = decide (x / 2 ^ s % 2 = 1) := by
  have h0 : 0 ≤ x / 2 ^ s := Int.ediv_nonneg h.1 (Int.le_of_lt (pow_pos' _))
  have h1 : x / 2 ^ s ≤ x := Int.ediv_le_self _ h.1
  rw [show bits .and .u8 (x / 2 ^ s) 1 = x / 2 ^ s % 2 from bits_mask .u8 8 (by decide) wraps_u8 1 (by decide) _ h0 (by omega)]
  rw [Bool.eq_iff_iff]; simp

set_option maxHeartbeats 400000 in
theorem bit_some (b off len cap : Nat) (zs : List Int) (k : Nat) (w : World) (hz : Bytes zs) (hi : (k : Int) ≤ 9223372036854775807) (hmax : len ≤ 9223372036854775807) (hk : k / 8 < len)
    (hc : ∀ j, j < len → w.cell? ⟨b, off + j, none⟩ = some (.int .u8 (zs.getD j 0))) :
    Calls Try.prog 19 #[.slice (some ⟨b, off, none⟩) len cap, .int .i64 k] w fun e w' => e = .returned (.bool (bitB zs k)) ∧ w = w' := by
  have h1 : (k : Int) / 8 < len := by omega
  have hcell : w.cell? ⟨b, off + k / 8, none⟩ = some (.int .u8 (zs.getD (k / 8) 0)) := hc _ hk
  have hb : 0 ≤ zs[k / 8]?.getD 0 ∧ zs[k / 8]?.getD 0 ≤ 255 := hz (k / 8)
  have HB := Lib.hid (bit_mask _ hb (k % 8))
  go_enter Try.func19, Try.ntmps19
  go_wp2
  go_ret
  exact ⟨ret_bool HB.out, rfl⟩
theorem bit_no (a : Option Addr) (len cap : Nat) (i : Int) (w : World) (hi : I63 i) (h : i < 0 ∨ (0 ≤ i ∧ (len : Int) ≤ i / 8)) :
    Calls Try.prog 19 #[.slice a len cap, .int .i64 i] w fun e w' => e = .returned (.bool false) ∧ w = w' := by
  unfold I63 at hi
  rcases h with h | ⟨h, h1⟩
  all_goals
    go_enter Try.func19, Try.ntmps19
    go_wp2
    go_ret
    exact ⟨rfl, rfl⟩
theorem rbit_no (a : Option Addr) (len cap : Nat) (i : Int) (w : World) (hi : I63 i) (h : i < 0 ∨ (0 ≤ i ∧ (len : Int) ≤ i / 8)) :
    Calls Try.prog 20 #[.slice a len cap, .int .i64 i] w fun e w' => e = .returned (.bool false) ∧ Drawn w w' := by
  unfold I63 at hi
  rcases h with h | ⟨h, h1⟩
  · have hd : decide (0 ≤ i) = false := by simpa using h
    go_enter Try.func20, Try.ntmps20
    go_wp2_with fail
    go_quiet (fail)
    go_wp2
    go_ret
    exact ⟨rfl, ⟨_, rfl⟩⟩
  · have hd : decide (i / 8 < (len : Int)) = false := by simpa using h1
    go_enter Try.func20, Try.ntmps20
    go_wp2_with fail
    go_quiet (fail)
    go_wp2
    go_ret
    exact ⟨rfl, ⟨_, rfl⟩⟩
set_option maxHeartbeats 400000 in
theorem rbit_some (b off len cap : Nat) (zs : List Int) (k : Nat) (w : World) (hz : Bytes zs) (hi : (k : Int) ≤ 9223372036854775807) (hmax : len ≤ 9223372036854775807) (hk : k / 8 < len)
    (hc : ∀ j, j < len → w.cell? ⟨b, off + j, none⟩ = some (.int .u8 (zs.getD j 0))) :
    Calls Try.prog 20 #[.slice (some ⟨b, off, none⟩) len cap, .int .i64 k] w fun e w' => e = .returned (.bool (bitB zs k)) ∧ Drawn w w' := by
  have h1 : (k : Int) / 8 < len := by omega
  have h3 : 0 ≤ (k : Int) / 8 := by omega
  have hcell : w.cell? ⟨b, off + k / 8, none⟩ = some (.int .u8 (zs.getD (k / 8) 0)) := hc _ hk
  have hb : 0 ≤ zs[k / 8]?.getD 0 ∧ zs[k / 8]?.getD 0 ≤ 255 := hz (k / 8)
  have ht := two_small (k % 8) (by omega)
  have ht1 := two_pos (k % 8) (by omega)
  have HT := Lib.hid ht; clear ht
  have hq0 : 0 ≤ zs[k / 8]?.getD 0 / two (k % 8) := Int.ediv_nonneg hb.1 (by omega)
  go_enter Try.func20, Try.ntmps20
  go_wp2_with fail
  have hu : IntKind.u64.wrap (zs[k / 8]?.getD 0) = zs[k / 8]?.getD 0 := IntWalk.u64_in _ (by omega)
  go_quiet ((go_at_call 22; exact quiet_eq (two_at _ (k % 8) (by omega) (by omega) _)))
  clear hu
  go_wp2
  go_ret
  refine ⟨ret_bool ?_, ⟨_, rfl⟩⟩
  rw [HT.out]
  unfold bitB
  rw [Bool.eq_iff_iff]; simp
set_option maxHeartbeats 400000 in
theorem rturn_any (n m : Int) (s : Nat) (h : 0 ≤ n ∧ n < 4294967296) (h2 : I63 m) (hs : (m % 32).toNat = s) (w : World) : Calls Try.prog 13 #[.int .u32 n, .int .i64 m] w fun e w' => e = .returned (.int .u32 (rotI n s)) ∧ w = w' := by
  unfold I63 at h2
  have hs32 : s < 32 := by omega
  go_enter Try.func13, Try.ntmps13
  go_wp2
  go_loop [5, 6] (fun t i => ∃ k : Nat, k ≤ 32 ∧ i = .int .i64 k ∧ t = .int .u32 (turnS n s k)) (fun _ i => 32 - (intOf i).toNat)
  case atStart => exact ⟨0, by omega, rfl, rfl⟩
  case round =>
    obtain ⟨k, hk, rfl, rfl⟩ := hrel
    by_cases hlt : k < 32
    · have ht1 := two_pos k (by omega)
      have hn0 : 0 ≤ n / two k := Int.ediv_nonneg h.1 (by omega)
      have hb0 := turnS_bd n s k hs32 (by omega)
      by_cases hbit : n / two k % 2 = 1
      · obtain ⟨r, hr, r0, r1, r2⟩ : ∃ r, m.tmod 32 = r ∧ -31 ≤ r ∧ r ≤ 31 ∧ (r - s) % 32 = 0 := by
          refine ⟨_, rfl, ?_⟩
          rcases (by omega : 0 ≤ m ∨ m < 0) with h0 | h0
          · rw [Int.tmod_eq_emod_of_nonneg h0]; omega
          · have e := Int.tmod_eq_emod_of_nonneg (a := -m) (b := 32) (by omega)
            rw [Int.neg_tmod] at e
            omega
        obtain ⟨q, hq, q0, q1, q2⟩ : ∃ q, ((k : Int) + r).tmod 32 = q ∧ -31 ≤ q ∧ q ≤ 31 ∧ q % 32 = (((k + s) % 32 : Nat) : Int) := by
          refine ⟨_, rfl, ?_⟩
          rcases (by omega : 0 ≤ (k : Int) + r ∨ (k : Int) + r < 0) with h0 | h0
          · rw [Int.tmod_eq_emod_of_nonneg h0]; omega
          · have e := Int.tmod_eq_emod_of_nonneg (a := -((k : Int) + r)) (b := 32) (by omega)
            rw [Int.neg_tmod] at e
            omega
        have Q2 := Lib.hid q2; clear q2 r2
        have ht2 := two_small ((k + s) % 32) (by omega)
        have hb1 := turnS_bd n s (k + 1) hs32 (by omega)
        have hst : turnS n s (k + 1) = turnS n s k + two ((k + s) % 32) := by rw [turnS, ← two_small k (by omega), hbit, Int.one_mul, ← ht2]
        rw [hst] at hb1
        have hs1 : 0 ≤ two ((k + s) % 32) ∧ turnS n s k + two ((k + s) % 32) ≤ 4294967295 := ⟨(two_bd _).1, by omega⟩
        have HS := Lib.hid hst; clear hst hb1 ht2
        go_wp2_with (go_at_call 22; first | ((with_reducible refine (two_at _ k rfl (by omega) _).mono ?_); rintro e w' ⟨rfl, rfl⟩) | ((with_reducible refine (two_at _ ((k + s) % 32) Q2.out (by omega) _).mono ?_); rintro e w' ⟨rfl, rfl⟩))
        go_round
        case rel => exact ⟨k + 1, by omega, by go_num, by rw [HS.out]⟩
        case measure => simp [intOf]; omega
      · have hst : turnS n s (k + 1) = turnS n s k := by
          rw [turnS, ← two_small k (by omega)]
          have : n / two k % 2 = 0 := by omega
          rw [this]; omega
        have HS := Lib.hid hst; clear hst
        go_wp2_with (go_at_call 22; (refine (two_at _ k rfl (by omega) _).mono ?_; rintro e w' ⟨rfl, rfl⟩))
        go_round
        case rel => exact ⟨k + 1, by omega, by go_num, by rw [HS.out]⟩
        case measure => simp [intOf]; omega
    · go_wp2
      go_ret
      have e : k = 32 := by omega
      subst e
      exact ⟨ret_int (turnS_all n s h hs32), rfl⟩

theorem put_258 (w : World) : Calls Try.prog 6 #[.int .u64 258, .int .i64 2] w fun e w' => e = .returned (.slice (some ⟨w.heap.size, 0, none⟩) 2 2) ∧
    w'.cell? ⟨w.heap.size, 0, none⟩ = some (.int .u8 2) ∧ w'.cell? ⟨w.heap.size, 1, none⟩ = some (.int .u8 1) ∧ Below w.heap.size w w' :=
  (put_any 258 2 2 (by unfold I63; omega) (by unfold clampI; omega) w).mono fun e w' ⟨he, ho, hb⟩ =>
    ⟨he, by rw [ho.cellAt 0 (by omega)]; rfl, by rw [ho.cellAt 1 (by omega)]; rfl, hb⟩
theorem zig_m1 (w : World) : Calls Try.prog 15 #[.int .i64 (-1)] w fun e w' => e = .returned (.int .u64 1) ∧ w = w' :=
  zig_any (-1) (by unfold I63; omega) w
theorem turn_m1 (w : World) : Calls Try.prog 12 #[.int .u32 1, .int .i64 (-1)] w fun e w' => e = .returned (.int .u32 2147483648) ∧ w = w' :=
  (turn_any 1 (-1) (by omega) w).mono fun _ _ ⟨he, hw⟩ => ⟨by rw [he]; rfl, hw⟩
set_option maxHeartbeats 400000 in
theorem awake_any (w : World) : Calls Try.prog 11 #[] w fun e w' => e = .returned (.bool true) ∧ Below w.heap.size w w' := by
  go_enter Try.func11, Try.ntmps11
  go_wp2_with (first
    | (go_at_call 6; (with_reducible refine (put_258 _).mono ?_); rintro e w' ⟨rfl, c0, c1, hb⟩; have HB := Lib.hid hb; clear hb)
    | (go_at_call 15; (with_reducible refine (zig_m1 _).mono ?_); rintro e w' ⟨rfl, rfl⟩)
    | (go_at_call 12; (with_reducible refine (turn_m1 _).mono ?_); rintro e w' ⟨rfl, rfl⟩))
  go_ret
  exact ⟨rfl, HB.out⟩
end Go.Proofs.Ytcbgcdnkleinpaa
