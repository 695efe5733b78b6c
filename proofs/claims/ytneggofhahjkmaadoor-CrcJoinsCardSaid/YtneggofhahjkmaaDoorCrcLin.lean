/-
  PLAIN MATHEMATICS of layer 3 (crc), its matrices: the lowest bit of a number, and a number without it; a linear map's image by that of its bits; the rows of a matrix; which number a lowest bit is, by multiplying. Nothing here speaks of the program. No condition.
-/
import Derived.Test.YtneggofhahjkmaaDoorCrcMath
namespace Go.Proofs.YtneggofhahjkmaaDoor
/-- what a number has above its lowest bit: n = 2^t (2q + 1) -/
theorem low_bit (n : Nat) (h : 0 < n) : ∃ t q, n = 2 ^ t * (2 * q + 1) := by
  induction n using Nat.strongRecOn with
  | ind n ih =>
    rcases Nat.mod_two_eq_zero_or_one n with he | ho
    · obtain ⟨t, q, e⟩ := ih (n / 2) (by omega) (by omega)
      refine ⟨t + 1, q, ?_⟩
      rw [Nat.pow_succ, Nat.mul_comm (2 ^ t) 2, Nat.mul_assoc, ← e]; omega
    · exact ⟨0, n / 2, by omega⟩
theorem low_and (t q : Nat) : (2 ^ t * (2 * q + 1)) &&& (2 ^ t * (2 * q + 1) - 1) = 2 ^ t * (2 * q) := by
  have hp : 0 < 2 ^ t := Nat.pow_pos (by omega)
  have e : 2 ^ t * (2 * q + 1) - 1 = 2 ^ t * (2 * q) + (2 ^ t - 1) := by rw [Nat.mul_add]; omega
  rw [e]
  refine Nat.eq_of_testBit_eq fun j => ?_
  rw [Nat.testBit_and, Nat.testBit_two_pow_mul_add _ (by omega), Nat.testBit_two_pow_mul, Nat.testBit_two_pow_mul]
  by_cases hj : j < t
  · simp [hj, Nat.not_le.2 hj]
  · have h1 : t ≤ j := by omega
    simp only [hj, h1, decide_true, Bool.true_and, if_false]
    cases hk : j - t with
    | zero => simp
    | succ m => 
      rw [show 2 * q + 1 = 2 ^ 1 * q + 1 from by omega, show 2 * q = 2 ^ 1 * q from by omega, Nat.testBit_two_pow_mul_add q (by omega), Nat.testBit_two_pow_mul]
      simp
theorem low_xor (t q : Nat) : 2 ^ t * (2 * q + 1) = 2 ^ t * (2 * q) ^^^ 2 ^ t := by
  have := up_xor (t + 1) q (2 ^ t) (Nat.pow_lt_pow_right (by omega) (by omega))
  rw [Nat.xor_comm, show 2 ^ t * (2 * q) = 2 ^ (t + 1) * q from by rw [Nat.pow_succ, Nat.mul_assoc], ← this, Nat.mul_add, Nat.pow_succ, Nat.mul_one, Nat.mul_assoc]
theorem low_neg (t q : Nat) (h : 2 ^ t * (2 * q + 1) < 4294967296) : (2 ^ t * (2 * q + 1)) &&& (4294967296 - 2 ^ t * (2 * q + 1)) = 2 ^ t := by
  have hp : 0 < 2 ^ t := Nat.pow_pos (by omega)
  generalize hn : 2 ^ t * (2 * q + 1) = n at *
  have h0 : 0 < n := by rw [← hn]; exact Nat.mul_pos hp (by omega)
  have hl := low_and t q
  have hx := low_xor t q
  rw [hn] at hl hx
  refine Nat.eq_of_testBit_eq fun j => ?_
  have h1 := Nat.testBit_two_pow_sub_succ (x := n - 1) (n := 32) (by omega) j
  rw [show (2 : Nat) ^ 32 - (n - 1 + 1) = 4294967296 - n from by omega] at h1
  have h2 : (n &&& (n - 1)).testBit j = (2 ^ t * (2 * q)).testBit j := by rw [hl]
  have h3 : n.testBit j = (2 ^ t * (2 * q) ^^^ 2 ^ t).testBit j := by rw [← hx]
  have h4 : 32 ≤ j → n.testBit j = false := fun hj => Nat.testBit_lt_two_pow (Nat.lt_of_lt_of_le (show n < 2 ^ 32 from h) (Nat.pow_le_pow_right (by omega) hj))
  rw [Nat.testBit_and] at h2 ⊢
  rw [h1]
  rw [Nat.testBit_xor, ← h2] at h3
  by_cases hj : j < 32
  · simp only [hj, decide_true, Bool.true_and]
    cases ha : n.testBit j <;> cases hb : (n - 1).testBit j <;> simp [ha, hb] at h3 ⊢ <;> exact h3
  · rw [h4 (by omega)] at h3 ⊢
    simp at h3 ⊢
    exact h3
theorem low_lt (t q : Nat) (h : 2 ^ t * (2 * q + 1) < 4294967296) : t < 32 := by
  refine Nat.lt_of_not_le fun h32 => ?_
  have h1 : (2 : Nat) ^ 32 ≤ 2 ^ t := Nat.pow_le_pow_right (by omega) h32
  have h2 : 2 ^ t * 1 ≤ 2 ^ t * (2 * q + 1) := Nat.mul_le_mul_left _ (by omega)
  omega
/-- the row of a number's lowest bit -/
def row (n k : Nat) : Nat := stn n (2 ^ k)
theorem row_lt (n k : Nat) (h : k < 32) : row n k < 4294967296 := stn_lt n _ (Nat.pow_lt_pow_right (by omega) h)
/-- all rows of the matrix of n steps -/
def rows (n : Nat) : List Int := (List.range 32).map fun k => ((row n k : Nat) : Int)
theorem rows_length (n : Nat) : (rows n).length = 32 := by simp [rows]
theorem rows_get (n k : Nat) (h : k < 32) : (rows n).getD k 0 = ((row n k : Nat) : Int) := by simp [rows, List.getD, h]
/-- the first k of one matrix, zeros behind them -/
def some_rows (n k : Nat) : List Int := (rows n).take k ++ List.replicate (32 - k) 0
theorem some_rows_zero (n : Nat) : some_rows n 0 = List.replicate 32 0 := by simp [some_rows]
theorem some_rows_all (n : Nat) : some_rows n 32 = rows n := by simp [some_rows, List.take_of_length_le, rows_length]
theorem some_rows_length (n k : Nat) (h : k ≤ 32) : (some_rows n k).length = 32 := by simp [some_rows, rows_length]; omega
theorem some_rows_set (n k : Nat) (h : k < 32) : (some_rows n k).set k ((row n k : Nat) : Int) = some_rows n (k + 1) := by
  unfold some_rows
  rw [List.set_append_right _ _ (by simp [rows_length]; omega), show k - ((rows n).take k).length = 0 from by simp [rows_length]; omega,
    show 32 - k = (32 - (k + 1)) + 1 from by omega, List.replicate_succ, List.set_cons_zero, List.take_succ_eq_append_getElem (by rw [rows_length]; omega), List.append_assoc]
  simp [rows]
/-- which number a bit is, by multiplying -/
def tz : List Int := [0, 1, 28, 2, 29, 14, 24, 3, 30, 22, 20, 15, 25, 17, 4, 8, 31, 27, 13, 23, 21, 19, 16, 7, 26, 12, 18, 6, 11, 5, 10, 9]
theorem tz_get : ∀ t : Nat, t < 32 → tz.getD (2 ^ t * 125613361 % 4294967296 / 134217728) 0 = (t : Int) := by decide +kernel
theorem tz_lt (p : Nat) : p * 125613361 % 4294967296 / 134217728 < 32 := by omega
/-- twice as many steps -/
theorem row_twice (n k : Nat) : stn n (row n k) = row (2 * n) k := by unfold row; rw [show 2 * n = n + n from by omega, stn_add]
theorem row_eight (k : Nat) : stn 8 (2 ^ k) = row 8 k := rfl
/-- one round of a product -/
theorem times_round (n r c t q x : Nat) (hc : c = 2 ^ t * (2 * q + 1)) (e : r ^^^ stn n c = stn n x) : (r ^^^ row n t) ^^^ stn n (c &&& (c - 1)) = stn n x := by
  rw [← e, hc, low_and]
  conv => rhs; rw [low_xor t q, stn_xor]
  unfold row
  rw [Nat.xor_assoc, Nat.xor_comm (stn n (2 ^ t))]
theorem and_pred_lt (c : Nat) (h : c ≠ 0) : c &&& (c - 1) < c := Nat.lt_of_le_of_lt Nat.and_le_right (by omega)
end Go.Proofs.YtneggofhahjkmaaDoor
