/-
  PLAIN MATHEMATICS OF NUMBERS AS BYTES (of stage 1's XMath what XBase lacks). No condition.
-/
import Derived.Test.YthickhfbllddjaaDoorBase
namespace Go.Proofs.YthickhfbllddjaaDoor
/-- zigzag -/
def zigI (n : Int) : Int := if n < 0 then -2 * n - 1 else 2 * n
def zagI (u : Int) : Int := if u % 2 = 1 then -(u / 2) - 1 else u / 2
theorem zag_zig (n : Int) : zagI (zigI n) = n := by unfold zagI zigI; split <;> split <;> omega
theorem zig_zag (u : Int) (h : 0 ≤ u) : zigI (zagI u) = u := by unfold zagI zigI; split <;> split <;> omega
theorem zig_U64 (n : Int) (h : I63 n) : U64 (zigI n) := by unfold I63 at h; unfold U64 zigI; split <;> omega
theorem zag_I63 (u : Int) (h : U64 u) : I63 (zagI u) := by unfold U64 at h; unfold I63 zagI; split <;> omega

/-- 2^k as a uint64 -/
def two (k : Nat) : Int := 2 ^ k % 18446744073709551616
theorem two_succ (k : Nat) : IntKind.u64.wrap (two k * 2) = two (k + 1) := by
  rw [Go.IntKind.wrap_u64]; unfold two; rw [Int.pow_succ]; omega
theorem two_zero : two 0 = 1 := by decide
theorem two_small (k : Nat) (h : k < 64) : two k = 2 ^ k := by
  unfold two
  have h1 := pow_split k 63 (by omega)
  have h2 := pow_pos' (63 - k)
  have h3 := pow_pos' k
  refine Int.emod_eq_of_lt (by omega) ?_
  have : (2 : Int) ^ k * 1 ≤ 2 ^ k * 2 ^ (63 - k) := Int.mul_le_mul_of_nonneg_left (by omega) (by omega)
  have e : (2 : Int) ^ 63 = 9223372036854775808 := by decide
  omega
theorem two_pos (k : Nat) (h : k < 64) : 1 ≤ two k := by rw [two_small k h]; have := pow_pos' k; omega
theorem two_bd (k : Nat) : 0 ≤ two k ∧ two k ≤ 18446744073709551615 := by unfold two; omega
theorem two_big (k : Nat) (h : 64 ≤ k) : two k = 0 := by
  unfold two
  rw [pow_split 64 k h]
  have e : (2 : Int) ^ 64 = 18446744073709551616 := by decide
  rw [e]; exact Int.mul_emod_right _ _

/-- the nearer one of 0 and m -/
def clampI (n m : Int) : Int := min (max n 0) m

/-- the lowest k bytes of n -/
def putL (n : Int) (k : Nat) : List Int := (List.range k).map fun i => n / 2 ^ (8 * i) % 256
theorem putL_length (n : Int) (k : Nat) : (putL n k).length = k := by simp [putL]
theorem putL_succ (n : Int) (k : Nat) : putL n (k + 1) = putL n k ++ [n / 2 ^ (8 * k) % 256] := by simp [putL, List.range_succ]
theorem putL_get (n : Int) (k j : Nat) (h : j < k) : (putL n k).getD j 0 = n / 2 ^ (8 * j) % 256 := by simp [putL, List.getD, h]
/-- the first j of them, zeros behind -/
def putP (n : Int) (j k : Nat) : List Int := (List.range k).map fun i => if i < j then n / 2 ^ (8 * i) % 256 else 0
theorem putP_zero (n : Int) (k : Nat) : putP n 0 k = List.replicate k 0 := by
  simp only [putP, Nat.not_lt_zero, if_false]
  exact List.ext_getElem (by simp) (by simp)
theorem putP_full (n : Int) (k : Nat) : putP n k k = putL n k := by
  unfold putP putL
  exact List.map_congr_left fun i hi => by simp [List.mem_range.1 hi]
theorem putP_succ (n : Int) (j k : Nat) : (putP n j k).set j (n / 2 ^ (8 * j) % 256) = putP n (j + 1) k := by
  apply List.ext_getElem
  · simp [putP]
  · intro i h1 h2
    simp only [putP, List.length_set, List.length_map, List.length_range] at h1
    rw [List.getElem_set]
    simp only [putP, List.getElem_map, List.getElem_range]
    split
    · subst_vars; simp
    · rename_i hne
      by_cases hlt : i < j
      · simp [hlt, Nat.lt_succ_of_lt hlt]
      · have : ¬ i < j + 1 := by omega
        simp [hlt, this]

/-- the number of the first k bytes of l -/
def getI (l : List Int) : Nat → Int
  | 0 => 0
  | k + 1 => getI l k + l.getD k 0 * 2 ^ (8 * k)
theorem getI_bd (l : List Int) (hl : Bytes l) (k : Nat) : 0 ≤ getI l k ∧ getI l k < 2 ^ (8 * k) := by
  induction k with
  | zero => simp [getI]
  | succ k ih =>
    have hb := hl k
    have hp := pow_pos' (8 * k)
    have e : (2 : Int) ^ (8 * (k + 1)) = 2 ^ (8 * k) * 256 := by rw [show 8 * (k + 1) = 8 * k + 8 from by omega, Int.pow_add]; rfl
    simp only [getI]
    generalize (2 : Int) ^ (8 * k) = p at *
    generalize l.getD k 0 = c at *
    have h1 : 0 ≤ c * p := Int.mul_nonneg hb.1 (by omega)
    have h2 : c * p ≤ 255 * p := Int.mul_le_mul_of_nonneg_right hb.2 (by omega)
    omega
theorem getI_wrap (l : List Int) (hl : Bytes l) (k : Nat) (hk : k < 8) : IntKind.u64.wrap (l.getD k 0 * 2 ^ (8 * k)) = l.getD k 0 * 2 ^ (8 * k) := by
  rw [Go.IntKind.wrap_u64]
  have hb := hl k
  have hp := pow_pos' (8 * k)
  have hs := pow_split (8 * k) 56 (by omega)
  have h2 := pow_pos' (56 - 8 * k)
  have e : (2 : Int) ^ 56 = 72057594037927936 := by decide
  have h3 : (2 : Int) ^ (8 * k) * 1 ≤ 2 ^ (8 * k) * 2 ^ (56 - 8 * k) := Int.mul_le_mul_of_nonneg_left (by omega) (by omega)
  generalize (2 : Int) ^ (8 * k) = p at *
  generalize l.getD k 0 = c at *
  have h4 : 0 ≤ c * p := Int.mul_nonneg hb.1 (by omega)
  have h5 : c * p ≤ 255 * p := Int.mul_le_mul_of_nonneg_right hb.2 (by omega)
  omega
/-- joined by 'or': what is below and what is above share no bit -/
theorem or_join (i : Nat) (x y : Int) (h0 : 0 ≤ y) (h1 : y < 2 ^ i) (h2 : 0 ≤ x) (h3 : x % 2 ^ i = 0) (h4 : x < 18446744073709551616) (h5 : y < 18446744073709551616) : bits .or .u64 y x = y + x := by
  rw [Go.u64_or y x h0 h5 h2 h4]
  obtain ⟨a, rfl⟩ := Int.eq_ofNat_of_zero_le h2
  obtain ⟨b, rfl⟩ := Int.eq_ofNat_of_zero_le h0
  have e : a % 2 ^ i = 0 := by exact_mod_cast h3
  have f : b < 2 ^ i := by exact_mod_cast h1
  have := Go.nat_join i a b e f
  simp only [Int.toNat_natCast]
  rw [Nat.or_comm, this]
  simp; omega
theorem getI_or (l : List Int) (hl : Bytes l) (k : Nat) (hk : k < 8) : bits .or .u64 (getI l k) (IntKind.u64.wrap (l.getD k 0 * 2 ^ (8 * k))) = getI l (k + 1) := by
  have hw := getI_wrap l hl k hk
  rw [hw]
  have hb := getI_bd l hl k
  have hb1 := getI_bd l hl (k + 1)
  have hc := hl k
  have hp := pow_pos' (8 * k)
  have hbig : (2 : Int) ^ (8 * (k + 1)) ≤ 18446744073709551616 := by
    have hs := pow_split (8 * (k + 1)) 64 (by omega)
    have h2 := pow_pos' (64 - 8 * (k + 1))
    have h3 : (2 : Int) ^ (8 * (k + 1)) * 1 ≤ 2 ^ (8 * (k + 1)) * 2 ^ (64 - 8 * (k + 1)) := Int.mul_le_mul_of_nonneg_left (by omega) (Int.le_of_lt (pow_pos' _))
    have e : (2 : Int) ^ 64 = 18446744073709551616 := by decide
    omega
  have hx : 0 ≤ l.getD k 0 * 2 ^ (8 * k) := Int.mul_nonneg hc.1 (by omega)
  simp only [getI] at hb1
  rw [or_join (8 * k) _ _ hb.1 hb.2 hx (Int.mul_emod_left _ _) (by omega) (by omega)]
  rfl
theorem getI_ref (l : List Int) (hl : Bytes l) (k : Nat) (hk : k < 8) : IntKind.u64.wrap (getI l k + IntKind.u64.wrap (l.getD k 0 * two (8 * k))) = getI l (k + 1) := by
  rw [two_small _ (by omega), getI_wrap l hl k hk]
  have hb1 := getI_bd l hl (k + 1)
  simp only [getI] at hb1 ⊢
  have hs := pow_split (8 * (k + 1)) 64 (by omega)
  have h2 := pow_pos' (64 - 8 * (k + 1))
  have h3 : (2 : Int) ^ (8 * (k + 1)) * 1 ≤ 2 ^ (8 * (k + 1)) * 2 ^ (64 - 8 * (k + 1)) := Int.mul_le_mul_of_nonneg_left (by omega) (Int.le_of_lt (pow_pos' _))
  have e : (2 : Int) ^ 64 = 18446744073709551616 := by decide
  rw [Go.IntKind.wrap_u64]
  omega
theorem emod_mul256 (n p : Int) (hp : 0 < p) : n % (p * 256) = n % p + n / p % 256 * p := by
  rw [Int.emod_def n (p * 256), Int.emod_def n p, Int.emod_def (n / p) 256, ← Int.ediv_ediv_of_nonneg (by omega : 0 ≤ p), Int.sub_mul, Int.mul_assoc p 256, Int.mul_comm (n / p) p, Int.mul_assoc 256]
  have : p * (256 * (n / p / 256)) = 256 * (n / p / 256 * p) := by rw [Int.mul_comm p, Int.mul_assoc]
  omega
theorem getI_put (n : Int) (k j : Nat) (hj : j ≤ k) : getI (putL n k) j = n % 2 ^ (8 * j) := by
  induction j with
  | zero => simp [getI]
  | succ j ih =>
    rw [getI, ih (by omega), putL_get n k j (by omega)]
    have e : (2 : Int) ^ (8 * (j + 1)) = 2 ^ (8 * j) * 256 := by rw [show 8 * (j + 1) = 8 * j + 8 from by omega, Int.pow_add]; rfl
    rw [e]
    have hp := pow_pos' (8 * j)
    generalize (2 : Int) ^ (8 * j) = p at *
    exact (emod_mul256 n p (by omega)).symm
theorem putL_bytes (n : Int) (k : Nat) : Bytes (putL n k) := by
  intro j
  by_cases h : j < k
  · rw [putL_get n k j h]; omega
  · simp [putL, List.getD, h]


/-- the lowest bits -/
def lowI (n m : Int) : Int := if 64 ≤ m then n else n % 2 ^ m.toNat
theorem low_bits (n : Int) (h : U64 n) (c : Nat) (hc : c < 64) : bits .andNot .u64 n (IntKind.u64.wrap (18446744073709551615 * 2 ^ c)) = n % 2 ^ c := by
  unfold U64 at h
  have hp := pow_pos' c
  have hs := pow_split c 63 (by omega)
  have h2 := pow_pos' (63 - c)
  have h3 : (2 : Int) ^ c * 1 ≤ 2 ^ c * 2 ^ (63 - c) := Int.mul_le_mul_of_nonneg_left (by omega) (by omega)
  have e : (2 : Int) ^ 63 = 9223372036854775808 := by decide
  have hw : IntKind.u64.wrap (18446744073709551615 * 2 ^ c) = 18446744073709551616 - 2 ^ c := by
    rw [Go.IntKind.wrap_u64]
    generalize (2 : Int) ^ c = p at *
    omega
  rw [hw, Go.u64_andNot _ _ h.1 (by omega) (by omega) (by omega)]
  obtain ⟨a, rfl⟩ := Int.eq_ofNat_of_zero_le h.1
  have e2 : (18446744073709551615 - (18446744073709551616 - (2 : Int) ^ c).toNat : Nat) = 2 ^ c - 1 := by
    have : (2 : Int) ^ c = ((2 ^ c : Nat) : Int) := by simp
    rw [this] at hp h3 hs ⊢
    omega
  rw [e2, Int.toNat_natCast, Nat.and_two_pow_sub_one_eq_mod]
  simp
theorem low_bits64 (n : Int) (h : U64 n) : bits .andNot .u64 n (IntKind.u64.wrap (18446744073709551615 * 2 ^ 64)) = n := by
  unfold U64 at h
  have hw : IntKind.u64.wrap (18446744073709551615 * 2 ^ 64) = 0 := by decide
  rw [hw, Go.u64_andNot _ _ h.1 (by omega) (by omega) (by omega)]
  obtain ⟨a, rfl⟩ := Int.eq_ofNat_of_zero_le h.1
  have : (18446744073709551615 - (0 : Int).toNat : Nat) = 2 ^ 64 - 1 := by decide
  rw [this, Int.toNat_natCast, Nat.and_two_pow_sub_one_eq_mod]
  simp
  omega
theorem emod_mul2 (n p : Int) (hp : 0 < p) : n % (p * 2) = n % p + n / p % 2 * p := by
  rw [Int.emod_def n (p * 2), Int.emod_def n p, Int.emod_def (n / p) 2, ← Int.ediv_ediv_of_nonneg (by omega : 0 ≤ p), Int.sub_mul, Int.mul_assoc p 2, Int.mul_comm (n / p) p, Int.mul_assoc 2]
  have : p * (2 * (n / p / 2)) = 2 * (n / p / 2 * p) := by rw [Int.mul_comm p, Int.mul_assoc]
  omega
theorem low_two (n m : Int) (h : 0 ≤ m) (h2 : m < 64) : n % two m.toNat = lowI n m := by
  unfold lowI; rw [if_neg (by omega), two_small _ (by omega)]

/-- turning -/
def rotI (x : Int) (s : Nat) : Int := x % 2 ^ (32 - s) * 2 ^ s + x / 2 ^ (32 - s)
def turnS (x : Int) (s : Nat) : Nat → Int
  | 0 => 0
  | i + 1 => turnS x s i + x / 2 ^ i % 2 * 2 ^ ((i + s) % 32)
theorem turnS_low (x : Int) (s i : Nat) (h : i + s ≤ 32) : turnS x s i = x % 2 ^ i * 2 ^ s := by
  induction i with
  | zero => simp [turnS]
  | succ i ih =>
    have e : (i + s) % 32 = i + s := Nat.mod_eq_of_lt (by omega)
    rw [turnS, ih (by omega), e, Int.pow_succ, emod_mul2 _ _ (pow_pos' i), Int.add_mul, Int.pow_add, Int.mul_assoc]
theorem turnS_high (x : Int) (s d : Nat) (hs : s < 32) (hd : d ≤ s) : turnS x s (32 - s + d) = x % 2 ^ (32 - s) * 2 ^ s + x / 2 ^ (32 - s) % 2 ^ d := by
  induction d with
  | zero => rw [Nat.add_zero, turnS_low x s _ (by omega)]; simp
  | succ d ih =>
    have e : (32 - s + d + s) % 32 = d := by omega
    rw [← Nat.add_assoc, turnS, ih (by omega), e, Int.pow_succ 2 d, emod_mul2 _ _ (pow_pos' d), Int.pow_add, ← Int.ediv_ediv_of_nonneg (Int.le_of_lt (pow_pos' _))]
    omega
theorem div_lt_pow (x : Int) (s : Nat) (h : 0 ≤ x ∧ x < 4294967296) (hs : s ≤ 32) : 0 ≤ x / 2 ^ (32 - s) ∧ x / 2 ^ (32 - s) < 2 ^ s := by
  have hp := pow_pos' (32 - s)
  refine ⟨Int.ediv_nonneg h.1 (by omega), Int.ediv_lt_of_lt_mul hp ?_⟩
  rw [← Int.pow_add, show s + (32 - s) = 32 from by omega]
  exact h.2
theorem turnS_all (x : Int) (s : Nat) (h : 0 ≤ x ∧ x < 4294967296) (hs : s < 32) : turnS x s 32 = rotI x s := by
  have := turnS_high x s s hs (Nat.le_refl _)
  rw [show 32 - s + s = 32 from by omega] at this
  have hd := div_lt_pow x s h (by omega)
  rw [this, Int.emod_eq_of_lt hd.1 hd.2]
  rfl
theorem low_up_bd (x : Int) (s i : Nat) (h : i + s ≤ 32) : 0 ≤ x % 2 ^ i * 2 ^ s ∧ x % 2 ^ i * 2 ^ s + 2 ^ s ≤ 4294967296 := by
  have hi := pow_pos' i
  have hs := pow_pos' s
  have h1 := Int.emod_nonneg x (Int.ne_of_gt hi)
  have h2 := Int.emod_lt_of_pos x hi
  have h3 : (x % 2 ^ i + 1) * 2 ^ s ≤ 2 ^ i * 2 ^ s := Int.mul_le_mul_of_nonneg_right (by omega) (by omega)
  have h4 := pow_split (i + s) 32 h
  have h5 := pow_pos' (32 - (i + s))
  have h6 : (2 : Int) ^ (i + s) * 1 ≤ 2 ^ (i + s) * 2 ^ (32 - (i + s)) := Int.mul_le_mul_of_nonneg_left (by omega) (Int.le_of_lt (pow_pos' _))
  have e : (2 : Int) ^ 32 = 4294967296 := by decide
  rw [Int.pow_add] at h6
  rw [Int.pow_add] at h4
  rw [Int.add_mul, Int.one_mul] at h3
  exact ⟨Int.mul_nonneg h1 (by omega), by omega⟩
theorem turnS_bd (x : Int) (s i : Nat) (hs : s < 32) (hi : i ≤ 32) : 0 ≤ turnS x s i ∧ turnS x s i < 4294967296 := by
  by_cases h : i + s ≤ 32
  · rw [turnS_low x s i h]; have := low_up_bd x s i h; have := pow_pos' s; omega
  · have e : i = 32 - s + (i + s - 32) := by omega
    have hb := low_up_bd x s (32 - s) (by omega)
    have hd : (2 : Int) ^ (i + s - 32) ≤ 2 ^ s := by
      rw [pow_split (i + s - 32) s (by omega)]
      have h5 := pow_pos' (s - (i + s - 32))
      have h6 : (2 : Int) ^ (i + s - 32) * 1 ≤ 2 ^ (i + s - 32) * 2 ^ (s - (i + s - 32)) := Int.mul_le_mul_of_nonneg_left (by omega) (Int.le_of_lt (pow_pos' _))
      omega
    have hp := pow_pos' (i + s - 32)
    have h1 := Int.emod_nonneg (x / 2 ^ (32 - s)) (Int.ne_of_gt hp)
    have h2 := Int.emod_lt_of_pos (x / 2 ^ (32 - s)) hp
    rw [e, turnS_high x s _ hs (by omega)]
    omega
theorem turnS_step (x : Int) (s i : Nat) (hs : s < 32) (hi : i < 32) : IntKind.u32.wrap (turnS x s i + 2 ^ ((i + s) % 32)) = turnS x s i + 2 ^ ((i + s) % 32) ∨ x / 2 ^ i % 2 ≠ 1 := by
  by_cases hb : x / 2 ^ i % 2 = 1
  · left
    have := turnS_bd x s (i + 1) hs (by omega)
    rw [turnS, hb, Int.one_mul] at this
    rw [Go.IntKind.wrap_u32]; omega
  · right; exact hb
theorem or_join32 (i : Nat) (x y : Int) (h0 : 0 ≤ y) (h1 : y < 2 ^ i) (h2 : 0 ≤ x) (h3 : x % 2 ^ i = 0) (h4 : x < 4294967296) (h5 : y < 4294967296) : bits .or .u32 x y = x + y := by
  rw [Go.u32_or x y h2 h4 h0 h5]
  obtain ⟨a, rfl⟩ := Int.eq_ofNat_of_zero_le h2
  obtain ⟨b, rfl⟩ := Int.eq_ofNat_of_zero_le h0
  have e : a % 2 ^ i = 0 := by exact_mod_cast h3
  have f : b < 2 ^ i := by exact_mod_cast h1
  have := Go.nat_join i a b e f
  simp only [Int.toNat_natCast]
  rw [this]
  simp
theorem up_mod (x : Int) (s : Nat) (hs : s ≤ 32) : x * 2 ^ s % 4294967296 = x % 2 ^ (32 - s) * 2 ^ s := by
  have e : (4294967296 : Int) = 2 ^ (32 - s) * 2 ^ s := by rw [← Int.pow_add, show 32 - s + s = 32 from by omega]; decide
  rw [e, Int.mul_comm x, Int.mul_comm (2 ^ (32 - s)), Int.mul_emod_mul_of_pos _ _ (pow_pos' s), Int.mul_comm]
theorem turn_bits (x : Int) (s : Nat) (h : 0 ≤ x ∧ x < 4294967296) (hs : s < 32) : bits .or .u32 (x * 2 ^ s % 4294967296) (x / 2 ^ (32 - s)) = rotI x s := by
  have hd := div_lt_pow x s h (by omega)
  have hb := low_up_bd x s (32 - s) (by omega)
  rw [up_mod x s (by omega)]
  have hp := pow_pos' s
  rw [or_join32 s _ _ hd.1 hd.2 hb.1 (Int.mul_emod_left _ _) (by omega) (by omega)]
  rfl
theorem rotI_bd (x : Int) (s : Nat) (h : 0 ≤ x ∧ x < 4294967296) (hs : s < 32) : 0 ≤ rotI x s ∧ rotI x s < 4294967296 := by
  rw [← turnS_all x s h hs]; exact turnS_bd x s 32 hs (by omega)
theorem rot_back (x : Int) (s : Nat) (h : 0 ≤ x ∧ x < 4294967296) (h0 : 0 < s) (hs : s < 32) : rotI (rotI x s) (32 - s) = x := by
  have hd := div_lt_pow x s h (by omega)
  have hp := pow_pos' s
  unfold rotI
  rw [show 32 - (32 - s) = s from by omega]
  have e1 : (x % 2 ^ (32 - s) * 2 ^ s + x / 2 ^ (32 - s)) % 2 ^ s = x / 2 ^ (32 - s) := by
    rw [Int.add_comm, Int.add_mul_emod_self_right, Int.emod_eq_of_lt hd.1 hd.2]
  have e2 : (x % 2 ^ (32 - s) * 2 ^ s + x / 2 ^ (32 - s)) / 2 ^ s = x % 2 ^ (32 - s) := by
    rw [Int.add_comm, Int.add_mul_ediv_right _ _ (by omega), Int.ediv_eq_zero_of_lt hd.1 hd.2]; omega
  rw [e1, e2]
  have := Int.emod_add_mul_ediv x (2 ^ (32 - s))
  rw [Int.mul_comm] at this
  omega
theorem rot_zero (x : Int) (h : 0 ≤ x ∧ x < 4294967296) : rotI x 0 = x := by
  unfold rotI
  have e : (2 : Int) ^ 32 = 4294967296 := by decide
  simp only [Nat.sub_zero, e, Int.pow_zero]
  omega
/-- the bytes of the number that bytes tell -/
theorem getI_byte (l : List Int) (hl : Bytes l) (k : Nat) : ∀ j, j < k → getI l k / 2 ^ (8 * j) % 256 = l.getD j 0 := by
  induction k with
  | zero => intro j h; omega
  | succ k ih =>
    intro j hj
    have hb := hl k
    have hp := pow_pos' (8 * j)
    show (getI l k + l.getD k 0 * 2 ^ (8 * k)) / 2 ^ (8 * j) % 256 = l.getD j 0
    by_cases h : j = k
    · subst h
      have := getI_bd l hl j
      rw [Int.add_mul_ediv_right _ _ (by omega), Int.ediv_eq_zero_of_lt this.1 this.2]
      omega
    · have hs : (2 : Int) ^ (8 * k) = 2 ^ (8 * j) * (256 * 2 ^ (8 * (k - j - 1))) := by
        rw [show (256 : Int) = 2 ^ 8 from rfl, ← Int.pow_add, ← Int.pow_add]; congr 1; omega
      rw [hs, show l.getD k 0 * (2 ^ (8 * j) * (256 * 2 ^ (8 * (k - j - 1)))) = 2 ^ (8 * j) * (256 * (l.getD k 0 * 2 ^ (8 * (k - j - 1)))) from by
        rw [← Int.mul_assoc, Int.mul_comm (l.getD k 0), Int.mul_assoc, Int.mul_left_comm (l.getD k 0)],
        Int.add_mul_ediv_left _ _ (by omega), Int.add_mul_emod_self_left]
      exact ih j (by omega)
theorem putL_getI (l : List Int) (hl : Bytes l) (k : Nat) (hk : l.length = k) : putL (getI l k) k = l := by
  refine List.ext_getElem (by rw [putL_length, hk]) fun j h1 h2 => ?_
  have h3 := getI_byte l hl k j (by omega)
  have h4 := putL_get (getI l k) k j (by omega)
  rw [h3] at h4
  simpa [List.getD, h1, h2] using h4
theorem bytes_take {l : List Int} (h : Bytes l) (k : Nat) : Bytes (l.take k) := bytes_of_mem fun x hx => h.mem x (List.mem_of_mem_take hx)
theorem bytes_drop {l : List Int} (h : Bytes l) (k : Nat) : Bytes (l.drop k) := bytes_of_mem fun x hx => h.mem x (List.mem_of_mem_drop hx)
end Go.Proofs.YthickhfbllddjaaDoor
