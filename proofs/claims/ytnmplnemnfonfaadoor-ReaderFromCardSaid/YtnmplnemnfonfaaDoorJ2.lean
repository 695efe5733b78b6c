/-
  TEXTS JOINED: IsB, PutMath, CrcMath, CrcRef, CrcPat, FragMath, Put. Each one's own words stand at its head.
-/
import Derived.Test.YtnmplnemnfonfaaDoorJ0
import Derived.Laws.BitsAllLaws
import Derived.Test.YtnmplnemnfonfaaDoorJ1
namespace Go.Proofs.YtnmplnemnfonfaaDoor
def isB (l : List Int) : Prop := ∀ x ∈ l, 0 ≤ x ∧ x ≤ 255
theorem isB.drop {l : List Int} (h : isB l) (k : Nat) : isB (l.drop k) := fun x hx => h x (List.mem_of_mem_drop hx)
theorem isB.take {l : List Int} (h : isB l) (k : Nat) : isB (l.take k) := fun x hx => h x (List.mem_of_mem_take hx)
theorem isB.append {a b : List Int} (ha : isB a) (hb : isB b) : isB (a ++ b) := fun x hx => (List.mem_append.1 hx).elim (ha x) (hb x)
theorem isB.nil : isB [] := fun x hx => by simp at hx
end Go.Proofs.YtnmplnemnfonfaaDoor
namespace Go.Proofs.YtnmplnemnfonfaaDoor
def two (k : Nat) : Int := 2 ^ k % 18446744073709551616
theorem two_succ (k : Nat) : IntKind.u64.wrap (two k * 2) = two (k + 1) := by
  rw [Go.IntKind.wrap_u64]; unfold two; rw [Int.pow_succ]; omega
theorem two_small (k : Nat) (h : k < 64) : two k = 2 ^ k := by
  unfold two
  have h1 := pow_split k 63 (by omega)
  have h2 := pow_pos' (63 - k)
  have h3 := pow_pos' k
  refine Int.emod_eq_of_lt (by omega) ?_
  have : (2 : Int) ^ k * 1 ≤ 2 ^ k * 2 ^ (63 - k) := Int.mul_le_mul_of_nonneg_left (by omega) (by omega)
  have e : (2 : Int) ^ 63 = 9223372036854775808 := by decide
  omega
def clampI (n m : Int) : Int := min (max n 0) m
def putL (n : Int) (k : Nat) : List Int := (List.range k).map fun i => n / 2 ^ (8 * i) % 256
theorem putL_length (n : Int) (k : Nat) : (putL n k).length = k := by simp [putL]
theorem putL_succ (n : Int) (k : Nat) : putL n (k + 1) = putL n k ++ [n / 2 ^ (8 * k) % 256] := by simp [putL, List.range_succ]
theorem putL_get (n : Int) (k j : Nat) (h : j < k) : (putL n k).getD j 0 = n / 2 ^ (8 * j) % 256 := by simp [putL, List.getD, h]
def putP (n : Int) (j k : Nat) : List Int := (List.range k).map fun i => if i < j then n / 2 ^ (8 * i) % 256 else 0
theorem putP_zero (n : Int) (k : Nat) : putP n 0 k = List.replicate k 0 := by
  simp only [putP, Nat.not_lt_zero, if_false]
  exact List.ext_getElem (by simp) (by simp)
theorem putP_full (n : Int) (k : Nat) : putP n k k = putL n k := by
  unfold putP putL
  exact List.map_congr_left fun i hi => by simp [List.mem_range.1 hi]
theorem putP_succ (n : Int) (j k : Nat) : (putP n j k).set j (n / 2 ^ (8 * j) % 256) = putP n (j + 1) k := by
  apply List.ext_getElem
  · simp [putP]
  · intro i h1 h2
    simp only [putP, List.length_set, List.length_map, List.length_range] at h1
    rw [List.getElem_set]
    simp only [putP, List.getElem_map, List.getElem_range]
    split
    · subst_vars; simp
    · rename_i hne
      by_cases hlt : i < j
      · simp [hlt, Nat.lt_succ_of_lt hlt]
      · have : ¬ i < j + 1 := by omega
        simp [hlt, this]
def getI (l : List Int) : Nat → Int
  | 0 => 0
  | k + 1 => getI l k + l.getD k 0 * 2 ^ (8 * k)
theorem getI_bd (l : List Int) (hl : Bytes l) (k : Nat) : 0 ≤ getI l k ∧ getI l k < 2 ^ (8 * k) := by
  induction k with
  | zero => simp [getI]
  | succ k ih =>
    have hb := hl k
    have hp := pow_pos' (8 * k)
    have e : (2 : Int) ^ (8 * (k + 1)) = 2 ^ (8 * k) * 256 := by rw [show 8 * (k + 1) = 8 * k + 8 from by omega, Int.pow_add]; rfl
    simp only [getI]
    generalize (2 : Int) ^ (8 * k) = p at *
    generalize l.getD k 0 = c at *
    have h1 : 0 ≤ c * p := Int.mul_nonneg hb.1 (by omega)
    have h2 : c * p ≤ 255 * p := Int.mul_le_mul_of_nonneg_right hb.2 (by omega)
    omega
theorem getI_wrap (l : List Int) (hl : Bytes l) (k : Nat) (hk : k < 8) : IntKind.u64.wrap (l.getD k 0 * 2 ^ (8 * k)) = l.getD k 0 * 2 ^ (8 * k) := by
  rw [Go.IntKind.wrap_u64]
  have hb := hl k
  have hp := pow_pos' (8 * k)
  have hs := pow_split (8 * k) 56 (by omega)
  have h2 := pow_pos' (56 - 8 * k)
  have e : (2 : Int) ^ 56 = 72057594037927936 := by decide
  have h3 : (2 : Int) ^ (8 * k) * 1 ≤ 2 ^ (8 * k) * 2 ^ (56 - 8 * k) := Int.mul_le_mul_of_nonneg_left (by omega) (by omega)
  generalize (2 : Int) ^ (8 * k) = p at *
  generalize l.getD k 0 = c at *
  have h4 : 0 ≤ c * p := Int.mul_nonneg hb.1 (by omega)
  have h5 : c * p ≤ 255 * p := Int.mul_le_mul_of_nonneg_right hb.2 (by omega)
  omega
theorem or_join (i : Nat) (x y : Int) (h0 : 0 ≤ y) (h1 : y < 2 ^ i) (h2 : 0 ≤ x) (h3 : x % 2 ^ i = 0) (h4 : x < 18446744073709551616) (h5 : y < 18446744073709551616) : bits .or .u64 y x = y + x := by
  rw [Go.u64_or y x h0 h5 h2 h4]
  obtain ⟨a, rfl⟩ := Int.eq_ofNat_of_zero_le h2
  obtain ⟨b, rfl⟩ := Int.eq_ofNat_of_zero_le h0
  have e : a % 2 ^ i = 0 := by exact_mod_cast h3
  have f : b < 2 ^ i := by exact_mod_cast h1
  have := Go.nat_join i a b e f
  simp only [Int.toNat_natCast]
  rw [Nat.or_comm, this]
  simp; omega
theorem getI_or (l : List Int) (hl : Bytes l) (k : Nat) (hk : k < 8) : bits .or .u64 (getI l k) (IntKind.u64.wrap (l.getD k 0 * 2 ^ (8 * k))) = getI l (k + 1) := by
  have hw := getI_wrap l hl k hk
  rw [hw]
  have hb := getI_bd l hl k
  have hb1 := getI_bd l hl (k + 1)
  have hc := hl k
  have hp := pow_pos' (8 * k)
  have hbig : (2 : Int) ^ (8 * (k + 1)) ≤ 18446744073709551616 := by
    have hs := pow_split (8 * (k + 1)) 64 (by omega)
    have h2 := pow_pos' (64 - 8 * (k + 1))
    have h3 : (2 : Int) ^ (8 * (k + 1)) * 1 ≤ 2 ^ (8 * (k + 1)) * 2 ^ (64 - 8 * (k + 1)) := Int.mul_le_mul_of_nonneg_left (by omega) (Int.le_of_lt (pow_pos' _))
    have e : (2 : Int) ^ 64 = 18446744073709551616 := by decide
    omega
  have hx : 0 ≤ l.getD k 0 * 2 ^ (8 * k) := Int.mul_nonneg hc.1 (by omega)
  simp only [getI] at hb1
  rw [or_join (8 * k) _ _ hb.1 hb.2 hx (Int.mul_emod_left _ _) (by omega) (by omega)]
  rfl
theorem getI_ref (l : List Int) (hl : Bytes l) (k : Nat) (hk : k < 8) : IntKind.u64.wrap (getI l k + IntKind.u64.wrap (l.getD k 0 * two (8 * k))) = getI l (k + 1) := by
  rw [two_small _ (by omega), getI_wrap l hl k hk]
  have hb1 := getI_bd l hl (k + 1)
  simp only [getI] at hb1 ⊢
  have hs := pow_split (8 * (k + 1)) 64 (by omega)
  have h2 := pow_pos' (64 - 8 * (k + 1))
  have h3 : (2 : Int) ^ (8 * (k + 1)) * 1 ≤ 2 ^ (8 * (k + 1)) * 2 ^ (64 - 8 * (k + 1)) := Int.mul_le_mul_of_nonneg_left (by omega) (Int.le_of_lt (pow_pos' _))
  have e : (2 : Int) ^ 64 = 18446744073709551616 := by decide
  rw [Go.IntKind.wrap_u64]
  omega
theorem emod_mul256 (n p : Int) (hp : 0 < p) : n % (p * 256) = n % p + n / p % 256 * p := by
  rw [Int.emod_def n (p * 256), Int.emod_def n p, Int.emod_def (n / p) 256, ← Int.ediv_ediv_of_nonneg (by omega : 0 ≤ p), Int.sub_mul, Int.mul_assoc p 256, Int.mul_comm (n / p) p, Int.mul_assoc 256]
  have : p * (256 * (n / p / 256)) = 256 * (n / p / 256 * p) := by rw [Int.mul_comm p, Int.mul_assoc]
  omega
theorem getI_put (n : Int) (k j : Nat) (hj : j ≤ k) : getI (putL n k) j = n % 2 ^ (8 * j) := by
  induction j with
  | zero => simp [getI]
  | succ j ih =>
    rw [getI, ih (by omega), putL_get n k j (by omega)]
    have e : (2 : Int) ^ (8 * (j + 1)) = 2 ^ (8 * j) * 256 := by rw [show 8 * (j + 1) = 8 * j + 8 from by omega, Int.pow_add]; rfl
    rw [e]
    have hp := pow_pos' (8 * j)
    generalize (2 : Int) ^ (8 * j) = p at *
    exact (emod_mul256 n p (by omega)).symm
theorem putL_bytes (n : Int) (k : Nat) : Bytes (putL n k) := by
  intro j
  by_cases h : j < k
  · rw [putL_get n k j h]; omega
  · simp [putL, List.getD, h]
theorem getI_byte (l : List Int) (hl : Bytes l) (k : Nat) : ∀ j, j < k → getI l k / 2 ^ (8 * j) % 256 = l.getD j 0 := by
  induction k with
  | zero => intro j h; omega
  | succ k ih =>
    intro j hj
    have hb := hl k
    have hp := pow_pos' (8 * j)
    show (getI l k + l.getD k 0 * 2 ^ (8 * k)) / 2 ^ (8 * j) % 256 = l.getD j 0
    by_cases h : j = k
    · subst h
      have := getI_bd l hl j
      rw [Int.add_mul_ediv_right _ _ (by omega), Int.ediv_eq_zero_of_lt this.1 this.2]
      omega
    · have hs : (2 : Int) ^ (8 * k) = 2 ^ (8 * j) * (256 * 2 ^ (8 * (k - j - 1))) := by
        rw [show (256 : Int) = 2 ^ 8 from rfl, ← Int.pow_add, ← Int.pow_add]; congr 1; omega
      rw [hs, show l.getD k 0 * (2 ^ (8 * j) * (256 * 2 ^ (8 * (k - j - 1)))) = 2 ^ (8 * j) * (256 * (l.getD k 0 * 2 ^ (8 * (k - j - 1)))) from by
        rw [← Int.mul_assoc, Int.mul_comm (l.getD k 0), Int.mul_assoc, Int.mul_left_comm (l.getD k 0)],
        Int.add_mul_ediv_left _ _ (by omega), Int.add_mul_emod_self_left]
      exact ih j (by omega)
theorem putL_getI (l : List Int) (hl : Bytes l) (k : Nat) (hk : l.length = k) : putL (getI l k) k = l := by
  refine List.ext_getElem (by rw [putL_length, hk]) fun j h1 h2 => ?_
  have h3 := getI_byte l hl k j (by omega)
  have h4 := putL_get (getI l k) k j (by omega)
  rw [h3] at h4
  simpa [List.getD, h1, h2] using h4
theorem bytes_take {l : List Int} (h : Bytes l) (k : Nat) : Bytes (l.take k) := bytes_of_mem fun x hx => h.mem x (List.mem_of_mem_take hx)
theorem bytes_drop {l : List Int} (h : Bytes l) (k : Nat) : Bytes (l.drop k) := bytes_of_mem fun x hx => h.mem x (List.mem_of_mem_drop hx)
end Go.Proofs.YtnmplnemnfonfaaDoor
namespace Go.Proofs.YtnmplnemnfonfaaDoor
def st (x : Nat) : Nat := if x % 2 = 1 then x / 2 ^^^ 2197175160 else x / 2
def stn : Nat → Nat → Nat
  | 0, x => x
  | n + 1, x => stn n (st x)
theorem st_lt (x : Nat) (h : x < 4294967296) : st x < 4294967296 := by
  unfold st
  split
  · exact Nat.xor_lt_two_pow (n := 32) (by omega) (by omega)
  · omega
theorem stn_lt (n x : Nat) (h : x < 4294967296) : stn n x < 4294967296 := by
  induction n generalizing x with
  | zero => exact h
  | succ n ih => exact ih _ (st_lt x h)
theorem xor_lt (x y : Nat) (h : x < 4294967296) (k : y < 4294967296) : x ^^^ y < 4294967296 := Nat.xor_lt_two_pow (n := 32) h k
theorem xor_right_comm (a b c : Nat) : a ^^^ b ^^^ c = a ^^^ c ^^^ b := by rw [Nat.xor_assoc, Nat.xor_comm b, ← Nat.xor_assoc]
theorem xor_swap4 (a b c d : Nat) : a ^^^ b ^^^ (c ^^^ d) = a ^^^ c ^^^ (b ^^^ d) := by
  rw [← Nat.xor_assoc, ← Nat.xor_assoc, xor_right_comm a b c]
theorem st_xor (x y : Nat) : st (x ^^^ y) = st x ^^^ st y := by
  have hm : (x ^^^ y) % 2 = (x % 2 + y % 2) % 2 := by
    rw [show (x ^^^ y) % 2 = (x % 2) ^^^ (y % 2) from Nat.xor_mod_two_pow (n := 1)]
    rcases Nat.mod_two_eq_zero_or_one x with hx | hx <;> rcases Nat.mod_two_eq_zero_or_one y with hy | hy <;> rw [hx, hy] <;> rfl
  unfold st
  rw [Nat.xor_div_two]
  rcases Nat.mod_two_eq_zero_or_one x with hx | hx <;> rcases Nat.mod_two_eq_zero_or_one y with hy | hy
  · rw [if_neg (by omega), if_neg (by omega), if_neg (by omega)]
  · rw [if_pos (by omega), if_neg (by omega), if_pos (by omega), Nat.xor_assoc]
  · rw [if_pos (by omega), if_pos (by omega), if_neg (by omega), xor_right_comm]
  · rw [if_neg (by omega), if_pos (by omega), if_pos (by omega), xor_swap4, Nat.xor_self, Nat.xor_zero]
theorem stn_xor (n x y : Nat) : stn n (x ^^^ y) = stn n x ^^^ stn n y := by
  induction n generalizing x y with
  | zero => rfl
  | succ n ih => simp only [stn]; rw [st_xor, ih]
theorem stn_add (m n x : Nat) : stn (m + n) x = stn n (stn m x) := by
  induction m generalizing x with
  | zero => rw [Nat.zero_add]; rfl
  | succ m ih => rw [show m + 1 + n = (m + n) + 1 from by omega]; exact ih (st x)
theorem stn_succ (n x : Nat) : stn (n + 1) x = st (stn n x) := by rw [stn_add]; rfl
theorem st_even (y : Nat) : st (2 * y) = y := by unfold st; rw [if_neg (by omega)]; omega
theorem stn_up (n y : Nat) : stn n (2 ^ n * y) = y := by
  induction n generalizing y with
  | zero => simp [stn]
  | succ n ih => rw [stn, Nat.pow_succ, Nat.mul_comm (2 ^ n) 2, Nat.mul_assoc, st_even]; exact ih y
theorem up_xor (n a b : Nat) (h : b < 2 ^ n) : 2 ^ n * a + b = b ^^^ 2 ^ n * a := by
  refine Nat.eq_of_testBit_eq fun j => ?_
  rw [Nat.testBit_two_pow_mul_add a h, Nat.testBit_xor, Nat.testBit_two_pow_mul]
  by_cases hj : j < n
  · simp [hj, Nat.not_le.2 hj]
  · have h1 : b.testBit j = false := Nat.testBit_lt_two_pow (Nat.lt_of_lt_of_le h (Nat.pow_le_pow_right (by omega) (by omega)))
    simp [hj, Nat.not_lt.1 hj, h1]
theorem not32 (s : Nat) (h : s < 4294967296) : 4294967295 - s = s ^^^ 4294967295 := by
  refine Nat.eq_of_testBit_eq fun j => ?_
  have h1 := Nat.testBit_two_pow_sub_succ (x := s) (n := 32) h j
  rw [show (2 : Nat) ^ 32 - (s + 1) = 4294967295 - s from by omega] at h1
  rw [h1, Nat.testBit_xor, show (4294967295 : Nat) = 2 ^ 32 - 1 from rfl, Nat.testBit_two_pow_sub_one]
  by_cases hj : j < 32
  · simp [hj]
  · have h2 : s.testBit j = false := Nat.testBit_lt_two_pow (Nat.lt_of_lt_of_le (show s < 2 ^ 32 from h) (Nat.pow_le_pow_right (by omega) (by omega)))
    simp [hj, h2]
theorem half_step (x : Nat) : stn 4 x = x / 16 ^^^ stn 4 (x % 16) := by
  have e : x = x % 16 ^^^ 2 ^ 4 * (x / 16) := by rw [← up_xor 4 (x / 16) (x % 16) (by omega)]; omega
  have h : stn 4 x = stn 4 (x % 16 ^^^ 2 ^ 4 * (x / 16)) := by rw [← e]
  rw [h, stn_xor, stn_up, Nat.xor_comm]
def reg : Nat → List Int → Nat
  | r, [] => r
  | r, c :: l => reg (stn 8 (r ^^^ c.toNat)) l
theorem reg_nil (r : Nat) : reg r [] = r := rfl
theorem reg_cons (r : Nat) (c : Int) (l : List Int) : reg r (c :: l) = reg (stn 8 (r ^^^ c.toNat)) l := rfl
theorem reg_append (r : Nat) (a b : List Int) : reg r (a ++ b) = reg (reg r a) b := by
  induction a generalizing r with
  | nil => rfl
  | cons c a ih => exact ih _
theorem reg_lt (l : List Int) (hb : ∀ x ∈ l, 0 ≤ x ∧ x ≤ 255) (r : Nat) (h : r < 4294967296) : reg r l < 4294967296 := by
  induction l generalizing r with
  | nil => exact h
  | cons c l ih =>
    have hc := hb c (by simp)
    show reg (stn 8 (r ^^^ c.toNat)) l < 4294967296
    exact ih (fun x hx => hb x (List.mem_cons_of_mem _ hx)) (stn 8 (r ^^^ c.toNat)) (stn_lt 8 (r ^^^ c.toNat) (xor_lt r c.toNat h (by omega)))
def moreS (s : Nat) (l : List Int) : Nat := 4294967295 - reg (4294967295 - s) l
def ofS (l : List Int) : Nat := moreS 0 l
theorem moreS_lt (s : Nat) (l : List Int) : moreS s l < 4294967296 := by unfold moreS; omega
theorem ofS_lt (l : List Int) : ofS l < 4294967296 := moreS_lt 0 l
def maskS (s : Nat) : Nat := (s / 32768 + s % 32768 * 131072 + 2726488792) % 4294967296
theorem maskS_lt (s : Nat) : maskS s < 4294967296 := by unfold maskS; omega
end Go.Proofs.YtnmplnemnfonfaaDoor
namespace Go.Proofs.YtnmplnemnfonfaaDoor
open Go.RowKit
theorem drop_getD (zs : List Int) (k : Nat) (h : k < zs.length) : zs.drop k = zs.getD k 0 :: zs.drop (k + 1) := by
  rw [List.drop_eq_getElem_cons h]; simp [List.getD, h]
set_option maxRecDepth 8000 in
set_option maxHeartbeats 400000 in
theorem rstep_any (n : Nat) (h : n < 4294967296) (w : World) : Calls Tryd.prog 71 #[.int .u32 n] w fun e w' => e = .returned (.int .u32 (st n)) ∧ w = w' := by
  have hx := u32_xor_nat (n / 2) 2197175160 (by omega) (by omega)
  rw [show (((n / 2 : Nat)) : Int) = (n : Int) / 2 from by omega] at hx
  have HX := Lib.hid hx; clear hx
  have hn : (n : Int) ≤ 4294967295 := by omega
  have HN := Lib.hid h; clear h
  by_cases hm : (n : Int) % 2 = 1
  all_goals
    go_enter Tryd.func71, Tryd.ntmps71
    go_wp2
    go_ret
    refine ⟨ret_int ?_, rfl⟩
    unfold st
  · rw [if_pos (by omega), ← HX.out]; rfl
  · rw [if_neg (by omega)]; simp
set_option maxRecDepth 8000 in
set_option maxHeartbeats 800000 in
theorem rmore_some (s : Nat) (h : s < 4294967296) (b off len cap : Nat) (zs : List Int) (w : World) (hz : zs.length = len) (hb : ∀ x ∈ zs, 0 ≤ x ∧ x ≤ 255) (hl : (len : Int) ≤ 9223372036854775807)
    (hc : ∀ j, j < len → w.cell? ⟨b, off + j, none⟩ = some (.int .u8 (zs.getD j 0))) :
    Calls Tryd.prog 67 #[.int .u32 s, .slice (some ⟨b, off, none⟩) len cap] w fun e w' => e = .returned (.int .u32 (moreS s zs)) ∧ w = w' := by
  have hs : (s : Int) ≤ 4294967295 := by omega
  obtain ⟨m, hm⟩ : ∃ m, moreS s zs = m := ⟨_, rfl⟩
  rw [hm]
  have HM := Lib.hid hm
  have HC := Lib.hid hc
  have HZ := Lib.hid hz
  have HB := Lib.hid hb
  have HS := Lib.hid h
  clear hm hc hz hb h
  go_enter Tryd.func67, Tryd.ntmps67
  go_wp2
  go_loop [5, 6] (fun x i => ∃ (k r : Nat), i = .int .i64 k ∧ x = .int .u32 r ∧ k ≤ len ∧ Hid (r < 4294967296) ∧ Hid (reg r (zs.drop k) = reg (4294967295 - s) zs)) (fun _ i => len - (intOf i).toNat)
  case atStart => exact ⟨0, 4294967295 - s, rfl, by have := HS.out; congr 1; omega, by omega, Lib.hid (by omega), rfl⟩
  case round =>
    obtain ⟨k, r, rfl, rfl, hk, HR, HG⟩ := hrel
    by_cases hlt : k < len
    · obtain ⟨x, hx⟩ : ∃ x, zs.getD k 0 = x := ⟨_, rfl⟩
      have hcell : w.cell? ⟨b, off + k, none⟩ = some (.int .u8 x) := by rw [← hx]; exact HC.out k hlt
      have hxb : 0 ≤ x ∧ x ≤ 255 := by
        rw [← hx]; exact (bytes_of_mem HB.out) k
      have HD := Lib.hid (show reg r (x :: zs.drop (k + 1)) = reg (4294967295 - s) zs from by rw [← hx, ← drop_getD zs k (by rw [HZ.out]; exact hlt)]; exact HG.out)
      obtain ⟨y, rfl⟩ : ∃ y : Nat, x = (y : Int) := ⟨x.toNat, by omega⟩
      have HX := Lib.hid (u32_xor_nat r y HR.out (by omega))
      have HXL := Lib.hid (xor_lt r y HR.out (by omega))
      clear hx HG
      obtain ⟨r0, hr0⟩ : ∃ r0, r ^^^ y = r0 := ⟨_, rfl⟩
      rw [hr0] at HX HXL
      have H0 := Lib.hid hr0; clear hr0
      have hxx : bits .xor .u32 (r : Int) (y : Int) = (r0 : Int) := HX.out
      clear HX
      go_wp2
      go_loop [5, 7] (fun x j => ∃ (c q : Nat), j = .int .i64 c ∧ x = .int .u32 q ∧ c ≤ 8 ∧ Hid (q < 4294967296) ∧ Hid (stn c r0 = q)) (fun _ j => 8 - (intOf j).toNat)
      case atStart => exact ⟨0, r0, rfl, rfl, by omega, HXL, rfl⟩
      case round =>
        obtain ⟨c, q, rfl, rfl, hc8, HQ, HT⟩ := hrel
        by_cases hlt2 : c < 8
        · go_wp2_with (first | (go_at_call 71; (with_reducible refine (rstep_any q HQ.out _).mono ?_); rintro e w' ⟨rfl, rfl⟩))
          go_round
          case rel => exact ⟨c + 1, st q, by go_num, rfl, by omega, st_lt q HQ.out, by rw [← HT.out]; exact stn_succ c r0⟩
          case measure => simp [intOf]; omega
        · go_wp2
          go_round
          case rel =>
            refine ⟨k + 1, q, by go_num, rfl, by omega, HQ, ?_⟩
            have h1 := HD.out
            rw [reg_cons, Int.toNat_natCast, H0.out, show 8 = c from by omega, HT.out] at h1
            exact h1
          case measure => simp [intOf]; omega
    · go_wp2
      go_ret
      refine ⟨ret_int ?_, rfl⟩
      have h1 := HG.out
      rw [show zs.drop k = [] from List.drop_eq_nil_of_le (by rw [HZ.out]; omega), reg_nil] at h1
      have h2 := HM.out; have h3 := HR.out
      unfold moreS at h2; omega
set_option maxRecDepth 8000 in
set_option maxHeartbeats 400000 in
theorem rmore_zero (s : Nat) (h : s < 4294967296) (a : Option Addr) (cap : Nat) (w : World) :
    Calls Tryd.prog 67 #[.int .u32 s, .slice a 0 cap] w fun e w' => e = .returned (.int .u32 (moreS s [])) ∧ w = w' := by
  have hs : (s : Int) ≤ 4294967295 := by omega
  have HS := Lib.hid h; clear h
  go_enter Tryd.func67, Tryd.ntmps67
  go_wp2
  refine wp_loop_rounds 1 ?_
  rw [rounds_succ]
  go_wp2
  go_ret
  refine ⟨ret_int ?_, rfl⟩
  have := HS.out
  unfold moreS
  rw [reg_nil]; omega
theorem rmore_any {s len : Nat} (h : s < 4294967296) {v : Value} {zs : List Int} {w : World} (hri : RI .u8 w v len zs) (hb : ∀ x ∈ zs, 0 ≤ x ∧ x ≤ 255) {m : Nat} (hm : moreS s zs = m) :
    Calls Tryd.prog 67 #[.int .u32 s, v] w fun e w' => e = .returned (.int .u32 m) ∧ w = w' := by
  subst hm
  obtain ⟨a, cap, rfl, hl, h1, h2, _, hc⟩ := hri
  by_cases h0 : 0 < len
  · obtain ⟨b, off, rfl, hcell⟩ := hc h0
    exact rmore_some s h b off len cap zs w hl hb (by omega) hcell
  · obtain rfl : len = 0 := by omega
    obtain rfl : zs = [] := List.length_eq_zero_iff.1 hl
    exact rmore_zero s h a cap w
theorem rmore_0 {len : Nat} {v : Value} {zs : List Int} {w : World} (hri : RI .u8 w v len zs) (hb : ∀ x ∈ zs, 0 ≤ x ∧ x ≤ 255) {m : Nat} (hm : moreS 0 zs = m) :
    Calls Tryd.prog 67 #[.int .u32 0, v] w fun e w' => e = .returned (.int .u32 m) ∧ w = w' := rmore_any (s := 0) (by omega) hri hb hm
theorem rof_any {len : Nat} {v : Value} {zs : List Int} {w : World} (hri : RI .u8 w v len zs) (hb : ∀ x ∈ zs, 0 ≤ x ∧ x ≤ 255) {m : Nat} (hm : ofS zs = m) :
    Calls Tryd.prog 59 #[v] w fun e w' => e = .returned (.int .u32 m) ∧ w = w' := by
  have HR := Lib.hid hri
  have HB := Lib.hid hb
  have HM := Lib.hid (show moreS 0 zs = m from hm)
  clear hri hb hm
  go_enter Tryd.func59, Tryd.ntmps59
  go_wp2_with (first | (go_at_call 67; (with_reducible refine (rmore_0 HR.out HB.out HM.out).mono ?_); rintro e w' ⟨rfl, rfl⟩))
  go_ret
  exact ⟨rfl, rfl⟩
set_option maxRecDepth 8000 in
theorem rmask_any (n : Nat) (h : n < 4294967296) (w : World) : Calls Tryd.prog 58 #[.int .u32 n] w fun e w' => e = .returned (.int .u32 (maskS n)) ∧ w = w' := by
  have hn : (n : Int) ≤ 4294967295 := by omega
  clear h
  go_enter Tryd.func58, Tryd.ntmps58
  go_wp2
  go_ret
  refine ⟨ret_int ?_, rfl⟩
  unfold maskS
  omega
theorem rmask_at (n m : Nat) (h : n < 4294967296) (hm : maskS n = m) (w : World) : Calls Tryd.prog 58 #[.int .u32 n] w fun e w' => e = .returned (.int .u32 m) ∧ w = w' :=
  (rmask_any n h w).mono fun _ _ ⟨he, hw⟩ => ⟨by rw [he, hm], hw⟩
end Go.Proofs.YtnmplnemnfonfaaDoor
namespace Go.Proofs.YtnmplnemnfonfaaDoor
open Go.RowKit
end Go.Proofs.YtnmplnemnfonfaaDoor
namespace Go.Proofs.YtnmplnemnfonfaaDoor
def noFr : FR := ⟨0, 0, []⟩
def fragOk (k : Int) (n : Nat) : Bool := decide (1 ≤ k ∧ k ≤ 4 ∧ n ≤ 197)
theorem fok_parts {k : Int} {n : Nat} (h : fragOk k n = true) : 1 ≤ k ∧ k ≤ 4 ∧ n ≤ 197 := of_decide_eq_true h
def num (zs : List Int) (a n : Nat) : Int := getI (zs.drop a) n
def fragK (k e : Int) (n : Nat) : List Int := putL n 2 ++ [k] ++ putL e 4
def fragT (k e : Int) (d : List Int) : List Int := fragK k e d.length ++ d
def fragS (k e : Int) (d : List Int) : Nat := maskS (ofS (fragT k e d))
def fragB (k e : Int) (d : List Int) : List Int := putL (fragS k e d) 4 ++ fragT k e d
theorem fragK_length (k e : Int) (n : Nat) : (fragK k e n).length = 7 := by simp [fragK, putL_length]
theorem fragT_length (k e : Int) (d : List Int) : (fragT k e d).length = 7 + d.length := by simp [fragT, fragK_length]
theorem fragB_length (k e : Int) (d : List Int) : (fragB k e d).length = 11 + d.length := by simp [fragB, fragT_length, putL_length]; omega
theorem putL_isB (n : Int) (k : Nat) : isB (putL n k) := (putL_bytes n k).mem
theorem fragK_bytes {k : Int} (hk : 0 ≤ k ∧ k ≤ 255) (e : Int) (n : Nat) : isB (fragK k e n) :=
  isB.append (isB.append (putL_isB _ _) (fun x hx => by simp only [List.mem_cons, List.not_mem_nil, or_false] at hx; subst hx; exact hk)) (putL_isB _ _)
theorem fragT_bytes {k : Int} (hk : 0 ≤ k ∧ k ≤ 255) (e : Int) {d : List Int} (hd : isB d) : isB (fragT k e d) := (fragK_bytes hk e _).append hd
theorem fragB_bytes {k : Int} (hk : 0 ≤ k ∧ k ≤ 255) (e : Int) {d : List Int} (hd : isB d) : isB (fragB k e d) := isB.append (putL_isB _ _) (fragT_bytes hk e hd)
theorem fragS_lt (k e : Int) (d : List Int) : fragS k e d < 4294967296 := maskS_lt _
theorem getI_take (l : List Int) (m k : Nat) (h : k ≤ m) : getI (l.take m) k = getI l k := by
  induction k with
  | zero => rfl
  | succ k ih =>
    have e : (l.take m).getD k 0 = l.getD k 0 := by simp only [List.getD, List.getElem?_take, show k < m by omega, if_true]
    simp only [getI]; rw [ih (by omega), e]
theorem getI_append (a b : List Int) (k : Nat) (h : k ≤ a.length) : getI (a ++ b) k = getI a k := by
  have := getI_take (a ++ b) a.length k h
  rw [List.take_left] at this
  exact this.symm
theorem num_take (zs : List Int) (m a n : Nat) (h : a + n ≤ m) : num (zs.take m) a n = num zs a n := by
  unfold num; rw [List.drop_take, getI_take _ _ _ (by omega)]
theorem num_bd {zs : List Int} (h : isB zs) (a n : Nat) : 0 ≤ num zs a n ∧ num zs a n < 2 ^ (8 * n) := getI_bd _ (bytes_of_mem (h.drop a)) n
theorem num_put {zs : List Int} (h : isB zs) (a n : Nat) (hl : a + n ≤ zs.length) : putL (num zs a n) n = (zs.drop a).take n := by
  unfold num
  rw [← getI_take (zs.drop a) n n (Nat.le_refl _)]
  exact putL_getI _ (bytes_of_mem ((h.drop a).take n)) n (by simp; omega)
theorem num_one (zs : List Int) (a : Nat) : num zs a 1 = zs.getD a 0 := by simp [num, getI, List.getD]
theorem num_two (zs : List Int) (a : Nat) : num zs a 2 = zs.getD a 0 + 256 * zs.getD (a + 1) 0 := by
  simp [num, getI, List.getD]; omega
def fragD (zs : List Int) (ep : Int) : FR × Nat × Int :=
  if zs.length < 11 then (noFr, 0, 1) else
  if zs.take 11 = List.replicate 11 0 then (noFr, 0, 7) else
  if fragOk (num zs 6 1) (num zs 4 2).toNat = false ∨ num zs 7 4 ≠ ep then (noFr, 0, 2) else
  if zs.length < 11 + (num zs 4 2).toNat then (noFr, 0, 1) else
  if num zs 0 4 ≠ maskS (ofS ((zs.take (11 + (num zs 4 2).toNat)).drop 4)) then (noFr, 0, 3) else
  (⟨num zs 6 1, num zs 7 4, (zs.drop 11).take (num zs 4 2).toNat⟩, 11 + (num zs 4 2).toNat, 0)
section
variable {zs : List Int} {ep : Int}
theorem fragD_short (h : zs.length < 11) : fragD zs ep = (noFr, 0, 1) := by unfold fragD; rw [if_pos h]
theorem fragD_none (h : ¬ zs.length < 11) (h2 : zs.take 11 = List.replicate 11 0) : fragD zs ep = (noFr, 0, 7) := by unfold fragD; rw [if_neg h, if_pos h2]
section
variable (h : ¬ zs.length < 11) (h2 : ¬ zs.take 11 = List.replicate 11 0)
include h h2
theorem fragD_form (h3 : fragOk (num zs 6 1) (num zs 4 2).toNat = false ∨ num zs 7 4 ≠ ep) : fragD zs ep = (noFr, 0, 2) := by unfold fragD; rw [if_neg h, if_neg h2, if_pos h3]
variable (h3 : fragOk (num zs 6 1) (num zs 4 2).toNat = true) (h4 : num zs 7 4 = ep)
include h3 h4
theorem fragD_cut (h5 : zs.length < 11 + (num zs 4 2).toNat) : fragD zs ep = (noFr, 0, 1) := by
  unfold fragD; rw [if_neg h, if_neg h2, if_neg (by rw [h3]; simp [h4]), if_pos h5]
theorem fragD_sum (h5 : ¬ zs.length < 11 + (num zs 4 2).toNat) (h6 : num zs 0 4 ≠ maskS (ofS ((zs.take (11 + (num zs 4 2).toNat)).drop 4))) : fragD zs ep = (noFr, 0, 3) := by
  unfold fragD; rw [if_neg h, if_neg h2, if_neg (by rw [h3]; simp [h4]), if_neg h5, if_pos h6]
theorem fragD_ok (h5 : ¬ zs.length < 11 + (num zs 4 2).toNat) (h6 : num zs 0 4 = maskS (ofS ((zs.take (11 + (num zs 4 2).toNat)).drop 4))) :
    fragD zs ep = (⟨num zs 6 1, num zs 7 4, (zs.drop 11).take (num zs 4 2).toNat⟩, 11 + (num zs 4 2).toNat, 0) := by
  unfold fragD; rw [if_neg h, if_neg h2, if_neg (by rw [h3]; simp [h4]), if_neg h5, if_neg (by simp [h6])]
end
theorem fragD_parts (h : (fragD zs ep).2.2 = 0) : 11 ≤ zs.length ∧ fragOk (num zs 6 1) (num zs 4 2).toNat = true ∧ num zs 7 4 = ep ∧ 11 + (num zs 4 2).toNat ≤ zs.length ∧ num zs 0 4 = maskS (ofS ((zs.take (11 + (num zs 4 2).toNat)).drop 4)) := by
  by_cases h1 : zs.length < 11
  · rw [fragD_short h1] at h; exact absurd h (by decide)
  by_cases h2 : zs.take 11 = List.replicate 11 0
  · rw [fragD_none h1 h2] at h; exact absurd h (by decide)
  by_cases h3 : fragOk (num zs 6 1) (num zs 4 2).toNat = false ∨ num zs 7 4 ≠ ep
  · rw [fragD_form h1 h2 h3] at h; exact absurd h (by decide)
  have h3a : fragOk (num zs 6 1) (num zs 4 2).toNat = true := by cases hq : fragOk (num zs 6 1) (num zs 4 2).toNat <;> simp_all
  have h3b : num zs 7 4 = ep := by by_cases hq : num zs 7 4 = ep; exact hq; exact absurd (Or.inr hq) h3
  by_cases h5 : zs.length < 11 + (num zs 4 2).toNat
  · rw [fragD_cut h1 h2 h3a h3b h5] at h; exact absurd h (by decide)
  by_cases h6 : num zs 0 4 = maskS (ofS ((zs.take (11 + (num zs 4 2).toNat)).drop 4))
  · exact ⟨by omega, h3a, h3b, by omega, h6⟩
  · rw [fragD_sum h1 h2 h3a h3b h5 h6] at h; exact absurd h (by decide)
theorem fragD_err (h : (fragD zs ep).2.2 ≠ 0) : fragD zs ep = (noFr, 0, (fragD zs ep).2.2) := by
  by_cases h1 : zs.length < 11
  · rw [fragD_short h1]
  by_cases h2 : zs.take 11 = List.replicate 11 0
  · rw [fragD_none h1 h2]
  by_cases h3 : fragOk (num zs 6 1) (num zs 4 2).toNat = false ∨ num zs 7 4 ≠ ep
  · rw [fragD_form h1 h2 h3]
  have h3a : fragOk (num zs 6 1) (num zs 4 2).toNat = true := by cases hq : fragOk (num zs 6 1) (num zs 4 2).toNat <;> simp_all
  have h3b : num zs 7 4 = ep := by by_cases hq : num zs 7 4 = ep; exact hq; exact absurd (Or.inr hq) h3
  by_cases h5 : zs.length < 11 + (num zs 4 2).toNat
  · rw [fragD_cut h1 h2 h3a h3b h5]
  by_cases h6 : num zs 0 4 = maskS (ofS ((zs.take (11 + (num zs 4 2).toNat)).drop 4))
  · rw [fragD_ok h1 h2 h3a h3b h5 h6] at h; exact absurd rfl h
  · rw [fragD_sum h1 h2 h3a h3b h5 h6]
end
theorem head_back (zs : List Int) (hb : isB zs) (hl : 11 ≤ zs.length) : fragK (num zs 6 1) (num zs 7 4) (num zs 4 2).toNat = (zs.take 11).drop 4 := by
  have h2 := num_bd hb 4 2
  have e : (((num zs 4 2).toNat : Nat) : Int) = num zs 4 2 := by omega
  unfold fragK
  rw [e, num_put hb 4 2 (by omega), num_put hb 7 4 (by omega), num_one]
  match zs, hl with
  | a0 :: a1 :: a2 :: a3 :: a4 :: a5 :: a6 :: a7 :: a8 :: a9 :: a10 :: r, _ => simp
theorem tail_back (zs : List Int) (hb : isB zs) (h4 : 11 + (num zs 4 2).toNat ≤ zs.length) :
    fragT (num zs 6 1) (num zs 7 4) ((zs.drop 11).take (num zs 4 2).toNat) = (zs.take (11 + (num zs 4 2).toNat)).drop 4 := by
  unfold fragT
  rw [show ((zs.drop 11).take (num zs 4 2).toNat).length = (num zs 4 2).toNat from by simp; omega, head_back zs hb (by omega), List.take_add, List.drop_append_of_le_length (by simp; omega)]
theorem frag_nums (k e : Int) (d r : List Int) (hn : d.length ≤ 65535) (he : 0 ≤ e ∧ e < 4294967296) :
    num (fragB k e d ++ r) 0 4 = fragS k e d ∧ num (fragB k e d ++ r) 4 2 = d.length ∧ num (fragB k e d ++ r) 6 1 = k ∧ num (fragB k e d ++ r) 7 4 = e := by
  have hs := fragS_lt k e d
  have p4 : (fragB k e d ++ r).drop 4 = putL d.length 2 ++ ([k] ++ (putL e 4 ++ (d ++ r))) := by
    unfold fragB
    rw [List.append_assoc, List.drop_left' (by rw [putL_length])]
    unfold fragT fragK
    simp
  have p6 : (fragB k e d ++ r).drop 6 = [k] ++ (putL e 4 ++ (d ++ r)) := by
    rw [show 6 = 4 + 2 from rfl, ← List.drop_drop, p4, List.drop_left' (by rw [putL_length])]
  have p7 : (fragB k e d ++ r).drop 7 = putL e 4 ++ (d ++ r) := by
    rw [show 7 = 6 + 1 from rfl, ← List.drop_drop, p6]; rfl
  unfold num
  refine ⟨?_, ?_, ?_, ?_⟩
  · rw [List.drop_zero]
    unfold fragB
    rw [List.append_assoc, getI_append _ _ _ (by rw [putL_length]; omega), getI_put _ _ _ (Nat.le_refl _)]
    omega
  · rw [p4, getI_append _ _ _ (by rw [putL_length]; omega), getI_put _ _ _ (Nat.le_refl _)]; omega
  · rw [p6]; simp [getI]
  · rw [p7, getI_append _ _ _ (by rw [putL_length]; omega), getI_put _ _ _ (Nat.le_refl _)]; omega
theorem frag_head (k e : Int) (d r : List Int) (hk : 1 ≤ k) (hn : d.length ≤ 65535) (he : 0 ≤ e ∧ e < 4294967296) : ¬ (fragB k e d ++ r).take 11 = List.replicate 11 0 := by
  intro hz
  obtain ⟨_, _, h, _⟩ := frag_nums k e d r hn he
  rw [num_one] at h
  have e : ((fragB k e d ++ r).take 11).getD 6 0 = (fragB k e d ++ r).getD 6 0 := by simp only [List.getD, List.getElem?_take]; rfl
  rw [hz, h] at e
  have : (0 : Int) = k := e
  omega
theorem frag_got {k e : Int} {d : List Int} (r : List Int) (h : fragOk k d.length = true) (he : 0 ≤ e ∧ e < 4294967296) : fragD (fragB k e d ++ r) e = (⟨k, e, d⟩, 11 + d.length, 0) := by
  have hp := fok_parts h
  obtain ⟨n0, n4, n6, n7⟩ := frag_nums k e d r (by omega) he
  have hl := fragB_length k e d
  have hn : (num (fragB k e d ++ r) 4 2).toNat = d.length := by omega
  have htk : (fragB k e d ++ r).take (11 + d.length) = fragB k e d := List.take_left' hl
  have h5 : num (fragB k e d ++ r) 0 4 = maskS (ofS (((fragB k e d ++ r).take (11 + (num (fragB k e d ++ r) 4 2).toNat)).drop 4)) := by
    rw [hn, htk, n0]
    unfold fragB fragS
    rw [List.drop_left' (by rw [putL_length])]
  rw [fragD_ok (by simp; omega) (frag_head k e d r hp.1 (by omega) he) (by rw [n6, hn]; exact h) n7 (by rw [hn]; simp; omega) h5, n6, n7, hn]
  have hd : ((fragB k e d ++ r).drop 11).take d.length = d := by
    have : (fragB k e d).drop 11 = d := by
      unfold fragB fragT
      rw [← List.append_assoc, List.drop_left' (by simp [putL_length, fragK_length])]
    rw [List.drop_append_of_le_length (by omega), this, List.take_left]
  rw [hd]
end Go.Proofs.YtnmplnemnfonfaaDoor
namespace Go.Proofs.YtnmplnemnfonfaaDoor
open Go.RowKit
set_option maxHeartbeats 400000 in
theorem btw_any (n m : Int) (h : I63 n) (h2 : I63 m) (w : World) : Calls Tryd.prog 68 #[.int .i64 n, .int .i64 m] w fun e w' => e = .returned (.int .i64 (clampI n m)) ∧ w = w' := by
  obtain ⟨_h, _h2⟩ := And.intro h h2
  unfold I63 at _h _h2
  go_enter Tryd.func68, Tryd.ntmps68
  go_wp2
  all_goals (go_ret; refine ⟨ret_int ?_, rfl⟩; unfold clampI; omega)
theorem btw_nat (n m : Int) (k : Nat) (h : I63 n) (h2 : I63 m) (hk : clampI n m = k) (w : World) : Calls Tryd.prog 68 #[.int .i64 n, .int .i64 m] w fun e w' => e = .returned (.int .i64 k) ∧ w = w' :=
  (btw_any n m h h2 w).mono fun _ _ ⟨he, hw⟩ => ⟨by rw [he, hk], hw⟩
def bl (l : List Int) : List Value := l.map (Value.int .u8)
theorem bl_set (l : List Int) (j : Nat) (x : Int) : (bl l).set j (.int .u8 x) = bl (l.set j x) := by simp [bl, List.map_set]
theorem bl_get (l : List Int) (j : Nat) (h : j < l.length) : (bl l)[j]? = some (.int .u8 (l.getD j 0)) := by simp [bl, List.getD, h]
theorem bl_append (a b : List Int) : bl (a ++ b) = bl a ++ bl b := by simp [bl]
set_option maxHeartbeats 800000 in
theorem put_any (n m : Int) (k : Nat) (h2 : I63 m) (hk : clampI m 8 = k) (w : World) :
    Calls Tryd.prog 61 #[.int .u64 n, .int .i64 m] w fun e w' => e = .returned (.slice (some ⟨w.heap.size, 0, none⟩) k k) ∧
      w'.ownsRow w.heap.size 5 1 (.slice (some ⟨w.heap.size, 0, none⟩) k k) k (bl (putL n k)) ∧ Below w.heap.size w w' := by
  obtain ⟨i0, hi, hz0, hz1, hz2⟩ := info_parts Tryd.info_u8
  have hk8 : k ≤ 8 := by unfold clampI at hk; omega
  have HC := Lib.hid hk; clear hk
  have hB2 : i0.bytes * k ≤ 281474976710656 := by rw [hz2]; omega
  have HI := Lib.hid hi; clear hi
  have HZ0 := Lib.hid hz0; clear hz0
  have HZ1 := Lib.hid hz1; clear hz1
  clear hz2
  go_enter Tryd.func61, Tryd.ntmps61
  go_wp2_with (first
    | (go_at_call 68; refine (btw_nat _ _ k h2 (by unfold I63; omega) HC.out _).mono ?_; rintro e w' ⟨rfl, rfl⟩)
    | (at_make; refine wpList_make_full _ rfl (.tmp 9) (.tmp 9) 25 rfl w.heap.size 5 i0 (.int .u8 0) 1 Tryd.underlying25 HI.out HZ0.out HZ1.out .i64 .i64 k k k rfl rfl rfl rfl hB2 (by unfold maxLen; omega) (Nat.le_refl _) ?_; intro w1 hown hgrow))
  have HO := Lib.hid hown; clear hown
  have HB := Lib.hid ((Below.refl w.heap.size w).grown hgrow (Nat.le_refl _) (by simp)); clear hgrow
  go_wp2
  go_loopw [12] (fun i wr => ∃ j : Nat, j ≤ k ∧ i = .int .i64 j ∧ wr.ownsRow w.heap.size 5 1 (.slice (some ⟨w.heap.size, 0, none⟩) k k) k (bl (putP n j k)) ∧ Below w.heap.size w wr) (fun i _ => k - (intOf i).toNat)
  case atStart => exact ⟨0, by omega, rfl, by have := HO.out; rw [Nat.mul_one, show (Value.int IntKind.u8 0).cells = #[.int .u8 0] from rfl, toList_madeCells_one] at this; rw [putP_zero]; simpa [bl] using this, HB.out⟩
  case round =>
    obtain ⟨j, hj, rfl, ho, hb⟩ := hrel
    by_cases hlt : j < k
    · have hcell : wr.cell? ⟨w.heap.size, j, none⟩ = some (.int .u8 ((putP n j k).getD j 0)) := by
        rw [ho.cellAt j (by omega), bl_get _ _ (by simp [putP]; omega)]
      have hfr : wr.frozen? ⟨w.heap.size, j, none⟩ = false := ho.frozenAt j
      have HO := Lib.hid ho; clear ho
      have HB := Lib.hid hb; clear hb
      go_wp2
      go_roundw
      case rel => exact ⟨j + 1, by omega, by go_num, by rw [← putP_succ, ← bl_set]; exact (HO.out.stored j _).1, HB.out.setCell (Nat.le_refl _) _⟩
      case measure => simp [intOf]; omega
    · go_wp2
      go_ret
      have e : j = k := by omega
      subst e
      exact ⟨rfl, by rw [← putP_full]; exact ho, hb⟩
theorem div_step (n : Int) (j : Nat) : n / 2 ^ (8 * j) / 256 = n / 2 ^ (8 * (j + 1)) := by
  rw [Int.ediv_ediv_of_nonneg (Int.le_of_lt (pow_pos' _)), show 8 * (j + 1) = 8 * j + 8 from by omega, Int.pow_add]; rfl
set_option maxRecDepth 20000 in
set_option maxHeartbeats 800000 in
theorem rput_any (n m : Int) (k : Nat) (h : U64 n) (h2 : I63 m) (hk : clampI m 8 = k) (w : World) :
    Calls Tryd.prog 57 #[.int .u64 n, .int .i64 m] w fun e w' => ∃ v, e = .returned v ∧
      w'.ownsRow w.heap.size 5 1 v k (bl (putL n k)) ∧ Below w.heap.size w w' := by
  unfold U64 at h
  unfold I63 at h2
  obtain ⟨i0, hi, hz0, hz1, hz2⟩ := info_parts Tryd.info_u8
  have hk1 : k ≤ 8 := by unfold clampI at hk; omega
  have hk2 : ∀ j : Nat, j < k → (j : Int) < m ∧ (j : Int) < 8 := by unfold clampI at hk; omega
  have hk3 : ∀ j : Nat, k ≤ j → m ≤ (j : Int) ∨ ((j : Int) < m ∧ 8 ≤ (j : Int)) := by unfold clampI at hk; omega
  clear hk
  have HI := Lib.hid hi; clear hi
  have HZ0 := Lib.hid hz0; clear hz0
  have HZ1 := Lib.hid hz1; clear hz1
  have HZ2 := Lib.hid hz2; clear hz2
  go_enter Tryd.func57, Tryd.ntmps57
  go_wp2
  go_loopw [0, 5, 6] (fun nn v i wr => ∃ j : Nat, j ≤ k ∧ i = .int .i64 j ∧ nn = .int .u64 (n / 2 ^ (8 * j)) ∧ wr.ownsRow w.heap.size 5 1 v j (bl (putL n j)) ∧ Below w.heap.size w wr) (fun _ _ i _ => k - (intOf i).toNat)
  case atStart => exact ⟨0, by omega, rfl, by simp, World.ownsRow_nil _ _ _ _, Below.refl _ _⟩
  case round =>
    obtain ⟨j, hj, rfl, rfl, ho, hb⟩ := hrel
    have hx : 0 ≤ n / 2 ^ (8 * j) := Int.ediv_nonneg h.1 (Int.le_of_lt (pow_pos' _))
    have hx2 : n / 2 ^ (8 * j) ≤ n := Int.ediv_le_self _ h.1
    have HO := Lib.hid ho; clear ho
    have HB := Lib.hid hb; clear hb
    by_cases hlt : j < k
    · obtain ⟨g1, g2⟩ := hk2 j hlt
      clear hk2 hk3
      go_wp2_with (first
        | (at_builtin; refine wpList_append_own _ rfl (.tmp 16) (.tmp 20) 25 rfl w.heap.size 5 i0 (.int .u8 0) 1 1 Tryd.underlying25 HI.out HZ0.out HZ1.out HZ2.out rfl (by decide) _ _ _ rfl (HO.out.alloc _) ⟨wr.heap.size, 0, none⟩ 1 1 (bl [n / 2 ^ (8 * j) % 256]) rfl rfl ?c1 ?c2 ?c3 ?c4 ?c5 ?_))
      case c1 =>
        intro i u hi
        match i, hi with
        | 0, hi => simp [bl] at hi; subst hi; simp [Addr.add]
      case c2 => intro u hu; simp [bl] at hu; subst hu; rfl
      case c3 => unfold maxLen; omega
      case c4 => omega
      case c5 => have := HB.out.size; simp; omega
      intro v' w1 hown' hgrow _
      have HO1 := Lib.hid (show w1.ownsRow w.heap.size 5 1 v' (j + 1) (bl (putL n (j + 1))) by rw [putL_succ, bl_append]; exact hown')
      have HB1 := Lib.hid ((HB.out.alloc HB.out.size _).grown hgrow (by have := HB.out.size; simp; omega) (fun q hq => (HO.out.lt q hq).1))
      clear hown' hgrow
      go_wp2
      go_roundw
      case rel => exact ⟨j + 1, by omega, by go_num, by rw [div_step], HO1.out, HB1.out⟩
      case measure => simp [intOf]; omega
    · rcases hk3 j (by omega) with g1 | ⟨g1, g2⟩
      all_goals
        clear hk2 hk3
        go_wp2
        go_ret
        have e : j = k := by omega
        subst e
        exact ⟨_, rfl, HO.out, HB.out⟩
end Go.Proofs.YtnmplnemnfonfaaDoor
