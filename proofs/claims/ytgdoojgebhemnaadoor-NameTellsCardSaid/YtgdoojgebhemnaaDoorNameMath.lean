/-
  PLAIN MATHEMATICS OF LAYER 5 (name): which text is a number's live and free name, which texts are names, what a text is parsed as. Lists of bytes alone; nothing here speaks of the program. No condition.
-/
import Derived.Test.YtgdoojgebhemnaaDoorBase
import Derived.Lib.AtoiTie
import Derived.Lib.AtoiAllCases
import Derived.Lib.ItoaLen
import Derived.Lib.ItoaMem
import Derived.Lib.Bytealg
import Derived.Lib.Strings
namespace Go.Proofs.YtgdoojgebhemnaaDoor
open Go.Lib
/-! digits -/
theorem decFrom_append : ∀ (a b : List UInt8) (acc : Nat), decFrom acc (a ++ b) = (decFrom acc a).bind fun m => decFrom m b
  | [], b, acc => by simp [decFrom]
  | x :: a, b, acc => by
    simp only [List.cons_append, decFrom]
    cases digitVal x with
    | none => rfl
    | some d => exact decFrom_append a b _
theorem digitVal_of {d : Nat} (h : d < 10) : digitVal (UInt8.ofNat (48 + d)) = some d := by
  unfold digitVal
  rw [UInt8.toNat_ofNat', show (48 + d) % 2 ^ 8 = 48 + d from by omega, if_pos (by omega)]
  congr 1; omega
theorem decFrom_dec : ∀ u : Nat, decFrom 0 (decDigits u) = some u := by
  intro u
  induction u using Nat.strongRecOn with
  | _ u ih =>
    rw [decDigits]
    by_cases h : u < 10
    · rw [dif_pos h]; simp only [decFrom, digitVal_of h, Nat.zero_mul, Nat.zero_add]
    · rw [dif_neg h, decFrom_append, ih (u / 10) (by omega)]
      simp only [Option.bind_some, decFrom, digitVal_of (show u % 10 < 10 from by omega)]
      congr 1; omega
theorem dec_ne (u : Nat) : decDigits u ≠ [] := by
  intro h
  have h1 := decDigits_length u
  have h2 := nDigits_pos u
  rw [h] at h1; simp at h1; omega
theorem dec_inj {u v : Nat} (h : decDigits u = decDigits v) : u = v := by
  have h1 := decFrom_dec u
  rw [h, decFrom_dec] at h1
  exact (Option.some.inj h1).symm
/-- each byte is a digit -/
theorem dec_digit (u : Nat) : ∀ x ∈ decDigits u, 48 ≤ x.toNat ∧ x.toNat ≤ 57 := by
  intro x hx
  obtain ⟨j, hj, rfl⟩ := List.getElem_of_mem hx
  obtain ⟨d, hd⟩ := digit_of_decFrom (decDigits u) 0 u (decFrom_dec u) j (decDigits u)[j] (by simp)
  have := digitVal_eq hd
  omega
theorem nDigits_le (k : Nat) : ∀ u : Nat, u < 10 ^ (k + 1) → nDigits u ≤ k + 1 := by
  induction k with
  | zero => intro u h; rw [nDigits_small (by simpa using h)]; omega
  | succ k ih =>
    intro u h
    by_cases h0 : u < 10
    · rw [nDigits_small h0]; omega
    · rw [nDigits_big h0]
      have : u / 10 < 10 ^ (k + 1) := by
        rw [Nat.div_lt_iff_lt_mul (by omega)]
        rw [show k + 1 + 1 = (k + 1) + 1 from rfl, Nat.pow_succ] at h
        exact h
      have := ih (u / 10) this
      omega
theorem itoa_nat (u : Nat) : itoa (u : Int) = decDigits u := itoa_nonneg u
theorem atoiAll_dec (u : Nat) (h : u < 10000000000) : atoiAll (decDigits u) = .ok (u : Int) := by
  have hl : (decDigits u).length ≤ 18 := by
    rw [decDigits_length]
    have := nDigits_le 9 u (by simpa using h)
    omega
  rw [atoiAll_short _ hl]
  have hne := dec_ne u
  have hd := dec_digit u
  have hf := decFrom_dec u
  generalize decDigits u = l at *
  cases l with
  | nil => exact absurd rfl hne
  | cons b r =>
    have hb := hd b (by simp)
    have e1 : (b == 45) = false := by
      rw [beq_eq_false_iff_ne]; intro e; subst e; simp at hb
    have e2 : (b == 43) = false := by
      rw [beq_eq_false_iff_ne]; intro e; subst e; simp at hb
    simp only [atoi, e1, e2, Bool.false_eq_true, if_false, decNat, List.isEmpty_cons, hf, Option.map_some, NumEnd.ofOption]
/-! names -/
/-- is a byte one that a name may have? -/
def okb (x : UInt8) : Bool := decide (97 ≤ x.toNat ∧ x.toNat ≤ 122 ∨ 48 ≤ x.toNat ∧ x.toNat ≤ 57 ∨ x.toNat = 45)
/-- is a text a name? -/
def nameN (l : List UInt8) : Bool := decide (0 < l.length) && decide (l.length ≤ 24) && l.all okb
/-- a number's live name -/
def walN (n : Int) : List UInt8 := if 1 ≤ n ∧ n ≤ 2147483647 then 119 :: 97 :: 108 :: 45 :: itoa n else []
/-- a number's free name -/
def poolN (n : Int) : List UInt8 := if 0 ≤ n ∧ n ≤ 2 then 102 :: 114 :: 101 :: 101 :: 45 :: itoa n else []
theorem walN_in {n : Int} (h1 : 1 ≤ n) (h2 : n ≤ 2147483647) : walN n = 119 :: 97 :: 108 :: 45 :: itoa n := if_pos ⟨h1, h2⟩
theorem poolN_in {n : Int} (h1 : 0 ≤ n) (h2 : n ≤ 2) : poolN n = 102 :: 114 :: 101 :: 101 :: 45 :: itoa n := if_pos ⟨h1, h2⟩
theorem walN_out {n : Int} (h : ¬ (1 ≤ n ∧ n ≤ 2147483647)) : walN n = [] := if_neg h
theorem poolN_out {n : Int} (h : ¬ (0 ≤ n ∧ n ≤ 2)) : poolN n = [] := if_neg h
/-- is a text a live name, or a free one? -/
def isW (l : List UInt8) : Prop := ∃ n : Int, 1 ≤ n ∧ n ≤ 2147483647 ∧ l = walN n
def isP (l : List UInt8) : Prop := ∃ n : Int, 0 ≤ n ∧ n ≤ 2 ∧ l = poolN n
/-- what a text is parsed as -/
def parsed (l : List UInt8) (k n : Int) : Prop := (k = 2 ∧ 0 ≤ n ∧ n ≤ 2 ∧ l = poolN n) ∨ (k = 1 ∧ 1 ≤ n ∧ n ≤ 2147483647 ∧ l = walN n) ∨ (k = 0 ∧ n = 0 ∧ ¬ isW l ∧ ¬ isP l)
theorem walN_inj {m n : Int} (h1 : 1 ≤ m) (h2 : m ≤ 2147483647) (h3 : 1 ≤ n) (h4 : n ≤ 2147483647) (h : walN m = walN n) : m = n := by
  rw [walN_in h1 h2, walN_in h3 h4] at h
  simp only [List.cons.injEq, true_and] at h
  obtain ⟨a, rfl⟩ : ∃ a : Nat, m = a := ⟨m.toNat, by omega⟩
  obtain ⟨b, rfl⟩ : ∃ a : Nat, n = a := ⟨n.toNat, by omega⟩
  rw [itoa_nat, itoa_nat] at h
  rw [dec_inj h]
theorem poolN_inj {m n : Int} (h1 : 0 ≤ m) (h2 : m ≤ 2) (h3 : 0 ≤ n) (h4 : n ≤ 2) (h : poolN m = poolN n) : m = n := by
  rw [poolN_in h1 h2, poolN_in h3 h4] at h
  simp only [List.cons.injEq, true_and] at h
  obtain ⟨a, rfl⟩ : ∃ a : Nat, m = a := ⟨m.toNat, by omega⟩
  obtain ⟨b, rfl⟩ : ∃ a : Nat, n = a := ⟨n.toNat, by omega⟩
  rw [itoa_nat, itoa_nat] at h
  rw [dec_inj h]
theorem pool_ne_wal {m n : Int} (h1 : 0 ≤ m) (h2 : m ≤ 2) (h3 : 1 ≤ n) (h4 : n ≤ 2147483647) : poolN m ≠ walN n := by
  rw [poolN_in h1 h2, walN_in h3 h4]
  intro h
  simp at h
/-- one answer -/
theorem parsed_one {l : List UInt8} {k n j m : Int} (h1 : parsed l k n) (h2 : parsed l j m) : k = j ∧ n = m := by
  rcases h1 with ⟨rfl, a1, a2, rfl⟩ | ⟨rfl, a1, a2, rfl⟩ | ⟨rfl, rfl, a1, a2⟩
  · rcases h2 with ⟨rfl, b1, b2, e⟩ | ⟨rfl, b1, b2, e⟩ | ⟨rfl, rfl, b1, b2⟩
    · exact ⟨rfl, poolN_inj a1 a2 b1 b2 e⟩
    · exact absurd e (pool_ne_wal a1 a2 b1 b2)
    · exact absurd ⟨n, a1, a2, rfl⟩ b2
  · rcases h2 with ⟨rfl, b1, b2, e⟩ | ⟨rfl, b1, b2, e⟩ | ⟨rfl, rfl, b1, b2⟩
    · exact absurd e.symm (pool_ne_wal b1 b2 a1 a2)
    · exact ⟨rfl, walN_inj a1 a2 b1 b2 e⟩
    · exact absurd ⟨n, a1, a2, rfl⟩ b1
  · rcases h2 with ⟨rfl, b1, b2, e⟩ | ⟨rfl, b1, b2, e⟩ | ⟨rfl, rfl, b1, b2⟩
    · exact absurd ⟨_, b1, b2, e⟩ a2
    · exact absurd ⟨_, b1, b2, e⟩ a1
    · exact ⟨rfl, rfl⟩
/-! the cut at the first minus -/
theorem idx_pool {n : Int} (h1 : 0 ≤ n) (h2 : n ≤ 2) : indexByte (poolN n) 45 = 4 ∧ (poolN n).take 4 = [102, 114, 101, 101] ∧ (poolN n).drop 5 = itoa n := by
  rw [poolN_in h1 h2]
  refine ⟨?_, rfl, rfl⟩
  simp [indexByte]
theorem idx_wal {n : Int} (h1 : 1 ≤ n) (h2 : n ≤ 2147483647) : indexByte (walN n) 45 = 3 ∧ (walN n).take 3 = [119, 97, 108] ∧ (walN n).drop 4 = itoa n := by
  rw [walN_in h1 h2]
  refine ⟨?_, rfl, rfl⟩
  simp [indexByte]
/-- what stands ahead of the first minus, and behind it -/
def headN (l : List UInt8) : List UInt8 := if indexByte l 45 < 0 then l else l.take (indexByte l 45).toNat
def restN (l : List UInt8) : List UInt8 := if indexByte l 45 < 0 then [] else l.drop ((indexByte l 45).toNat + 1)
theorem head_pool {n : Int} (h1 : 0 ≤ n) (h2 : n ≤ 2) : headN (poolN n) = [102, 114, 101, 101] ∧ restN (poolN n) = itoa n := by
  obtain ⟨e1, e2, e3⟩ := idx_pool h1 h2
  unfold headN restN
  rw [e1]
  exact ⟨by simpa using e2, by simpa using e3⟩
theorem head_wal {n : Int} (h1 : 1 ≤ n) (h2 : n ≤ 2147483647) : headN (walN n) = [119, 97, 108] ∧ restN (walN n) = itoa n := by
  obtain ⟨e1, e2, e3⟩ := idx_wal h1 h2
  unfold headN restN
  rw [e1]
  exact ⟨by simpa using e2, by simpa using e3⟩
theorem rest_pool {n : Int} (h1 : 0 ≤ n) (h2 : n ≤ 2) : atoiAll (restN (poolN n)) = .ok n := by
  rw [(head_pool h1 h2).2]
  obtain ⟨a, rfl⟩ : ∃ a : Nat, n = a := ⟨n.toNat, by omega⟩
  rw [itoa_nat]
  exact atoiAll_dec a (by omega)
theorem rest_wal {n : Int} (h1 : 1 ≤ n) (h2 : n ≤ 2147483647) : atoiAll (restN (walN n)) = .ok n := by
  rw [(head_wal h1 h2).2]
  obtain ⟨a, rfl⟩ : ∃ a : Nat, n = a := ⟨n.toNat, by omega⟩
  rw [itoa_nat]
  exact atoiAll_dec a (by omega)
/-! what the program's Parse finds -/
theorem parse_other {l : List UInt8} (h1 : headN l ≠ [102, 114, 101, 101]) (h2 : headN l ≠ [119, 97, 108]) : parsed l 0 0 := by
  refine .inr (.inr ⟨rfl, rfl, ?_, ?_⟩)
  · rintro ⟨n, a, b, rfl⟩; exact h2 (head_wal a b).1
  · rintro ⟨n, a, b, rfl⟩; exact h1 (head_pool a b).1
theorem parse_none {l : List UInt8} (h : ∀ v, atoiAll (restN l) ≠ .ok v) : parsed l 0 0 := by
  refine .inr (.inr ⟨rfl, rfl, ?_, ?_⟩)
  · rintro ⟨n, a, b, rfl⟩; exact h n (rest_wal a b)
  · rintro ⟨n, a, b, rfl⟩; exact h n (rest_pool a b)
theorem parse_free_hit {l : List UInt8} {v : Int} (h0 : headN l = [102, 114, 101, 101]) (h : poolN v = l) : parsed l 2 v := by
  by_cases hv : 0 ≤ v ∧ v ≤ 2
  · exact .inl ⟨rfl, hv.1, hv.2, h.symm⟩
  · rw [poolN_out hv] at h
    subst h
    exact absurd h0 (by simp [headN, indexByte])
theorem parse_free_miss {l : List UInt8} {v : Int} (h0 : headN l = [102, 114, 101, 101]) (ha : atoiAll (restN l) = .ok v) (h : poolN v ≠ l) : parsed l 0 0 := by
  refine .inr (.inr ⟨rfl, rfl, ?_, ?_⟩)
  · rintro ⟨n, a, b, rfl⟩; rw [(head_wal a b).1] at h0; simp at h0
  · rintro ⟨n, a, b, rfl⟩
    rw [rest_pool a b] at ha
    injection ha with ha
    exact h (by rw [ha])
theorem parse_wal_hit {l : List UInt8} {v : Int} (h0 : headN l = [119, 97, 108]) (h : walN v = l) : parsed l 1 v := by
  by_cases hv : 1 ≤ v ∧ v ≤ 2147483647
  · exact .inr (.inl ⟨rfl, hv.1, hv.2, h.symm⟩)
  · rw [walN_out hv] at h
    subst h
    exact absurd h0 (by simp [headN, indexByte])
theorem parse_wal_miss {l : List UInt8} {v : Int} (h0 : headN l = [119, 97, 108]) (ha : atoiAll (restN l) = .ok v) (h : walN v ≠ l) : parsed l 0 0 := by
  refine .inr (.inr ⟨rfl, rfl, ?_, ?_⟩)
  · rintro ⟨n, a, b, rfl⟩
    rw [rest_wal a b] at ha
    injection ha with ha
    exact h (by rw [ha])
  · rintro ⟨n, a, b, rfl⟩; rw [(head_pool a b).1] at h0; simp at h0
/-! what the reference's Parse finds -/
theorem not_pool {l : List UInt8} (h0 : poolN 0 ≠ l) (h1 : poolN 1 ≠ l) (h2 : poolN 2 ≠ l) : ¬ isP l := by
  rintro ⟨n, a, b, rfl⟩
  have : n = 0 ∨ n = 1 ∨ n = 2 := by omega
  rcases this with rfl | rfl | rfl
  · exact h0 rfl
  · exact h1 rfl
  · exact h2 rfl
theorem wal_form {l : List UInt8} (h : isW l) : 5 ≤ l.length ∧ l.length ≤ 14 ∧ l.take 4 = [119, 97, 108, 45] ∧ (∀ x ∈ l.drop 4, 48 ≤ x.toNat ∧ x.toNat ≤ 57) ∧ ∃ u : Nat, decFrom 0 (l.drop 4) = some u ∧ l = walN u := by
  obtain ⟨n, a, b, rfl⟩ := h
  obtain ⟨u, rfl⟩ : ∃ u : Nat, n = u := ⟨n.toNat, by omega⟩
  have e : walN (u : Int) = 119 :: 97 :: 108 :: 45 :: decDigits u := by rw [walN_in a b, itoa_nat]
  have h1 := nDigits_pos u
  have h2 := nDigits_le 9 u (show u < 10 ^ 10 from by omega)
  rw [e]
  refine ⟨by simp [decDigits_length]; omega, by simp [decDigits_length]; omega, rfl, ?_, u, ?_, e.symm⟩
  · simpa using dec_digit u
  · simpa using decFrom_dec u
theorem ref_none {l : List UInt8} (hp : ¬ isP l) (h : ¬ isW l) : parsed l 0 0 := .inr (.inr ⟨rfl, rfl, h, hp⟩)
theorem ref_hit {l : List UInt8} (u : Nat) (h5 : l ≠ []) (h : walN u = l) : parsed l 1 u := by
  by_cases hv : 1 ≤ (u : Int) ∧ (u : Int) ≤ 2147483647
  · exact .inr (.inl ⟨rfl, hv.1, hv.2, h.symm⟩)
  · rw [walN_out hv] at h
    exact absurd h.symm h5
theorem ref_miss {l : List UInt8} (u : Nat) (hd : decFrom 0 (l.drop 4) = some u) (h : walN u ≠ l) : ¬ isW l := by
  intro hw
  obtain ⟨_, _, _, _, v, hv, e⟩ := wal_form hw
  rw [hd] at hv
  obtain rfl := Option.some.inj hv
  exact h e.symm
/-! names are names -/
theorem okb_digit {x : UInt8} (h : 48 ≤ x.toNat ∧ x.toNat ≤ 57) : okb x = true := by
  unfold okb; exact decide_eq_true (.inr (.inl h))
theorem name_wal {n : Int} (h1 : 1 ≤ n) (h2 : n ≤ 2147483647) : nameN (walN n) = true := by
  obtain ⟨u, rfl⟩ : ∃ u : Nat, n = u := ⟨n.toNat, by omega⟩
  have h4 := nDigits_le 9 u (show u < 10 ^ 10 from by omega)
  rw [walN_in h1 h2, itoa_nat]
  unfold nameN
  simp only [Bool.and_eq_true, decide_eq_true_eq, List.length_cons, decDigits_length, List.all_cons, List.all_eq_true]
  exact ⟨⟨by omega, by omega⟩, by decide, by decide, by decide, by decide, fun x hx => okb_digit (dec_digit u x hx)⟩
theorem name_pool {n : Int} (h1 : 0 ≤ n) (h2 : n ≤ 2) : nameN (poolN n) = true := by
  obtain ⟨u, rfl⟩ : ∃ u : Nat, n = u := ⟨n.toNat, by omega⟩
  have h4 := nDigits_le 9 u (show u < 10 ^ 10 from by omega)
  rw [poolN_in h1 h2, itoa_nat]
  unfold nameN
  simp only [Bool.and_eq_true, decide_eq_true_eq, List.length_cons, decDigits_length, List.all_cons, List.all_eq_true]
  exact ⟨⟨by omega, by omega⟩, by decide, by decide, by decide, by decide, by decide, fun x hx => okb_digit (dec_digit u x hx)⟩
theorem itoa_short {n : Int} (h1 : -9223372036854775808 ≤ n) (h2 : n ≤ 9223372036854775807) : (itoa n).length ≤ 21 := itoa_length_le n h1 h2
/-- the bytes that a name may have, listed -/
theorem okb_list (x : UInt8) : okb x = decide (x ∈ ([97, 98, 99, 100, 101, 102, 103, 104, 105, 106, 107, 108, 109, 110, 111, 112, 113, 114, 115, 116, 117, 118, 119, 120, 121, 122, 48, 49, 50, 51, 52, 53, 54, 55, 56, 57, 45] : List UInt8)) := by
  have h : ∀ i : Fin 256, okb (UInt8.ofNat i.val) = decide (UInt8.ofNat i.val ∈ ([97, 98, 99, 100, 101, 102, 103, 104, 105, 106, 107, 108, 109, 110, 111, 112, 113, 114, 115, 116, 117, 118, 119, 120, 121, 122, 48, 49, 50, 51, 52, 53, 54, 55, 56, 57, 45] : List UInt8)) := by decide +kernel
  have h2 := h ⟨x.toNat, x.toNat_lt⟩
  simpa using h2
theorem digit_list (x : UInt8) : decide (x ∈ ([48, 49, 50, 51, 52, 53, 54, 55, 56, 57] : List UInt8)) = decide (48 ≤ x.toNat ∧ x.toNat ≤ 57) := by
  have h : ∀ i : Fin 256, decide (UInt8.ofNat i.val ∈ ([48, 49, 50, 51, 52, 53, 54, 55, 56, 57] : List UInt8)) = decide (48 ≤ (UInt8.ofNat i.val).toNat ∧ (UInt8.ofNat i.val).toNat ≤ 57) := by decide +kernel
  have h2 := h ⟨x.toNat, x.toNat_lt⟩
  simpa using h2
/-! the reference's Digits -/
theorem itoa_split (n : Int) (h : 10 ≤ n) : itoa n = itoa (n.tdiv 10) ++ itoa (n.tmod 10) := by
  obtain ⟨u, rfl⟩ : ∃ u : Nat, n = u := ⟨n.toNat, by omega⟩
  have e1 : (u : Int).tdiv 10 = ((u / 10 : Nat) : Int) := by simp
  have e2 : (u : Int).tmod 10 = ((u % 10 : Nat) : Int) := by rw [Int.tmod_eq_emod_of_nonneg (by omega)]; simp
  rw [e1, e2, itoa_nat, itoa_nat, itoa_nat]
  conv => lhs; rw [decDigits]
  rw [dif_neg (by omega), decDigits_one (show u % 10 < 10 from by omega)]
theorem itoa_split_neg (n : Int) (h : n ≤ -10) : itoa n = itoa (n.tdiv 10) ++ itoa (-(n.tmod 10)) := by
  obtain ⟨u, rfl⟩ : ∃ u : Nat, n = -(u : Int) := ⟨(-n).toNat, by omega⟩
  have e1 : (-(u : Int)).tdiv 10 = -((u / 10 : Nat) : Int) := by rw [Int.neg_tdiv]; simp
  have e2 : -((-(u : Int)).tmod 10) = ((u % 10 : Nat) : Int) := by rw [Int.neg_tmod, Int.tmod_eq_emod_of_nonneg (by omega)]; simp
  rw [e1, e2, itoa_neg u (by omega), itoa_neg (u / 10) (by omega), itoa_nat]
  conv => lhs; rw [decDigits]
  rw [dif_neg (by omega), decDigits_one (show u % 10 < 10 from by omega)]
  rfl
theorem itoa_neg_one (n : Int) (h0 : n < 0) (h : -10 < n) : itoa n = 45 :: itoa (-(n.tmod 10)) := by
  obtain ⟨u, rfl⟩ : ∃ u : Nat, n = -(u : Int) := ⟨(-n).toNat, by omega⟩
  have e2 : -((-(u : Int)).tmod 10) = ((u % 10 : Nat) : Int) := by rw [Int.neg_tmod, Int.tmod_eq_emod_of_nonneg (by omega)]; simp
  rw [e2, itoa_neg u (by omega), itoa_nat, Nat.mod_eq_of_lt (by omega)]
/-- division by ten, of what isn't above 0 and of what isn't below -/
theorem div_ten_neg (n : Int) (h : n ≤ 0) : ∃ u : Nat, n = -(u : Int) ∧ n.tdiv 10 = -((u / 10 : Nat) : Int) ∧ n.tmod 10 = -((u % 10 : Nat) : Int) := by
  obtain ⟨u, rfl⟩ : ∃ u : Nat, n = -(u : Int) := ⟨(-n).toNat, by omega⟩
  refine ⟨u, rfl, ?_, ?_⟩
  · rw [Int.neg_tdiv]; simp
  · rw [Int.neg_tmod, Int.tmod_eq_emod_of_nonneg (by omega)]; simp
theorem div_ten (n : Int) (h : 0 ≤ n) : ∃ u : Nat, n = u ∧ n.tdiv 10 = ((u / 10 : Nat) : Int) ∧ n.tmod 10 = ((u % 10 : Nat) : Int) := by
  obtain ⟨u, rfl⟩ : ∃ u : Nat, n = u := ⟨n.toNat, by omega⟩
  refine ⟨u, rfl, by simp, ?_⟩
  rw [Int.tmod_eq_emod_of_nonneg (by omega)]; simp
/-! texts -/
theorem text_eq {a b : ByteArray} : (a.toList == b.toList) = decide (a.data.toList = b.data.toList) := by
  rw [toList_data, toList_data]
  by_cases h : a.data.toList = b.data.toList
  · simp [h]
  · rw [decide_eq_false h, beq_eq_false_iff_ne]; exact h
end Go.Proofs.YtgdoojgebhemnaaDoor
