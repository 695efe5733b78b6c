/-
  TEXTS JOINED: HeadOpen, PoolMath, NameMath, SegMath, Digits, PoolCode, NameCode. Each one's own words stand at its head.
-/
import Derived.Test.YtpoiapfgbbmekaaGreatDoorJ7
import Derived.Test.YtpoiapfgbbmekaaGreatDoorJ11
import Derived.Test.YtpoiapfgbbmekaaGreatDoorJ4
import Derived.Test.YtpoiapfgbbmekaaGreatDoorJ2
import Derived.Lib.AtoiTie
import Derived.Lib.AtoiAllCases
import Derived.Lib.ItoaLen
import Derived.Lib.ItoaMem
import Derived.Lib.Bytealg
import Derived.Lib.Strings
import Derived.Test.YtpoiapfgbbmekaaGreatDoorJ0
import Derived.WalkLawsBesides
import Derived.WalkSpells
import Derived.Test.YtpoiapfgbbmekaaGreatDoorJ5
import Derived.Stop.LaidErr
import Derived.Shelf.Strconv.ErrVarAll
namespace Go.Proofs.YtpoiapfgbbmekaaGreatDoor
open Go.RowKit Go.ChangeShapes Go.WideShapes
section
variable {H : Type} {enc : TypeId × Value → H} {W : World}
theorem rdc_array_ints {P : Program} {t e : TypeId} {k : IntKind} {n : Nat} {cs : List Value} {d : DataW H} (ht : P.underlying t = some (.array n e)) (he : P.underlying e = some (.int k)) (hc : P.cellsOf e = 1) (hn : P.cellsOf t = n) (h : RdC enc P W t cs d) :
    ∃ zs : List Int, cs = il k zs ∧ zs.length = n ∧ ∀ x ∈ zs, (Lit.int k x).wf = true := by
  obtain ⟨f, p, hf⟩ := h
  obtain ⟨xs, m, _, hx, hl, hxl, hel⟩ := DataW.trod_array ht hf
  rw [hn] at hl
  have h1 : ∀ i (hi : i < cs.length), ∃ x, cs[i] = .int k x ∧ (Lit.int k x).wf = true := fun i hi => by
    have h2 := hel i (by omega)
    rw [hc, Nat.mul_one, List.take_one, List.head?_drop, List.getElem?_eq_getElem hi, List.getElem?_eq_getElem (by omega)] at h2
    obtain ⟨x, hx, _, hw⟩ := DataW.trod_int he h2
    exact ⟨x, by simpa using hx, hw⟩
  refine ⟨cs.map intOf, ?_, by simpa using hl, fun x hx => ?_⟩
  · refine List.ext_getElem (by simp [il]) fun i h2 h3 => ?_
    obtain ⟨x, hx, _⟩ := h1 i h2
    simp [il, hx, intOf]
  · obtain ⟨c, hc1, rfl⟩ := List.mem_map.1 hx
    obtain ⟨i, hi, rfl⟩ := List.getElem_of_mem hc1
    obtain ⟨y, hy, hw⟩ := h1 i hi
    rw [hy]; exact hw
theorem c_u64 : Tryz.prog.cellsOf 31 = 1 := by kernel_rfl
theorem hc_int : Tryz.prog.cellsOf 3 = 1 := by kernel_rfl
theorem c_l4 : Tryz.prog.cellsOf 32 = 4 := by kernel_rfl
theorem c_hd : Tryz.prog.cellsOf 34 = 7 := by kernel_rfl
set_option maxRecDepth 8000 in
theorem rdc_hd {cs : List Value} {d : DataW H} (h : RdC enc Tryz.prog W 34 cs d) : ∃ g : Hdr, cs.toArray = hv g ∧ HdT g := by
  obtain ⟨ds, rfl, hn, hl, hf⟩ := rdc_struct Tryz.underlying34 h
  rw [c_hd] at hl
  have hn4 : ds.length = 4 := hn
  match cs, hl, ds, hn4, hf with
  | [a0, a1, a2, a3, a4, a5, a6], _, [x0, x1, x2, x3], _, hf =>
    have h0 : RdC enc Tryz.prog W 31 (([a0, a1, a2, a3, a4, a5, a6].drop 0).take (Tryz.prog.cellsOf 31)) x0 := hf 0 _ _ rfl rfl
    rw [c_u64] at h0
    have h1 : RdC enc Tryz.prog W 3 (([a0, a1, a2, a3, a4, a5, a6].drop 1).take (Tryz.prog.cellsOf 3)) x1 := hf 1 _ _ rfl rfl
    rw [hc_int] at h1
    have h2 : RdC enc Tryz.prog W 3 (([a0, a1, a2, a3, a4, a5, a6].drop 2).take (Tryz.prog.cellsOf 3)) x2 := hf 2 _ _ rfl rfl
    rw [hc_int] at h2
    have h3 : RdC enc Tryz.prog W 32 (([a0, a1, a2, a3, a4, a5, a6].drop 3).take (Tryz.prog.cellsOf 32)) x3 := hf 3 _ _ rfl rfl
    rw [c_l4] at h3
    obtain ⟨e, e0, _, w0⟩ := rdc_int (cs := [a0]) Tryz.underlying31 h0
    obtain ⟨s, e1, _, w1⟩ := rdc_int (cs := [a1]) Tryz.underlying3 h1
    obtain ⟨f, e2, _, w2⟩ := rdc_int (cs := [a2]) Tryz.underlying3 h2
    obtain ⟨l, e3, hl4, w3⟩ := rdc_array_ints (cs := [a3, a4, a5, a6]) Tryz.underlying32 Tryz.underlying3 hc_int c_l4 h3
    simp only [List.cons.injEq, and_true] at e0 e1 e2
    subst e0; subst e1; subst e2
    exact ⟨⟨e, s, f, l⟩, by unfold hv; dsimp only; rw [← e3], ⟨u64_of w0, i63_of w1, i63_of w2, hl4, fun x hx => i63_of (w3 x hx)⟩⟩
end
end Go.Proofs.YtpoiapfgbbmekaaGreatDoor
namespace Go.Proofs.YtpoiapfgbbmekaaGreatDoor
open Go.RowKit
def szI (d : AD) (s : ByteArray) : Int := if d.has s then ((d.get s).n : Int) else 0
abbrev noS : ByteArray := ⟨#[]⟩
abbrev fr0 : ByteArray := ⟨#[102, 114, 101, 101, 45, 48]⟩
abbrev fr1 : ByteArray := ⟨#[102, 114, 101, 101, 45, 49]⟩
abbrev fr2 : ByteArray := ⟨#[102, 114, 101, 101, 45, 50]⟩
def frN (k : Nat) : ByteArray := if k = 0 then fr0 else if k = 1 then fr1 else fr2
def firstI (d : AD) (n : Int) : ByteArray := if szI d fr1 = n then fr1 else if szI d fr2 = n then fr2 else noS
def AD.takeR (d : AD) : AD × ByteArray × Int :=
  if d.down = true then (d, noS, 9) else if firstI d 17 ≠ noS then (d, firstI d 17, 0) else if firstI d 0 = noS then (d, noS, 6)
  else if (d.makeR (firstI d 0) 17).2 = 0 then ((d.makeR (firstI d 0) 17).1, firstI d 0, 0) else ((d.makeR (firstI d 0) 17).1, noS, (d.makeR (firstI d 0) 17).2)
theorem sz_le {d : AD} (h : Good d) (s : ByteArray) : 0 ≤ szI d s ∧ szI d s ≤ 64 := by
  unfold szI
  split
  · rename_i hh
    have := (h.file _ (get_mem hh)).n64
    omega
  · omega
theorem fr1_ne : fr1 ≠ noS := by decide
theorem first_size (d : AD) (n : Int) : (firstI d n).size ≤ 281474976710656 := by
  unfold firstI
  split
  · decide
  split <;> decide
theorem first_or (d : AD) (n : Int) : firstI d n = noS ∨ firstI d n = fr1 ∨ firstI d n = fr2 := by
  unfold firstI
  split
  · exact .inr (.inl rfl)
  split
  · exact .inr (.inr rfl)
  · exact .inl rfl
theorem frN_size (k : Nat) : (frN k).size ≤ 281474976710656 := by
  unfold frN
  split
  · decide
  split <;> decide
theorem Good.take {d : AD} (h : Good d) : Good d.takeR.1 := by
  unfold AD.takeR
  split
  · exact h
  split
  · exact h
  split
  · exact h
  split
  · exact h.make _ _
  · exact h.make _ _
end Go.Proofs.YtpoiapfgbbmekaaGreatDoor
namespace Go.Proofs.YtpoiapfgbbmekaaGreatDoor
open Go.Lib
theorem decFrom_append : ∀ (a b : List UInt8) (acc : Nat), decFrom acc (a ++ b) = (decFrom acc a).bind fun m => decFrom m b
  | [], b, acc => by simp [decFrom]
  | x :: a, b, acc => by
    simp only [List.cons_append, decFrom]
    cases digitVal x with
    | none => rfl
    | some d => exact decFrom_append a b _
theorem digitVal_of {d : Nat} (h : d < 10) : digitVal (UInt8.ofNat (48 + d)) = some d := by
  unfold digitVal
  rw [UInt8.toNat_ofNat', show (48 + d) % 2 ^ 8 = 48 + d from by omega, if_pos (by omega)]
  congr 1; omega
theorem decFrom_dec : ∀ u : Nat, decFrom 0 (decDigits u) = some u := by
  intro u
  induction u using Nat.strongRecOn with
  | _ u ih =>
    rw [decDigits]
    by_cases h : u < 10
    · rw [dif_pos h]; simp only [decFrom, digitVal_of h, Nat.zero_mul, Nat.zero_add]
    · rw [dif_neg h, decFrom_append, ih (u / 10) (by omega)]
      simp only [Option.bind_some, decFrom, digitVal_of (show u % 10 < 10 from by omega)]
      congr 1; omega
theorem dec_ne (u : Nat) : decDigits u ≠ [] := by
  intro h
  have h1 := decDigits_length u
  have h2 := nDigits_pos u
  rw [h] at h1; simp at h1; omega
theorem dec_inj {u v : Nat} (h : decDigits u = decDigits v) : u = v := by
  have h1 := decFrom_dec u
  rw [h, decFrom_dec] at h1
  exact (Option.some.inj h1).symm
theorem dec_digit (u : Nat) : ∀ x ∈ decDigits u, 48 ≤ x.toNat ∧ x.toNat ≤ 57 := by
  intro x hx
  obtain ⟨j, hj, rfl⟩ := List.getElem_of_mem hx
  obtain ⟨d, hd⟩ := digit_of_decFrom (decDigits u) 0 u (decFrom_dec u) j (decDigits u)[j] (by simp)
  have := digitVal_eq hd
  omega
theorem nDigits_le (k : Nat) : ∀ u : Nat, u < 10 ^ (k + 1) → nDigits u ≤ k + 1 := by
  induction k with
  | zero => intro u h; rw [nDigits_small (by simpa using h)]; omega
  | succ k ih =>
    intro u h
    by_cases h0 : u < 10
    · rw [nDigits_small h0]; omega
    · rw [nDigits_big h0]
      have : u / 10 < 10 ^ (k + 1) := by
        rw [Nat.div_lt_iff_lt_mul (by omega)]
        rw [show k + 1 + 1 = (k + 1) + 1 from rfl, Nat.pow_succ] at h
        exact h
      have := ih (u / 10) this
      omega
theorem itoa_nat (u : Nat) : itoa (u : Int) = decDigits u := itoa_nonneg u
theorem atoiAll_dec (u : Nat) (h : u < 10000000000) : atoiAll (decDigits u) = .ok (u : Int) := by
  have hl : (decDigits u).length ≤ 18 := by
    rw [decDigits_length]
    have := nDigits_le 9 u (by simpa using h)
    omega
  rw [atoiAll_short _ hl]
  have hne := dec_ne u
  have hd := dec_digit u
  have hf := decFrom_dec u
  generalize decDigits u = l at *
  cases l with
  | nil => exact absurd rfl hne
  | cons b r =>
    have hb := hd b (by simp)
    have e1 : (b == 45) = false := by
      rw [beq_eq_false_iff_ne]; intro e; subst e; simp at hb
    have e2 : (b == 43) = false := by
      rw [beq_eq_false_iff_ne]; intro e; subst e; simp at hb
    simp only [atoi, e1, e2, Bool.false_eq_true, if_false, decNat, List.isEmpty_cons, hf, Option.map_some, NumEnd.ofOption]
def walN (n : Int) : List UInt8 := if 1 ≤ n ∧ n ≤ 2147483647 then 119 :: 97 :: 108 :: 45 :: itoa n else []
def poolN (n : Int) : List UInt8 := if 0 ≤ n ∧ n ≤ 2 then 102 :: 114 :: 101 :: 101 :: 45 :: itoa n else []
theorem walN_in {n : Int} (h1 : 1 ≤ n) (h2 : n ≤ 2147483647) : walN n = 119 :: 97 :: 108 :: 45 :: itoa n := if_pos ⟨h1, h2⟩
theorem poolN_in {n : Int} (h1 : 0 ≤ n) (h2 : n ≤ 2) : poolN n = 102 :: 114 :: 101 :: 101 :: 45 :: itoa n := if_pos ⟨h1, h2⟩
theorem walN_out {n : Int} (h : ¬ (1 ≤ n ∧ n ≤ 2147483647)) : walN n = [] := if_neg h
theorem poolN_out {n : Int} (h : ¬ (0 ≤ n ∧ n ≤ 2)) : poolN n = [] := if_neg h
def isW (l : List UInt8) : Prop := ∃ n : Int, 1 ≤ n ∧ n ≤ 2147483647 ∧ l = walN n
def isP (l : List UInt8) : Prop := ∃ n : Int, 0 ≤ n ∧ n ≤ 2 ∧ l = poolN n
def parsed (l : List UInt8) (k n : Int) : Prop := (k = 2 ∧ 0 ≤ n ∧ n ≤ 2 ∧ l = poolN n) ∨ (k = 1 ∧ 1 ≤ n ∧ n ≤ 2147483647 ∧ l = walN n) ∨ (k = 0 ∧ n = 0 ∧ ¬ isW l ∧ ¬ isP l)
theorem walN_inj {m n : Int} (h1 : 1 ≤ m) (h2 : m ≤ 2147483647) (h3 : 1 ≤ n) (h4 : n ≤ 2147483647) (h : walN m = walN n) : m = n := by
  rw [walN_in h1 h2, walN_in h3 h4] at h
  simp only [List.cons.injEq, true_and] at h
  obtain ⟨a, rfl⟩ : ∃ a : Nat, m = a := ⟨m.toNat, by omega⟩
  obtain ⟨b, rfl⟩ : ∃ a : Nat, n = a := ⟨n.toNat, by omega⟩
  rw [itoa_nat, itoa_nat] at h
  rw [dec_inj h]
theorem poolN_inj {m n : Int} (h1 : 0 ≤ m) (h2 : m ≤ 2) (h3 : 0 ≤ n) (h4 : n ≤ 2) (h : poolN m = poolN n) : m = n := by
  rw [poolN_in h1 h2, poolN_in h3 h4] at h
  simp only [List.cons.injEq, true_and] at h
  obtain ⟨a, rfl⟩ : ∃ a : Nat, m = a := ⟨m.toNat, by omega⟩
  obtain ⟨b, rfl⟩ : ∃ a : Nat, n = a := ⟨n.toNat, by omega⟩
  rw [itoa_nat, itoa_nat] at h
  rw [dec_inj h]
theorem pool_ne_wal {m n : Int} (h1 : 0 ≤ m) (h2 : m ≤ 2) (h3 : 1 ≤ n) (h4 : n ≤ 2147483647) : poolN m ≠ walN n := by
  rw [poolN_in h1 h2, walN_in h3 h4]
  intro h
  simp at h
theorem parsed_one {l : List UInt8} {k n j m : Int} (h1 : parsed l k n) (h2 : parsed l j m) : k = j ∧ n = m := by
  rcases h1 with ⟨rfl, a1, a2, rfl⟩ | ⟨rfl, a1, a2, rfl⟩ | ⟨rfl, rfl, a1, a2⟩
  · rcases h2 with ⟨rfl, b1, b2, e⟩ | ⟨rfl, b1, b2, e⟩ | ⟨rfl, rfl, b1, b2⟩
    · exact ⟨rfl, poolN_inj a1 a2 b1 b2 e⟩
    · exact absurd e (pool_ne_wal a1 a2 b1 b2)
    · exact absurd ⟨n, a1, a2, rfl⟩ b2
  · rcases h2 with ⟨rfl, b1, b2, e⟩ | ⟨rfl, b1, b2, e⟩ | ⟨rfl, rfl, b1, b2⟩
    · exact absurd e.symm (pool_ne_wal b1 b2 a1 a2)
    · exact ⟨rfl, walN_inj a1 a2 b1 b2 e⟩
    · exact absurd ⟨n, a1, a2, rfl⟩ b1
  · rcases h2 with ⟨rfl, b1, b2, e⟩ | ⟨rfl, b1, b2, e⟩ | ⟨rfl, rfl, b1, b2⟩
    · exact absurd ⟨_, b1, b2, e⟩ a2
    · exact absurd ⟨_, b1, b2, e⟩ a1
    · exact ⟨rfl, rfl⟩
theorem idx_pool {n : Int} (h1 : 0 ≤ n) (h2 : n ≤ 2) : indexByte (poolN n) 45 = 4 ∧ (poolN n).take 4 = [102, 114, 101, 101] ∧ (poolN n).drop 5 = itoa n := by
  rw [poolN_in h1 h2]
  refine ⟨?_, rfl, rfl⟩
  simp [indexByte]
theorem idx_wal {n : Int} (h1 : 1 ≤ n) (h2 : n ≤ 2147483647) : indexByte (walN n) 45 = 3 ∧ (walN n).take 3 = [119, 97, 108] ∧ (walN n).drop 4 = itoa n := by
  rw [walN_in h1 h2]
  refine ⟨?_, rfl, rfl⟩
  simp [indexByte]
def headN (l : List UInt8) : List UInt8 := if indexByte l 45 < 0 then l else l.take (indexByte l 45).toNat
def restN (l : List UInt8) : List UInt8 := if indexByte l 45 < 0 then [] else l.drop ((indexByte l 45).toNat + 1)
theorem head_pool {n : Int} (h1 : 0 ≤ n) (h2 : n ≤ 2) : headN (poolN n) = [102, 114, 101, 101] ∧ restN (poolN n) = itoa n := by
  obtain ⟨e1, e2, e3⟩ := idx_pool h1 h2
  unfold headN restN
  rw [e1]
  exact ⟨by simpa using e2, by simpa using e3⟩
theorem head_wal {n : Int} (h1 : 1 ≤ n) (h2 : n ≤ 2147483647) : headN (walN n) = [119, 97, 108] ∧ restN (walN n) = itoa n := by
  obtain ⟨e1, e2, e3⟩ := idx_wal h1 h2
  unfold headN restN
  rw [e1]
  exact ⟨by simpa using e2, by simpa using e3⟩
theorem rest_pool {n : Int} (h1 : 0 ≤ n) (h2 : n ≤ 2) : atoiAll (restN (poolN n)) = .ok n := by
  rw [(head_pool h1 h2).2]
  obtain ⟨a, rfl⟩ : ∃ a : Nat, n = a := ⟨n.toNat, by omega⟩
  rw [itoa_nat]
  exact atoiAll_dec a (by omega)
theorem rest_wal {n : Int} (h1 : 1 ≤ n) (h2 : n ≤ 2147483647) : atoiAll (restN (walN n)) = .ok n := by
  rw [(head_wal h1 h2).2]
  obtain ⟨a, rfl⟩ : ∃ a : Nat, n = a := ⟨n.toNat, by omega⟩
  rw [itoa_nat]
  exact atoiAll_dec a (by omega)
theorem parse_other {l : List UInt8} (h1 : headN l ≠ [102, 114, 101, 101]) (h2 : headN l ≠ [119, 97, 108]) : parsed l 0 0 := by
  refine .inr (.inr ⟨rfl, rfl, ?_, ?_⟩)
  · rintro ⟨n, a, b, rfl⟩; exact h2 (head_wal a b).1
  · rintro ⟨n, a, b, rfl⟩; exact h1 (head_pool a b).1
theorem parse_none {l : List UInt8} (h : ∀ v, atoiAll (restN l) ≠ .ok v) : parsed l 0 0 := by
  refine .inr (.inr ⟨rfl, rfl, ?_, ?_⟩)
  · rintro ⟨n, a, b, rfl⟩; exact h n (rest_wal a b)
  · rintro ⟨n, a, b, rfl⟩; exact h n (rest_pool a b)
theorem parse_free_hit {l : List UInt8} {v : Int} (h0 : headN l = [102, 114, 101, 101]) (h : poolN v = l) : parsed l 2 v := by
  by_cases hv : 0 ≤ v ∧ v ≤ 2
  · exact .inl ⟨rfl, hv.1, hv.2, h.symm⟩
  · rw [poolN_out hv] at h
    subst h
    exact absurd h0 (by simp [headN, indexByte])
theorem parse_free_miss {l : List UInt8} {v : Int} (h0 : headN l = [102, 114, 101, 101]) (ha : atoiAll (restN l) = .ok v) (h : poolN v ≠ l) : parsed l 0 0 := by
  refine .inr (.inr ⟨rfl, rfl, ?_, ?_⟩)
  · rintro ⟨n, a, b, rfl⟩; rw [(head_wal a b).1] at h0; simp at h0
  · rintro ⟨n, a, b, rfl⟩
    rw [rest_pool a b] at ha
    injection ha with ha
    exact h (by rw [ha])
theorem parse_wal_hit {l : List UInt8} {v : Int} (h0 : headN l = [119, 97, 108]) (h : walN v = l) : parsed l 1 v := by
  by_cases hv : 1 ≤ v ∧ v ≤ 2147483647
  · exact .inr (.inl ⟨rfl, hv.1, hv.2, h.symm⟩)
  · rw [walN_out hv] at h
    subst h
    exact absurd h0 (by simp [headN, indexByte])
theorem parse_wal_miss {l : List UInt8} {v : Int} (h0 : headN l = [119, 97, 108]) (ha : atoiAll (restN l) = .ok v) (h : walN v ≠ l) : parsed l 0 0 := by
  refine .inr (.inr ⟨rfl, rfl, ?_, ?_⟩)
  · rintro ⟨n, a, b, rfl⟩
    rw [rest_wal a b] at ha
    injection ha with ha
    exact h (by rw [ha])
  · rintro ⟨n, a, b, rfl⟩; rw [(head_pool a b).1] at h0; simp at h0
theorem not_pool {l : List UInt8} (h0 : poolN 0 ≠ l) (h1 : poolN 1 ≠ l) (h2 : poolN 2 ≠ l) : ¬ isP l := by
  rintro ⟨n, a, b, rfl⟩
  have : n = 0 ∨ n = 1 ∨ n = 2 := by omega
  rcases this with rfl | rfl | rfl
  · exact h0 rfl
  · exact h1 rfl
  · exact h2 rfl
theorem wal_form {l : List UInt8} (h : isW l) : 5 ≤ l.length ∧ l.length ≤ 14 ∧ l.take 4 = [119, 97, 108, 45] ∧ (∀ x ∈ l.drop 4, 48 ≤ x.toNat ∧ x.toNat ≤ 57) ∧ ∃ u : Nat, decFrom 0 (l.drop 4) = some u ∧ l = walN u := by
  obtain ⟨n, a, b, rfl⟩ := h
  obtain ⟨u, rfl⟩ : ∃ u : Nat, n = u := ⟨n.toNat, by omega⟩
  have e : walN (u : Int) = 119 :: 97 :: 108 :: 45 :: decDigits u := by rw [walN_in a b, itoa_nat]
  have h1 := nDigits_pos u
  have h2 := nDigits_le 9 u (show u < 10 ^ 10 from by omega)
  rw [e]
  refine ⟨by simp [decDigits_length]; omega, by simp [decDigits_length]; omega, rfl, ?_, u, ?_, e.symm⟩
  · simpa using dec_digit u
  · simpa using decFrom_dec u
theorem ref_none {l : List UInt8} (hp : ¬ isP l) (h : ¬ isW l) : parsed l 0 0 := .inr (.inr ⟨rfl, rfl, h, hp⟩)
theorem ref_hit {l : List UInt8} (u : Nat) (h5 : l ≠ []) (h : walN u = l) : parsed l 1 u := by
  by_cases hv : 1 ≤ (u : Int) ∧ (u : Int) ≤ 2147483647
  · exact .inr (.inl ⟨rfl, hv.1, hv.2, h.symm⟩)
  · rw [walN_out hv] at h
    exact absurd h.symm h5
theorem ref_miss {l : List UInt8} (u : Nat) (hd : decFrom 0 (l.drop 4) = some u) (h : walN u ≠ l) : ¬ isW l := by
  intro hw
  obtain ⟨_, _, _, _, v, hv, e⟩ := wal_form hw
  rw [hd] at hv
  obtain rfl := Option.some.inj hv
  exact h e.symm
theorem itoa_short {n : Int} (h1 : -9223372036854775808 ≤ n) (h2 : n ≤ 9223372036854775807) : (itoa n).length ≤ 21 := itoa_length_le n h1 h2
theorem digit_list (x : UInt8) : decide (x ∈ ([48, 49, 50, 51, 52, 53, 54, 55, 56, 57] : List UInt8)) = decide (48 ≤ x.toNat ∧ x.toNat ≤ 57) := by
  have h : ∀ i : Fin 256, decide (UInt8.ofNat i.val ∈ ([48, 49, 50, 51, 52, 53, 54, 55, 56, 57] : List UInt8)) = decide (48 ≤ (UInt8.ofNat i.val).toNat ∧ (UInt8.ofNat i.val).toNat ≤ 57) := by decide +kernel
  have h2 := h ⟨x.toNat, x.toNat_lt⟩
  simpa using h2
theorem itoa_split (n : Int) (h : 10 ≤ n) : itoa n = itoa (n.tdiv 10) ++ itoa (n.tmod 10) := by
  obtain ⟨u, rfl⟩ : ∃ u : Nat, n = u := ⟨n.toNat, by omega⟩
  have e1 : (u : Int).tdiv 10 = ((u / 10 : Nat) : Int) := by simp
  have e2 : (u : Int).tmod 10 = ((u % 10 : Nat) : Int) := by rw [Int.tmod_eq_emod_of_nonneg (by omega)]; simp
  rw [e1, e2, itoa_nat, itoa_nat, itoa_nat]
  conv => lhs; rw [decDigits]
  rw [dif_neg (by omega), decDigits_one (show u % 10 < 10 from by omega)]
theorem itoa_split_neg (n : Int) (h : n ≤ -10) : itoa n = itoa (n.tdiv 10) ++ itoa (-(n.tmod 10)) := by
  obtain ⟨u, rfl⟩ : ∃ u : Nat, n = -(u : Int) := ⟨(-n).toNat, by omega⟩
  have e1 : (-(u : Int)).tdiv 10 = -((u / 10 : Nat) : Int) := by rw [Int.neg_tdiv]; simp
  have e2 : -((-(u : Int)).tmod 10) = ((u % 10 : Nat) : Int) := by rw [Int.neg_tmod, Int.tmod_eq_emod_of_nonneg (by omega)]; simp
  rw [e1, e2, itoa_neg u (by omega), itoa_neg (u / 10) (by omega), itoa_nat]
  conv => lhs; rw [decDigits]
  rw [dif_neg (by omega), decDigits_one (show u % 10 < 10 from by omega)]
  rfl
theorem itoa_neg_one (n : Int) (h0 : n < 0) (h : -10 < n) : itoa n = 45 :: itoa (-(n.tmod 10)) := by
  obtain ⟨u, rfl⟩ : ∃ u : Nat, n = -(u : Int) := ⟨(-n).toNat, by omega⟩
  have e2 : -((-(u : Int)).tmod 10) = ((u % 10 : Nat) : Int) := by rw [Int.neg_tmod, Int.tmod_eq_emod_of_nonneg (by omega)]; simp
  rw [e2, itoa_neg u (by omega), itoa_nat, Nat.mod_eq_of_lt (by omega)]
theorem div_ten_neg (n : Int) (h : n ≤ 0) : ∃ u : Nat, n = -(u : Int) ∧ n.tdiv 10 = -((u / 10 : Nat) : Int) ∧ n.tmod 10 = -((u % 10 : Nat) : Int) := by
  obtain ⟨u, rfl⟩ : ∃ u : Nat, n = -(u : Int) := ⟨(-n).toNat, by omega⟩
  refine ⟨u, rfl, ?_, ?_⟩
  · rw [Int.neg_tdiv]; simp
  · rw [Int.neg_tmod, Int.tmod_eq_emod_of_nonneg (by omega)]; simp
theorem div_ten (n : Int) (h : 0 ≤ n) : ∃ u : Nat, n = u ∧ n.tdiv 10 = ((u / 10 : Nat) : Int) ∧ n.tmod 10 = ((u % 10 : Nat) : Int) := by
  obtain ⟨u, rfl⟩ : ∃ u : Nat, n = u := ⟨n.toNat, by omega⟩
  refine ⟨u, rfl, by simp, ?_⟩
  rw [Int.tmod_eq_emod_of_nonneg (by omega)]; simp
end Go.Proofs.YtpoiapfgbbmekaaGreatDoor
namespace Go.Proofs.YtpoiapfgbbmekaaGreatDoor
open Go.RowKit
def walB (n : Int) : ByteArray := ⟨(walN n).toArray⟩
def layL (h : Hdr) (m : Nat) (fs : List Int) : List Int := secH h ++ fs ++ List.replicate ((16 - m) * 64) 0
def AD.laidR (d : AD) (s : ByteArray) (l : List Int) : AD × Int := if (d.writeR s 0 17 l).2 = 0 then (d.writeR s 0 17 l).1.syncR s else d.writeR s 0 17 l
def AD.prepR (d : AD) (s : ByteArray) (h : Hdr) (m : Nat) (fs : List Int) : AD × Int :=
  if hdOk h = false ∨ 16 < m then (d, 13) else if d.down = true then (d, 9) else if ¬ d.has s then (d, 7) else if (d.get s).n ≠ 17 then (d, 4) else d.laidR s (layL h m fs)
def AD.beginT (d : AD) (h : Hdr) (t : ByteArray) : AD × Int :=
  if hdOk h = false then (d, 13) else if d.down = true then (d, 9) else if d.has t then (d, 8)
  else if d.takeR.2.2 = 0 then (if (d.takeR.1.prepR d.takeR.2.1 h 0 []).2 = 0 then (d.takeR.1.prepR d.takeR.2.1 h 0 []).1.renameR d.takeR.2.1 t else d.takeR.1.prepR d.takeR.2.1 h 0 [])
  else (d.takeR.1, d.takeR.2.2)
def AD.beginR (d : AD) (h : Hdr) : AD × Int := d.beginT h (walB h.s)
def fstI (l : List Int) : Hdr × Int := headD (l.take 64)
def headI (d : AD) (q : Int) : Hdr × Int :=
  if walB q = noS then (noH, 13) else if d.down = true then (noH, 9) else if ¬ d.has (walB q) then (noH, 7)
  else if (d.get (walB q)).n ≠ 17 ∨ (fstI (d.get (walB q)).seen).2 ≠ 0 ∨ (fstI (d.get (walB q)).seen).1.s ≠ q then (noH, 12) else ((fstI (d.get (walB q)).seen).1, 0)
def dataI (d : AD) (q : Int) : List Int := (d.get (walB q)).seen.drop 64
open Classical in
noncomputable def liveB (s : ByteArray) : Bool := decide (isW s.data.toList ∨ isP s.data.toList)
noncomputable def epoF (f : AF) : Int := if liveB f.name = true then (fstI f.las).1.e else 0
noncomputable def newI (L : List AF) : Nat → Int
  | 0 => 0
  | k + 1 => match L[k]? with
    | some f => max (newI L k) (epoF f)
    | none => newI L k
theorem newI_step (L : List AF) (k : Nat) (f : AF) (h : L[k]? = some f) : newI L (k + 1) = max (newI L k) (epoF f) := by simp only [newI, h]
theorem parsed_live {s : ByteArray} {k n : Int} (h : parsed s.data.toList k n) : liveB s = !decide (k = 0) := by
  unfold liveB
  rcases h with ⟨rfl, h1, h2, e⟩ | ⟨rfl, h1, h2, e⟩ | ⟨rfl, _, h1, h2⟩
  · simpa using (Or.inr ⟨n, h1, h2, e⟩ : isW s.data.toList ∨ isP s.data.toList)
  · simpa using (Or.inl ⟨n, h1, h2, e⟩ : isW s.data.toList ∨ isP s.data.toList)
  · simp [h1, h2]
theorem bytes_isB {l : List Int} (h : Bytes l) : isB l := (bytes_iff l).1 h
theorem isB_bytes {l : List Int} (h : isB l) : Bytes l := (bytes_iff l).2 h
theorem fstI_typed {l : List Int} (h : Bytes l) : HdT (fstI l).1 := headD_typed ((bytes_isB h).take 64)
theorem str_empty {s : ByteArray} (h : s ≠ noS) : (s.toList == ([] : List UInt8)) = false := by
  rw [beq_eq_false_iff_ne]
  intro e
  rw [Lib.toList_data] at e
  exact h (ByteArray.ext (Array.toList_eq_nil_iff.1 e))
theorem fst_bad {l : List Int} (h : (fstI l).2 ≠ 0) : (fstI l).1 = noH := by
  unfold fstI at *
  rcases headD_cases (zs := l.take 64) with ⟨_, e⟩ | ⟨_, _, e⟩ | ⟨_, _, _, _, e⟩ | ⟨_, _, _, _, _, e⟩ | ⟨_, _, _, _, _, e⟩ <;> rw [e] at h ⊢
  exact absurd rfl h
theorem wal_size (n : Int) (h0 : -9223372036854775808 ≤ n) (h1 : n ≤ 9223372036854775807) : (walB n).size ≤ 281474976710656 := by
  show (walN n).toArray.size ≤ _
  have := itoa_short h0 h1
  unfold walN
  split
  · simp only [List.size_toArray, List.length_cons]; omega
  · simp
theorem wal_in {n : Int} (h1 : 1 ≤ n) (h2 : n ≤ 2147483647) : walB n ≠ noS := by
  intro h
  have h3 := congrArg (fun s : ByteArray => s.data.toList) h
  have h4 : walN n = [] := h3
  rw [walN_in h1 h2] at h4
  simp at h4
theorem wal_out {n : Int} (h : ¬ (1 ≤ n ∧ n ≤ 2147483647)) : walB n = noS := by unfold walB; rw [walN_out h]
theorem fr_pool : fr1 = ⟨(poolN 1).toArray⟩ ∧ fr2 = ⟨(poolN 2).toArray⟩ := by
  have e1 : Lib.itoa 1 = [49] := by rw [show (1 : Int) = ((1 : Nat) : Int) from rfl, itoa_nat, Lib.decDigits_one (by omega)]; rfl
  have e2 : Lib.itoa 2 = [50] := by rw [show (2 : Int) = ((2 : Nat) : Int) from rfl, itoa_nat, Lib.decDigits_one (by omega)]; rfl
  rw [poolN_in (by omega) (by omega), poolN_in (by omega) (by omega), e1, e2]
  exact ⟨rfl, rfl⟩
theorem wal_ne_fr {n : Int} (h1 : 1 ≤ n) (h2 : n ≤ 2147483647) {s : ByteArray} (hs : s = fr1 ∨ s = fr2) : s ≠ walB n := by
  intro h
  rcases hs with rfl | rfl
  · rw [fr_pool.1] at h
    exact pool_ne_wal (m := 1) (by omega) (by omega) h1 h2 (congrArg (fun s : ByteArray => s.data.toList) h)
  · rw [fr_pool.2] at h
    exact pool_ne_wal (m := 2) (by omega) (by omega) h1 h2 (congrArg (fun s : ByteArray => s.data.toList) h)
theorem layL_length {h : Hdr} (hn : h.l.length = 4) {m : Nat} (hm : m ≤ 16) {fs : List Int} (hf : fs.length = m * 64) : (layL h m fs).length = 17 * 64 := by
  unfold layL
  rw [List.length_append, List.length_append, secH_length hn, hf, List.length_replicate]
  omega
theorem layL_bytes (h : Hdr) (m : Nat) {fs : List Int} (hf : Bytes fs) : Bytes (layL h m fs) := ((isB_bytes (secH_bytes h)).app hf).app (Bytes.zeros _)
theorem layL_take {h : Hdr} (hn : h.l.length = 4) (m : Nat) (fs : List Int) : (layL h m fs).take 64 = secH h := by
  unfold layL
  rw [List.append_assoc, List.take_append_of_le_length (by rw [secH_length hn]; exact Nat.le_refl _), List.take_of_length_le (by rw [secH_length hn]; exact Nat.le_refl _)]
theorem layL_drop {h : Hdr} (hn : h.l.length = 4) (m : Nat) (fs : List Int) : (layL h m fs).drop 64 = fs ++ List.replicate ((16 - m) * 64) 0 := by
  unfold layL
  rw [List.append_assoc, List.drop_append_of_le_length (by rw [secH_length hn]; exact Nat.le_refl _), List.drop_of_length_le (by rw [secH_length hn]; exact Nat.le_refl _)]
  rfl
theorem Good.laid {d : AD} (h : Good d) (s : ByteArray) (l : List Int) (hl : l.length = 17 * 64) (hb : Bytes l) : Good (d.laidR s l).1 := by
  unfold AD.laidR
  split
  · exact (h.write s 0 17 l hl hb).sync s
  · exact h.write s 0 17 l hl hb
theorem Good.prep {d : AD} (h : Good d) (s : ByteArray) {x : Hdr} (hx : HdT x) {m : Nat} {fs : List Int} (hf : fs.length = m * 64) (hb : Bytes fs) : Good (d.prepR s x m fs).1 := by
  unfold AD.prepR
  split
  · exact h
  rename_i hk
  split
  · exact h
  split
  · exact h
  split
  · exact h
  · exact h.laid s _ (layL_length hx.n (by omega) hf) (layL_bytes x m hb)
theorem bytes_nil : Bytes [] := fun j => by simp
theorem Good.begin {d : AD} (h : Good d) {x : Hdr} (hx : HdT x) : Good (d.beginR x).1 := by
  unfold AD.beginR AD.beginT
  have hp := h.take.prep d.takeR.2.1 hx (m := 0) (fs := []) rfl bytes_nil
  split
  · exact h
  split
  · exact h
  split
  · exact h
  split
  · split
    · exact hp.rename _ _
    · exact hp
  · exact h.take
end Go.Proofs.YtpoiapfgbbmekaaGreatDoor
namespace Go.Proofs.YtpoiapfgbbmekaaGreatDoor
open Go.Proofs Go.RowKit
open Go.Lib (toList_data size_eq)
def Pow (w : World) : Prop := Lib.TabIs Tryz.prog w "internal/strconv.uint64pow10" .u64 Lib.pow10Tab
theorem var_stays {P : Program} {w w' : World} {n : String} {cs : Array Value} (h : w.var? P n = some cs) (hb : ∀ k, k < w.heap.size → w'.heap[k]? = w.heap[k]?) : w'.var? P n = some cs := by
  unfold World.var? at *
  cases hg : P.globalNamed n with
  | none => simp [hg] at h
  | some g =>
    simp only [hg, Option.bind_some] at h ⊢
    have hlt : g < w.heap.size := by
      rcases Nat.lt_or_ge g w.heap.size with h' | h'
      · exact h'
      · simp [Array.getElem?_eq_none h'] at h
    rw [hb g hlt]; exact h
theorem Pow.on {w w' : World} (h : Pow w) (hb : Below w.heap.size w w') : Pow w' := var_stays h fun k hk => hb.block k hk
theorem Pow.ext {W w : World} {F : Nat → Bool} (h : Pow W) (hx : Ext (fun _ => false) W w F) : Pow w := var_stays h fun k hk => hx.block k hk rfl
theorem digits_grow {w w' : World} (h : ∃ (k : Nat) (os : Array Obj), w' = Sort.grow (w.drewN k) os) : Below w.heap.size w w' := by
  obtain ⟨k, os, rfl⟩ := h
  refine ⟨rfl, rfl, rfl, ?_, fun j hj => ?_⟩
  · show w.heap.size ≤ (w.heap ++ os).size
    simp
  · show (w.heap ++ os)[j]? = w.heap[j]?
    rw [Array.getElem?_append_left hj]
theorem digits_pow (n : Int) (h0 : -9223372036854775808 ≤ n) (h1 : n ≤ 9223372036854775807) (w : World) (hv : Pow w) :
    Calls Tryz.prog 74 #[.int .i64 n] w fun e w' => e = .returned (.string ⟨(Lib.itoa n).toArray⟩) ∧ Below w.heap.size w w' := by
  have HV := Lib.hid hv
  clear hv
  go_enter Tryz.func74, Tryz.ntmps74
  go_wp2_with (first
    | (go_at_call 102; (refine (Tryz.strconv_Itoa n h0 h1 _ HV.out).mono ?_); rintro e w' ⟨rfl, hb⟩; have HB := Lib.hid (digits_grow hb); clear hb))
  go_ret
  exact ⟨rfl, HB.out⟩
theorem digits_text (a b : List UInt8) : (⟨a.toArray⟩ ++ ⟨b.toArray⟩ : ByteArray) = ⟨(a ++ b).toArray⟩ := by
  apply ByteArray.ext
  simp
theorem digits_itoa (n : Nat) : Lib.itoa (n : Int) = Lib.decDigits n := by simp [Lib.itoa]
theorem itoa_low : Lib.itoa 0 = [48] ∧ Lib.itoa 1 = [49] ∧ Lib.itoa 2 = [50] := by
  refine ⟨?_, ?_, ?_⟩
  · rw [show (0 : Int) = ((0 : Nat) : Int) from rfl, digits_itoa, Lib.decDigits_one (by omega)]; rfl
  · rw [show (1 : Int) = ((1 : Nat) : Int) from rfl, digits_itoa, Lib.decDigits_one (by omega)]; rfl
  · rw [show (2 : Int) = ((2 : Nat) : Int) from rfl, digits_itoa, Lib.decDigits_one (by omega)]; rfl
theorem pool_one (k : Nat) (hk : k ≤ 2) (l : List UInt8) (hl : Lib.itoa (k : Int) = l) (h1 : l.length ≤ 100) (w : World) (hv : Pow w) :
    Calls Tryz.prog 97 #[.int .i64 (k : Int)] w fun e w' => e = .returned (.string ⟨(102 :: 114 :: 101 :: 101 :: 45 :: l).toArray⟩) ∧ Below w.heap.size w w' := by
  have hl2 : ¬ 9223372036854775807 < 5 + l.length := by omega
  have HD : Hid (∀ w, Pow w → Calls Tryz.prog 74 #[.int .i64 (k : Int)] w fun e w' => e = .returned (.string ⟨l.toArray⟩) ∧ Below w.heap.size w w') := Lib.hid fun w h => by
    have := digits_pow (k : Int) (by omega) (by omega) w h
    rwa [hl] at this
  have HV := Lib.hid hv
  clear hv hl h1
  go_enter Tryz.func97, Tryz.ntmps97
  go_wp2_with (first
    | (go_at_call 74; (refine (HD.out _ HV.out).mono ?_); rintro e w' ⟨rfl, hb⟩; have HB := Lib.hid hb; clear hb))
  go_ret
  refine ⟨?_, HB.out⟩
  exact congrArg (fun x => Ending.returned (.string x)) (digits_text [102, 114, 101, 101, 45] l)
end Go.Proofs.YtpoiapfgbbmekaaGreatDoor
namespace Go.Proofs.YtpoiapfgbbmekaaGreatDoor
open Go.RowKit
variable {DK : World → Addr → (Nat → Bool) → AD → Prop}
theorem pool_name (k : Nat) (hk : k ≤ 2) (w : World) (hv : Pow w) :
    Calls Tryz.prog 97 #[.int .i64 (k : Int)] w fun e w' => e = .returned (.string (frN k)) ∧ Below w.heap.size w w' := by
  obtain ⟨i0, i1, i2⟩ := itoa_low
  rcases k with _ | _ | _ | k
  · exact pool_one 0 (by omega) [48] i0 (by decide) w hv
  · exact pool_one 1 (by omega) [49] i1 (by decide) w hv
  · exact pool_one 2 (by omega) [50] i2 (by decide) w hv
  · omega
theorem psize_of (H : DiskSays DK) {d : AD} {s : ByteArray} {x : Int} (hg : Good d) (hs : s.size ≤ 281474976710656) (hx : szI d s = x) :
    Hid (∀ w p F, DK w p F d → Calls Tryz.prog 41 #[ptr p, .string s] w fun e w' => e = .returned (.int .i64 x) ∧ Below w.heap.size w w') :=
  Lib.hid fun w p F h => by rw [← hx]; exact H.size w p F d s h hg hs
theorem pready_any (H : DiskSays DK) (w : World) (p : Addr) (F : Nat → Bool) (d : AD) (h : DK w p F d) (hg : Good d) :
    Calls Tryz.prog 75 #[ptr p] w fun e w' => e = .returned (.int .i64 (if d.down = true then 9 else 0)) ∧ Below w.heap.size w w' := by
  have HD := Lib.hid (H.down w p F d h hg)
  cases hd : d.down with
  | false =>
    rw [hd] at HD
    go_enter Tryz.func75, Tryz.ntmps75
    go_wp2_with (first
      | (go_at_call 62; (with_reducible refine HD.out.mono ?_); rintro e w1 ⟨rfl, hb⟩; have HB := Lib.hid hb; clear hb))
    go_ret
    exact ⟨rfl, HB.out⟩
  | true =>
    rw [hd] at HD
    go_enter Tryz.func75, Tryz.ntmps75
    go_wp2_with (first
      | (go_at_call 62; (with_reducible refine HD.out.mono ?_); rintro e w1 ⟨rfl, hb⟩; have HB := Lib.hid hb; clear hb))
    go_ret
    exact ⟨rfl, HB.out⟩
structure LK (DK : World → Addr → (Nat → Bool) → AD → Prop) (w : World) (p : Addr) (F : Nat → Bool) (d : AD) (W : World) : Prop where
  dk : DK W p F d
  below : Below w.heap.size w W
  pow : Pow W
theorem LK.next (H : DiskSays DK) {w : World} {p : Addr} {F : Nat → Bool} {d : AD} {W W' : World} (h : LK DK w p F d W) (hb : Below W.heap.size W W') : LK DK w p F d W' :=
  ⟨H.below h.dk hb, h.below.trans (hb.mono h.below.size), h.pow.on hb⟩
theorem first_none {d : AD} {n : Int} (h : ∀ j, j < 2 → szI d (frN (j + 1)) ≠ n) : firstI d n = noS := by
  have h1 : szI d fr1 ≠ n := h 0 (by omega)
  have h2 : szI d fr2 ≠ n := h 1 (by omega)
  unfold firstI
  rw [if_neg h1, if_neg h2]
theorem first_some {d : AD} {n : Int} {i : Nat} (hi : i < 2) (h : ∀ j, j < i → szI d (frN (j + 1)) ≠ n) (h2 : szI d (frN (i + 1)) = n) : firstI d n = frN (i + 1) := by
  rcases i with _ | _ | i
  · have h3 : szI d fr1 = n := h2
    unfold firstI; rw [if_pos h3]; rfl
  · have h3 : szI d fr2 = n := h2
    have h4 : szI d fr1 ≠ n := h 0 (by omega)
    unfold firstI; rw [if_neg h4, if_pos h3]; rfl
  · omega
set_option maxRecDepth 8000 in
theorem pfirst_any (H : DiskSays DK) (w : World) (p : Addr) (F : Nat → Bool) (d : AD) (n : Int) (h : DK w p F d) (hg : Good d) (hp : Pow w) :
    Calls Tryz.prog 76 #[ptr p, .int .i64 n] w fun e w' => e = .returned (.string (firstI d n)) ∧ Below w.heap.size w w' := by
  have hH := Lib.hid H
  have HG := Lib.hid hg
  have HS := Lib.hid (⟨h, Below.refl _ _, hp⟩ : LK DK w p F d w)
  clear h hg hp
  go_enter Tryz.func76, Tryz.ntmps76
  go_wp2_with fail
  go_loopw [7] (fun iv wr => ∃ i : Nat, iv = .int .i64 i ∧ i ≤ 2 ∧ Hid (LK DK w p F d wr) ∧ Hid (∀ j, j < i → szI d (frN (j + 1)) ≠ n)) (fun iv _ => 2 - (intOf iv).toNat)
  case atStart => exact ⟨0, rfl, by omega, HS, Lib.hid fun j hj => by omega⟩
  case round =>
    obtain ⟨i, rfl, hi, HL, HI⟩ := hrel
    by_cases hlt : (i : Int) < 2
    · obtain ⟨x, hx⟩ : ∃ x, szI d (frN (i + 1)) = x := ⟨_, rfl⟩
      have HZ := psize_of hH.out HG.out (frN_size _) hx
      have HX := Lib.hid hx
      have HPN : Hid (∀ w, Pow w → Calls Tryz.prog 97 #[.int .i64 (1 + (i : Int))] w fun e w' => e = .returned (.string (frN (i + 1))) ∧ Below w.heap.size w w') := Lib.hid fun w hw => by
        have := pool_name (i + 1) (by omega) w hw
        rwa [show ((i + 1 : Nat) : Int) = 1 + (i : Int) by omega] at this
      have hw1 : IntKind.i64.wrap (1 + (i : Int)) = 1 + (i : Int) := IntWalk.i64_in _ (by omega)
      clear hx
      by_cases hq : x = n
      · have HE := Lib.hid (first_some (by omega) HI.out (HX.out.trans hq))
        go_wp2_with (first
          | (go_at_call 97; (with_reducible refine (HPN.out _ HL.out.pow).mono ?_); rintro e w1 ⟨rfl, hb⟩; have HL1 := Lib.hid (HL.out.next hH.out hb); clear hb)
          | (go_at_call 41; (with_reducible refine (HZ.out _ _ _ HL1.out.dk).mono ?_); rintro e w2 ⟨rfl, hb⟩; have HL2 := Lib.hid (HL1.out.next hH.out hb); clear hb))
        go_ret
        exact ⟨by rw [HE.out]; rfl, HL2.out.below⟩
      · have HN : Hid (∀ j, j < i + 1 → szI d (frN (j + 1)) ≠ n) := Lib.hid fun j hj => by
          by_cases hji : j = i
          · subst hji; rw [HX.out]; exact hq
          · exact HI.out j (by omega)
        go_wp2_with (first
          | (go_at_call 97; (with_reducible refine (HPN.out _ HL.out.pow).mono ?_); rintro e w1 ⟨rfl, hb⟩; have HL1 := Lib.hid (HL.out.next hH.out hb); clear hb)
          | (go_at_call 41; (with_reducible refine (HZ.out _ _ _ HL1.out.dk).mono ?_); rintro e w2 ⟨rfl, hb⟩; have HL2 := Lib.hid (HL1.out.next hH.out hb); clear hb))
        exact ⟨⟨i + 1, by go_num, by omega, HL2, HN⟩, by simp [intOf]; omega⟩
    · have hq : i = 2 := by omega
      subst hq
      go_wp2_with fail
      go_ret
      exact ⟨by rw [first_none HI.out]; rfl, HL.out.below⟩
end Go.Proofs.YtpoiapfgbbmekaaGreatDoor
namespace Go.Proofs.YtpoiapfgbbmekaaGreatDoor
open Go.Proofs Go.RowKit
open Go.Lib (toList_data size_eq)
def Vars (w : World) : Prop := Lib.TabIs Tryz.prog w "internal/strconv.uint64pow10" .u64 Lib.pow10Tab ∧ (∃ tp p, w.var? Tryz.prog "strconv.ErrSyntax" = some #[.iface tp p]) ∧ (∃ tp p, w.var? Tryz.prog "strconv.ErrRange" = some #[.iface tp p])
theorem pow10_tab {w : World} (h : Lib.TabIs Tryz.prog w "internal/strconv.uint64pow10" .u64 [1, 10, 100, 1000, 10000, 100000, 1000000, 10000000, 100000000, 1000000000, 10000000000, 100000000000, 1000000000000, 10000000000000, 100000000000000, 1000000000000000, 10000000000000000, 100000000000000000, 1000000000000000000, 10000000000000000000]) : Lib.TabIs Tryz.prog w "internal/strconv.uint64pow10" .u64 Lib.pow10Tab := by
  rw [show Lib.pow10Tab = [1, 10, 100, 1000, 10000, 100000, 1000000, 10000000, 100000000, 1000000000, 10000000000, 100000000000, 1000000000000, 10000000000000, 100000000000000, 1000000000000000, 10000000000000000, 100000000000000000, 1000000000000000000, 10000000000000000000] from by decide +kernel]
  exact h
theorem var_below {P : Program} {w w' : World} {n : String} {cs : Array Value} (h : w.var? P n = some cs) (hb : Below w.heap.size w w') : w'.var? P n = some cs := by
  unfold World.var? at *
  cases hg : P.globalNamed n with
  | none => simp [hg] at h
  | some g =>
    simp only [hg, Option.bind_some] at h ⊢
    have hlt : g < w.heap.size := by
      rcases Nat.lt_or_ge g w.heap.size with h' | h'
      · exact h'
      · simp [Array.getElem?_eq_none h'] at h
    rw [hb.block g hlt]; exact h
theorem Vars.on {w w' : World} (h : Vars w) (hb : Below w.heap.size w w') : Vars w' := by
  obtain ⟨h1, ⟨t1, p1, h2⟩, t2, p2, h3⟩ := h
  exact ⟨var_below h1 hb, ⟨t1, p1, var_below h2 hb⟩, t2, p2, var_below h3 hb⟩
theorem Vars.pow {w : World} (h : Vars w) : Pow w := h.1
theorem Vars.ext {W w : World} {F : Nat → Bool} (h : Vars W) (hx : Ext (fun _ => false) W w F) : Vars w := by
  obtain ⟨h1, ⟨t1, p1, h2⟩, t2, p2, h3⟩ := h
  exact ⟨var_stays h1 fun k hk => hx.block k hk rfl, ⟨t1, p1, var_stays h2 fun k hk => hx.block k hk rfl⟩, t2, p2, var_stays h3 fun k hk => hx.block k hk rfl⟩
theorem below_itoa {w w' : World} (h : ∃ (k : Nat) (os : Array Obj), w' = Sort.grow (w.drewN k) os) : Below w.heap.size w w' := by
  obtain ⟨k, os, rfl⟩ := h
  refine ⟨rfl, rfl, rfl, ?_, fun j hj => ?_⟩
  · show w.heap.size ≤ (w.heap ++ os).size
    simp
  · show (w.heap ++ os)[j]? = w.heap[j]?
    rw [Array.getElem?_append_left hj]
theorem digits_any (n : Int) (h0 : -9223372036854775808 ≤ n) (h1 : n ≤ 9223372036854775807) (w : World) (hv : Vars w) :
    Calls Tryz.prog 74 #[.int .i64 n] w fun e w' => e = .returned (.string ⟨(Lib.itoa n).toArray⟩) ∧ Below w.heap.size w w' := by
  have HV := Lib.hid hv
  clear hv
  go_enter Tryz.func74, Tryz.ntmps74
  go_wp2_with (first
    | (go_at_call 102; (refine (Tryz.strconv_Itoa n h0 h1 _ HV.out.1).mono ?_); rintro e w' ⟨rfl, hb⟩; have HB := Lib.hid (below_itoa hb); clear hb))
  go_ret
  exact ⟨rfl, HB.out⟩
theorem app_text (a b : List UInt8) : (⟨a.toArray⟩ ++ ⟨b.toArray⟩ : ByteArray) = ⟨(a ++ b).toArray⟩ := by
  apply ByteArray.ext
  simp
theorem wal_any (n : Int) (h0 : -9223372036854775808 ≤ n) (h1 : n ≤ 9223372036854775807) (w : World) (hv : Vars w) :
    Calls Tryz.prog 29 #[.int .i64 n] w fun e w' => e = .returned (.string ⟨(walN n).toArray⟩) ∧ Below w.heap.size w w' := by
  have HV := Lib.hid hv
  clear hv
  by_cases hn : 1 ≤ n
  · by_cases hm : n ≤ 2147483647
    · have hl : ¬ 9223372036854775807 < 4 + (Lib.itoa n).length := by have := itoa_short h0 h1; omega
      have HW := Lib.hid (walN_in hn hm)
      go_enter Tryz.func29, Tryz.ntmps29
      go_wp2_with (first
        | (go_at_call 74; (refine (digits_any n h0 h1 _ HV.out).mono ?_); rintro e w' ⟨rfl, hb⟩; have HB := Lib.hid hb; clear hb))
      go_ret
      refine ⟨?_, HB.out⟩
      rw [HW.out]
      exact congrArg (fun x => Ending.returned (.string x)) (app_text [119, 97, 108, 45] (Lib.itoa n))
    · have hw := walN_out (n := n) (by omega)
      rw [hw]
      clear hw
      go_enter Tryz.func29, Tryz.ntmps29
      go_wp2
      go_ret
      exact ⟨rfl, Below.refl _ _⟩
  · have hw := walN_out (n := n) (by omega)
    rw [hw]
    clear hw
    go_enter Tryz.func29, Tryz.ntmps29
    go_wp2
    go_ret
    exact ⟨rfl, Below.refl _ _⟩
theorem pool_any (n : Int) (h0 : -9223372036854775808 ≤ n) (h1 : n ≤ 9223372036854775807) (w : World) (hv : Vars w) :
    Calls Tryz.prog 97 #[.int .i64 n] w fun e w' => e = .returned (.string ⟨(poolN n).toArray⟩) ∧ Below w.heap.size w w' := by
  have HV := Lib.hid hv
  clear hv
  by_cases hn : 0 ≤ n
  · by_cases hm : n ≤ 2
    · have hl : ¬ 9223372036854775807 < 5 + (Lib.itoa n).length := by have := itoa_short h0 h1; omega
      have HW := Lib.hid (poolN_in hn hm)
      go_enter Tryz.func97, Tryz.ntmps97
      go_wp2_with (first
        | (go_at_call 74; (refine (digits_any n h0 h1 _ HV.out).mono ?_); rintro e w' ⟨rfl, hb⟩; have HB := Lib.hid hb; clear hb))
      go_ret
      refine ⟨?_, HB.out⟩
      rw [HW.out]
      exact congrArg (fun x => Ending.returned (.string x)) (app_text [102, 114, 101, 101, 45] (Lib.itoa n))
    · have hw := poolN_out (n := n) (by omega)
      rw [hw]
      clear hw
      go_enter Tryz.func97, Tryz.ntmps97
      go_wp2
      go_ret
      exact ⟨rfl, Below.refl _ _⟩
  · have hw := poolN_out (n := n) (by omega)
    rw [hw]
    clear hw
    go_enter Tryz.func97, Tryz.ntmps97
    go_wp2
    go_ret
    exact ⟨rfl, Below.refl _ _⟩
theorem idx_lt : ∀ (l : List UInt8) (c : UInt8), Lib.indexByte l c < l.length
  | [], _ => by simp [Lib.indexByte]
  | b :: l, c => by
    have := idx_lt l c
    have := Lib.indexByte_ge l c
    simp only [Lib.indexByte, List.length_cons]
    split
    · omega
    · split <;> omega
theorem icut_any (s : ByteArray) (w : World) (hs : s.size ≤ 281474976710656) : Calls Tryz.prog 110 #[.string s, .string ⟨#[45]⟩] w fun e w' => ∃ b, e = .returned (.tuple #[.string ⟨(headN s.data.toList).toArray⟩, .string ⟨(restN s.data.toList).toArray⟩, .bool b]) ∧ Below w.heap.size w w' := by
  have hg := Lib.indexByte_ge s.data.toList 45
  have hlt := idx_lt s.data.toList 45
  rw [show s.data.toList.length = s.size from (size_eq s).symm] at hlt
  by_cases h0 : Lib.indexByte s.data.toList 45 < 0
  · have hh : headN s.data.toList = s.data.toList := if_pos h0
    have hr : restN s.data.toList = [] := if_pos h0
    rw [hh, hr]
    clear hh hr hg
    go_enter Tryz.func110, Tryz.ntmps110
    go_wp2_with (first
      | (go_at_call 124; (refine (Tryz.stringslite_Index_one s 45 _).mono ?_); rintro e w' ⟨rfl, rfl⟩))
    go_ret3
    exact ⟨_, rfl, Below.refl _ _⟩
  · obtain ⟨i, hi⟩ : ∃ i : Nat, Lib.indexByte s.data.toList 45 = i := ⟨(Lib.indexByte s.data.toList 45).toNat, by omega⟩
    have hh : headN s.data.toList = s.data.toList.take i := by unfold headN; rw [hi, if_neg (by omega)]; rfl
    have hr : restN s.data.toList = s.data.toList.drop (i + 1) := by unfold restN; rw [hi, if_neg (by omega)]; rfl
    rw [hh, hr]
    have HI := Lib.hid hi
    rw [hi] at hlt
    have c1 : (0 : Int) ≤ (i : Int) := by omega
    have c2 : (i : Int) ≤ (s.size : Int) := by omega
    have c3 : (0 : Int) ≤ (i : Int) + 1 := by omega
    have c4 : (i : Int) + 1 ≤ (s.size : Int) := by omega
    clear hh hr hg h0 hi
    go_enter Tryz.func110, Tryz.ntmps110
    go_wp2_with (first
      | (go_at_call 124; (refine (Tryz.stringslite_Index_one s 45 _).mono ?_); rintro e w' ⟨rfl, rfl⟩; rw [HI.out]))
    go_region
    go_wp2
    go_ret3
    refine ⟨true, ?_, (Below.refl _ _).drew⟩
    show Ending.returned (.tuple #[.string (s.extract 0 i), .string (s.extract (i + 1) s.size), .bool true]) = _
    rw [Lib.extract_eq, Lib.extract_eq, size_eq, List.drop_zero, Nat.sub_zero, List.take_of_length_le (l := s.data.toList.drop (i + 1)) (by simp)]
theorem cut_any (s : ByteArray) (w : World) (hs : s.size ≤ 281474976710656) : Calls Tryz.prog 96 #[.string s, .string ⟨#[45]⟩] w fun e w' => ∃ b, e = .returned (.tuple #[.string ⟨(headN s.data.toList).toArray⟩, .string ⟨(restN s.data.toList).toArray⟩, .bool b]) ∧ Below w.heap.size w w' := by
  go_enter Tryz.func96, Tryz.ntmps96
  go_wp2_with (first
    | (go_at_call 110; (refine (icut_any s _ hs).mono ?_); rintro e w' ⟨b, rfl, hb⟩; have HB := Lib.hid hb; clear hb))
  go_ret3
  exact ⟨_, rfl, HB.out⟩
theorem atoi_ok (rs : List UInt8) (v : Int) (h : Lib.atoiAll rs = .ok v) (w : World) (hs : rs.length ≤ 281474976710656) :
    Calls Tryz.prog 98 #[.string ⟨rs.toArray⟩] w fun e w' => e = .returned (.tuple #[.int .i64 v, .nilIface]) ∧ Below w.heap.size w w' := by
  refine (Tryz.strconv_Atoi_ok ⟨rs.toArray⟩ (by rw [size_eq]; show rs.length ≤ _; omega) v h w).mono ?_
  rintro e w' ⟨he, hw⟩
  refine ⟨he, ?_⟩
  rcases hw with rfl | ⟨t, rfl⟩
  · exact Below.refl _ _
  · exact Lib.bytesWorld_below _ _ _
theorem atoi_err (rs : List UInt8) (h : ∀ v, Lib.atoiAll rs ≠ .ok v) (w : World) (hs : rs.length ≤ 281474976710656) (hv : Vars w) :
    Calls Tryz.prog 98 #[.string ⟨rs.toArray⟩] w fun e w' => ∃ v N, e = .returned (.tuple #[.int .i64 v, .iface 162 (.pointer (some ⟨N, 0, none⟩))]) ∧ Below w.heap.size w w' := by
  obtain ⟨_, ⟨t1, p1, h1⟩, t2, p2, h2⟩ := hv
  have hl : (⟨rs.toArray⟩ : ByteArray).size ≤ 281474976710656 := by rw [size_eq]; exact hs
  rcases ha : Lib.atoiAll rs with v | _ | _
  · exact absurd ha (h v)
  · have hc : Calls Tryz.prog 98 #[.string ⟨rs.toArray⟩] w fun e w' => ∃ N, e = .returned (.tuple #[.int .i64 0, .iface 162 (.pointer (some ⟨N, 0, none⟩))]) ∧ w.heap.size ≤ N ∧ _ ∧ Below w.heap.size w w' := Any.strconv_Atoi_syntax_var Tryz.laysC172 ⟨rs.toArray⟩ hl ha t1 p1 w h1
    refine hc.mono ?_
    rintro e w' ⟨N, he, _, _, hb⟩
    exact ⟨_, N, he, hb⟩
  · have hc : Calls Tryz.prog 98 #[.string ⟨rs.toArray⟩] w fun e w' => ∃ N, e = .returned (.tuple #[.int .i64 (Lib.atoiSat rs), .iface 162 (.pointer (some ⟨N, 0, none⟩))]) ∧ w.heap.size ≤ N ∧ _ ∧ Below w.heap.size w w' := Any.strconv_Atoi_range_var Tryz.laysC172 ⟨rs.toArray⟩ hl ha t2 p2 w h2
    refine hc.mono ?_
    rintro e w' ⟨N, he, _, _, hb⟩
    exact ⟨_, N, he, hb⟩
set_option maxRecDepth 8000 in
set_option maxHeartbeats 1000000 in
theorem parse_list (l : List UInt8) (w : World) (hs : l.length ≤ 281474976710656) (hv : Vars w) : Calls Tryz.prog 71 #[.string ⟨l.toArray⟩] w fun e w' => ∃ k n, e = .returned (.tuple #[.int .i64 k, .int .i64 n]) ∧ parsed l k n ∧ Below w.heap.size w w' := by
  have HV := Lib.hid hv
  clear hv
  obtain ⟨hd, hh⟩ : ∃ x, headN l = x := ⟨_, rfl⟩
  obtain ⟨rs, hr⟩ : ∃ x, restN l = x := ⟨_, rfl⟩
  have hrl : rs.length ≤ 281474976710656 := by
    rw [← hr]; unfold restN; split
    · simp
    · simp; omega
  have hcut : ∀ w, Calls Tryz.prog 96 #[.string ⟨l.toArray⟩, .string ⟨#[45]⟩] w fun e w' => ∃ b, e = .returned (.tuple #[.string ⟨hd.toArray⟩, .string ⟨rs.toArray⟩, .bool b]) ∧ Below w.heap.size w w' := by
    intro w
    have := cut_any ⟨l.toArray⟩ w (by rw [size_eq]; exact hs)
    rw [show (⟨l.toArray⟩ : ByteArray).data.toList = l from rfl, hh, hr] at this
    exact this
  have HH := Lib.hid hh
  have HR := Lib.hid hr
  clear hh hr
  by_cases h1 : hd = [102, 114, 101, 101]
  · subst h1
    by_cases ha : ∃ v, Lib.atoiAll rs = .ok v
    · obtain ⟨v, ha⟩ := ha
      have hvb := Lib.atoiAll_bounds ha
      have HA := Lib.hid ha
      clear ha
      cases hq : (poolN v == l) with
      | true =>
        have HQ := Lib.hid hq
        go_enter Tryz.func71, Tryz.ntmps71
        go_wp2_with (first
          | (go_at_call 96; (refine (hcut _).mono ?_); rintro e w1 ⟨b, rfl, hb⟩; have HB := Lib.hid hb; clear hb)
          | (go_at_call 98; (refine (atoi_ok rs v HA.out _ (by omega)).mono ?_); rintro e w2 ⟨rfl, hb⟩; have HB2 := Lib.hid (chain HB.out hb); clear hb)
          | (go_at_call 29; (refine (wal_any _ (by omega) (by omega) _ (HV.out.on HB2.out)).mono ?_); rintro e w3 ⟨rfl, hb⟩; have HB3 := Lib.hid (chain HB2.out hb); clear hb)
          | (go_at_call 97; (refine (pool_any _ (by omega) (by omega) _ (HV.out.on HB2.out)).mono ?_); rintro e w3 ⟨rfl, hb⟩; have HB3 := Lib.hid (chain HB2.out hb); clear hb))
        go_ret2
        exact ⟨_, _, rfl, parse_free_hit HH.out (by simpa using HQ.out), HB3.out⟩
      | false =>
        have HQ := Lib.hid hq
        go_enter Tryz.func71, Tryz.ntmps71
        go_wp2_with (first
          | (go_at_call 96; (refine (hcut _).mono ?_); rintro e w1 ⟨b, rfl, hb⟩; have HB := Lib.hid hb; clear hb)
          | (go_at_call 98; (refine (atoi_ok rs v HA.out _ (by omega)).mono ?_); rintro e w2 ⟨rfl, hb⟩; have HB2 := Lib.hid (chain HB.out hb); clear hb)
          | (go_at_call 29; (refine (wal_any _ (by omega) (by omega) _ (HV.out.on HB2.out)).mono ?_); rintro e w3 ⟨rfl, hb⟩; have HB3 := Lib.hid (chain HB2.out hb); clear hb)
          | (go_at_call 97; (refine (pool_any _ (by omega) (by omega) _ (HV.out.on HB2.out)).mono ?_); rintro e w3 ⟨rfl, hb⟩; have HB3 := Lib.hid (chain HB2.out hb); clear hb))
        go_ret2
        exact ⟨_, _, rfl, parse_free_miss HH.out (by rw [HR.out]; exact HA.out) (by simpa using HQ.out), HB3.out⟩
    · have HA := Lib.hid (show ∀ v, Lib.atoiAll rs ≠ .ok v from fun v hv => ha ⟨v, hv⟩)
      clear ha
      go_enter Tryz.func71, Tryz.ntmps71
      go_wp2_with (first
        | (go_at_call 96; (refine (hcut _).mono ?_); rintro e w1 ⟨b, rfl, hb⟩; have HB := Lib.hid hb; clear hb)
        | (go_at_call 98; (refine (atoi_err rs HA.out _ (by omega) (HV.out.on HB.out)).mono ?_); rintro e w2 ⟨v, N, rfl, hb⟩; have HB2 := Lib.hid (chain HB.out hb); clear hb)
        | (go_at_call 29; (refine (wal_any _ (by omega) (by omega) _ (HV.out.on HB2.out)).mono ?_); rintro e w3 ⟨rfl, hb⟩; have HB3 := Lib.hid (chain HB2.out hb); clear hb)
        | (go_at_call 97; (refine (pool_any _ (by omega) (by omega) _ (HV.out.on HB2.out)).mono ?_); rintro e w3 ⟨rfl, hb⟩; have HB3 := Lib.hid (chain HB2.out hb); clear hb))
      go_ret2
      exact ⟨_, _, rfl, parse_none (by rw [HR.out]; exact HA.out), HB2.out⟩
  by_cases h2 : hd = [119, 97, 108]
  · subst h2
    clear h1
    by_cases ha : ∃ v, Lib.atoiAll rs = .ok v
    · obtain ⟨v, ha⟩ := ha
      have hvb := Lib.atoiAll_bounds ha
      have HA := Lib.hid ha
      clear ha
      cases hq : (walN v == l) with
      | true =>
        have HQ := Lib.hid hq
        go_enter Tryz.func71, Tryz.ntmps71
        go_wp2_with (first
          | (go_at_call 96; (refine (hcut _).mono ?_); rintro e w1 ⟨b, rfl, hb⟩; have HB := Lib.hid hb; clear hb)
          | (go_at_call 98; (refine (atoi_ok rs v HA.out _ (by omega)).mono ?_); rintro e w2 ⟨rfl, hb⟩; have HB2 := Lib.hid (chain HB.out hb); clear hb)
          | (go_at_call 29; (refine (wal_any _ (by omega) (by omega) _ (HV.out.on HB2.out)).mono ?_); rintro e w3 ⟨rfl, hb⟩; have HB3 := Lib.hid (chain HB2.out hb); clear hb)
          | (go_at_call 97; (refine (pool_any _ (by omega) (by omega) _ (HV.out.on HB2.out)).mono ?_); rintro e w3 ⟨rfl, hb⟩; have HB3 := Lib.hid (chain HB2.out hb); clear hb))
        go_ret2
        exact ⟨_, _, rfl, parse_wal_hit HH.out (by simpa using HQ.out), HB3.out⟩
      | false =>
        have HQ := Lib.hid hq
        go_enter Tryz.func71, Tryz.ntmps71
        go_wp2_with (first
          | (go_at_call 96; (refine (hcut _).mono ?_); rintro e w1 ⟨b, rfl, hb⟩; have HB := Lib.hid hb; clear hb)
          | (go_at_call 98; (refine (atoi_ok rs v HA.out _ (by omega)).mono ?_); rintro e w2 ⟨rfl, hb⟩; have HB2 := Lib.hid (chain HB.out hb); clear hb)
          | (go_at_call 29; (refine (wal_any _ (by omega) (by omega) _ (HV.out.on HB2.out)).mono ?_); rintro e w3 ⟨rfl, hb⟩; have HB3 := Lib.hid (chain HB2.out hb); clear hb)
          | (go_at_call 97; (refine (pool_any _ (by omega) (by omega) _ (HV.out.on HB2.out)).mono ?_); rintro e w3 ⟨rfl, hb⟩; have HB3 := Lib.hid (chain HB2.out hb); clear hb))
        go_ret2
        exact ⟨_, _, rfl, parse_wal_miss HH.out (by rw [HR.out]; exact HA.out) (by simpa using HQ.out), HB3.out⟩
    · have HA := Lib.hid (show ∀ v, Lib.atoiAll rs ≠ .ok v from fun v hv => ha ⟨v, hv⟩)
      clear ha
      go_enter Tryz.func71, Tryz.ntmps71
      go_wp2_with (first
        | (go_at_call 96; (refine (hcut _).mono ?_); rintro e w1 ⟨b, rfl, hb⟩; have HB := Lib.hid hb; clear hb)
        | (go_at_call 98; (refine (atoi_err rs HA.out _ (by omega) (HV.out.on HB.out)).mono ?_); rintro e w2 ⟨v, N, rfl, hb⟩; have HB2 := Lib.hid (chain HB.out hb); clear hb)
        | (go_at_call 29; (refine (wal_any _ (by omega) (by omega) _ (HV.out.on HB2.out)).mono ?_); rintro e w3 ⟨rfl, hb⟩; have HB3 := Lib.hid (chain HB2.out hb); clear hb)
        | (go_at_call 97; (refine (pool_any _ (by omega) (by omega) _ (HV.out.on HB2.out)).mono ?_); rintro e w3 ⟨rfl, hb⟩; have HB3 := Lib.hid (chain HB2.out hb); clear hb))
      go_ret2
      exact ⟨_, _, rfl, parse_none (by rw [HR.out]; exact HA.out), HB2.out⟩
  have HN := Lib.hid (show headN l ≠ [102, 114, 101, 101] from by rw [HH.out]; exact h1)
  have HM := Lib.hid (show headN l ≠ [119, 97, 108] from by rw [HH.out]; exact h2)
  have e1 : (hd == [102, 114, 101, 101]) = false := by simpa using h1
  have e2 : (hd == [119, 97, 108]) = false := by simpa using h2
  clear h1 h2
  go_enter Tryz.func71, Tryz.ntmps71
  go_wp2_with (first
    | (go_at_call 96; (refine (hcut _).mono ?_); rintro e w1 ⟨b, rfl, hb⟩; have HB := Lib.hid hb; clear hb))
  go_ret2
  exact ⟨_, _, rfl, parse_other HN.out HM.out, HB.out⟩
end Go.Proofs.YtpoiapfgbbmekaaGreatDoor
