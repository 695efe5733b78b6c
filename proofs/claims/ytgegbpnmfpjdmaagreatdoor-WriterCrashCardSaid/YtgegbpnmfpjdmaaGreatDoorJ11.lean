/-
  TEXTS JOINED: CrcMath, CrcRef, CrcPat, FR, FragMath, HeadMath, NameMath. Each one's own words stand at its head.
-/
import Derived.Test.YtgegbpnmfpjdmaaGreatDoorJ0
import Derived.Laws.BitsAllLaws
import Derived.Test.YtgegbpnmfpjdmaaGreatDoorJ3
import Derived.Test.YtgegbpnmfpjdmaaGreatDoorJ5
import Derived.Lib.AtoiTie
import Derived.Lib.AtoiAllCases
import Derived.Lib.ItoaLen
import Derived.Lib.ItoaMem
import Derived.Lib.Bytealg
import Derived.Lib.Strings
namespace Go.Proofs.YtgegbpnmfpjdmaaGreatDoor
def st (x : Nat) : Nat := if x % 2 = 1 then x / 2 ^^^ 2197175160 else x / 2
def stn : Nat → Nat → Nat
  | 0, x => x
  | n + 1, x => stn n (st x)
theorem st_lt (x : Nat) (h : x < 4294967296) : st x < 4294967296 := by
  unfold st
  split
  · exact Nat.xor_lt_two_pow (n := 32) (by omega) (by omega)
  · omega
theorem stn_lt (n x : Nat) (h : x < 4294967296) : stn n x < 4294967296 := by
  induction n generalizing x with
  | zero => exact h
  | succ n ih => exact ih _ (st_lt x h)
theorem xor_lt (x y : Nat) (h : x < 4294967296) (k : y < 4294967296) : x ^^^ y < 4294967296 := Nat.xor_lt_two_pow (n := 32) h k
theorem xor_right_comm (a b c : Nat) : a ^^^ b ^^^ c = a ^^^ c ^^^ b := by rw [Nat.xor_assoc, Nat.xor_comm b, ← Nat.xor_assoc]
theorem xor_swap4 (a b c d : Nat) : a ^^^ b ^^^ (c ^^^ d) = a ^^^ c ^^^ (b ^^^ d) := by
  rw [← Nat.xor_assoc, ← Nat.xor_assoc, xor_right_comm a b c]
theorem st_xor (x y : Nat) : st (x ^^^ y) = st x ^^^ st y := by
  have hm : (x ^^^ y) % 2 = (x % 2 + y % 2) % 2 := by
    rw [show (x ^^^ y) % 2 = (x % 2) ^^^ (y % 2) from Nat.xor_mod_two_pow (n := 1)]
    rcases Nat.mod_two_eq_zero_or_one x with hx | hx <;> rcases Nat.mod_two_eq_zero_or_one y with hy | hy <;> rw [hx, hy] <;> rfl
  unfold st
  rw [Nat.xor_div_two]
  rcases Nat.mod_two_eq_zero_or_one x with hx | hx <;> rcases Nat.mod_two_eq_zero_or_one y with hy | hy
  · rw [if_neg (by omega), if_neg (by omega), if_neg (by omega)]
  · rw [if_pos (by omega), if_neg (by omega), if_pos (by omega), Nat.xor_assoc]
  · rw [if_pos (by omega), if_pos (by omega), if_neg (by omega), xor_right_comm]
  · rw [if_neg (by omega), if_pos (by omega), if_pos (by omega), xor_swap4, Nat.xor_self, Nat.xor_zero]
theorem stn_xor (n x y : Nat) : stn n (x ^^^ y) = stn n x ^^^ stn n y := by
  induction n generalizing x y with
  | zero => rfl
  | succ n ih => simp only [stn]; rw [st_xor, ih]
theorem stn_add (m n x : Nat) : stn (m + n) x = stn n (stn m x) := by
  induction m generalizing x with
  | zero => rw [Nat.zero_add]; rfl
  | succ m ih => rw [show m + 1 + n = (m + n) + 1 from by omega]; exact ih (st x)
theorem stn_succ (n x : Nat) : stn (n + 1) x = st (stn n x) := by rw [stn_add]; rfl
theorem st_even (y : Nat) : st (2 * y) = y := by unfold st; rw [if_neg (by omega)]; omega
theorem stn_up (n y : Nat) : stn n (2 ^ n * y) = y := by
  induction n generalizing y with
  | zero => simp [stn]
  | succ n ih => rw [stn, Nat.pow_succ, Nat.mul_comm (2 ^ n) 2, Nat.mul_assoc, st_even]; exact ih y
theorem up_xor (n a b : Nat) (h : b < 2 ^ n) : 2 ^ n * a + b = b ^^^ 2 ^ n * a := by
  refine Nat.eq_of_testBit_eq fun j => ?_
  rw [Nat.testBit_two_pow_mul_add a h, Nat.testBit_xor, Nat.testBit_two_pow_mul]
  by_cases hj : j < n
  · simp [hj, Nat.not_le.2 hj]
  · have h1 : b.testBit j = false := Nat.testBit_lt_two_pow (Nat.lt_of_lt_of_le h (Nat.pow_le_pow_right (by omega) (by omega)))
    simp [hj, Nat.not_lt.1 hj, h1]
theorem not32 (s : Nat) (h : s < 4294967296) : 4294967295 - s = s ^^^ 4294967295 := by
  refine Nat.eq_of_testBit_eq fun j => ?_
  have h1 := Nat.testBit_two_pow_sub_succ (x := s) (n := 32) h j
  rw [show (2 : Nat) ^ 32 - (s + 1) = 4294967295 - s from by omega] at h1
  rw [h1, Nat.testBit_xor, show (4294967295 : Nat) = 2 ^ 32 - 1 from rfl, Nat.testBit_two_pow_sub_one]
  by_cases hj : j < 32
  · simp [hj]
  · have h2 : s.testBit j = false := Nat.testBit_lt_two_pow (Nat.lt_of_lt_of_le (show s < 2 ^ 32 from h) (Nat.pow_le_pow_right (by omega) (by omega)))
    simp [hj, h2]
theorem half_step (x : Nat) : stn 4 x = x / 16 ^^^ stn 4 (x % 16) := by
  have e : x = x % 16 ^^^ 2 ^ 4 * (x / 16) := by rw [← up_xor 4 (x / 16) (x % 16) (by omega)]; omega
  have h : stn 4 x = stn 4 (x % 16 ^^^ 2 ^ 4 * (x / 16)) := by rw [← e]
  rw [h, stn_xor, stn_up, Nat.xor_comm]
def reg : Nat → List Int → Nat
  | r, [] => r
  | r, c :: l => reg (stn 8 (r ^^^ c.toNat)) l
theorem reg_nil (r : Nat) : reg r [] = r := rfl
theorem reg_cons (r : Nat) (c : Int) (l : List Int) : reg r (c :: l) = reg (stn 8 (r ^^^ c.toNat)) l := rfl
theorem reg_append (r : Nat) (a b : List Int) : reg r (a ++ b) = reg (reg r a) b := by
  induction a generalizing r with
  | nil => rfl
  | cons c a ih => exact ih _
theorem reg_lt (l : List Int) (hb : ∀ x ∈ l, 0 ≤ x ∧ x ≤ 255) (r : Nat) (h : r < 4294967296) : reg r l < 4294967296 := by
  induction l generalizing r with
  | nil => exact h
  | cons c l ih =>
    have hc := hb c (by simp)
    show reg (stn 8 (r ^^^ c.toNat)) l < 4294967296
    exact ih (fun x hx => hb x (List.mem_cons_of_mem _ hx)) (stn 8 (r ^^^ c.toNat)) (stn_lt 8 (r ^^^ c.toNat) (xor_lt r c.toNat h (by omega)))
def moreS (s : Nat) (l : List Int) : Nat := 4294967295 - reg (4294967295 - s) l
def ofS (l : List Int) : Nat := moreS 0 l
theorem moreS_lt (s : Nat) (l : List Int) : moreS s l < 4294967296 := by unfold moreS; omega
theorem ofS_lt (l : List Int) : ofS l < 4294967296 := moreS_lt 0 l
def maskS (s : Nat) : Nat := (s / 32768 + s % 32768 * 131072 + 2726488792) % 4294967296
theorem maskS_lt (s : Nat) : maskS s < 4294967296 := by unfold maskS; omega
end Go.Proofs.YtgegbpnmfpjdmaaGreatDoor
namespace Go.Proofs.YtgegbpnmfpjdmaaGreatDoor
open Go.RowKit
theorem drop_getD (zs : List Int) (k : Nat) (h : k < zs.length) : zs.drop k = zs.getD k 0 :: zs.drop (k + 1) := by
  rw [List.drop_eq_getElem_cons h]; simp [List.getD, h]
set_option maxRecDepth 8000 in
set_option maxHeartbeats 400000 in
theorem rstep_any (n : Nat) (h : n < 4294967296) (w : World) : Calls Tryz.prog 156 #[.int .u32 n] w fun e w' => e = .returned (.int .u32 (st n)) ∧ w = w' := by
  have hx := u32_xor_nat (n / 2) 2197175160 (by omega) (by omega)
  rw [show (((n / 2 : Nat)) : Int) = (n : Int) / 2 from by omega] at hx
  have HX := Lib.hid hx; clear hx
  have hn : (n : Int) ≤ 4294967295 := by omega
  have HN := Lib.hid h; clear h
  by_cases hm : (n : Int) % 2 = 1
  all_goals
    go_enter Tryz.func156, Tryz.ntmps156
    go_wp2
    go_ret
    refine ⟨ret_int ?_, rfl⟩
    unfold st
  · rw [if_pos (by omega), ← HX.out]; rfl
  · rw [if_neg (by omega)]; simp
set_option maxRecDepth 8000 in
set_option maxHeartbeats 800000 in
theorem rmore_some (s : Nat) (h : s < 4294967296) (b off len cap : Nat) (zs : List Int) (w : World) (hz : zs.length = len) (hb : ∀ x ∈ zs, 0 ≤ x ∧ x ≤ 255) (hl : (len : Int) ≤ 9223372036854775807)
    (hc : ∀ j, j < len → w.cell? ⟨b, off + j, none⟩ = some (.int .u8 (zs.getD j 0))) :
    Calls Tryz.prog 144 #[.int .u32 s, .slice (some ⟨b, off, none⟩) len cap] w fun e w' => e = .returned (.int .u32 (moreS s zs)) ∧ w = w' := by
  have hs : (s : Int) ≤ 4294967295 := by omega
  obtain ⟨m, hm⟩ : ∃ m, moreS s zs = m := ⟨_, rfl⟩
  rw [hm]
  have HM := Lib.hid hm
  have HC := Lib.hid hc
  have HZ := Lib.hid hz
  have HB := Lib.hid hb
  have HS := Lib.hid h
  clear hm hc hz hb h
  go_enter Tryz.func144, Tryz.ntmps144
  go_wp2
  go_loop [5, 6] (fun x i => ∃ (k r : Nat), i = .int .i64 k ∧ x = .int .u32 r ∧ k ≤ len ∧ Hid (r < 4294967296) ∧ Hid (reg r (zs.drop k) = reg (4294967295 - s) zs)) (fun _ i => len - (intOf i).toNat)
  case atStart => exact ⟨0, 4294967295 - s, rfl, by have := HS.out; congr 1; omega, by omega, Lib.hid (by omega), rfl⟩
  case round =>
    obtain ⟨k, r, rfl, rfl, hk, HR, HG⟩ := hrel
    by_cases hlt : k < len
    · obtain ⟨x, hx⟩ : ∃ x, zs.getD k 0 = x := ⟨_, rfl⟩
      have hcell : w.cell? ⟨b, off + k, none⟩ = some (.int .u8 x) := by rw [← hx]; exact HC.out k hlt
      have hxb : 0 ≤ x ∧ x ≤ 255 := by
        rw [← hx]; exact (bytes_of_mem HB.out) k
      have HD := Lib.hid (show reg r (x :: zs.drop (k + 1)) = reg (4294967295 - s) zs from by rw [← hx, ← drop_getD zs k (by rw [HZ.out]; exact hlt)]; exact HG.out)
      obtain ⟨y, rfl⟩ : ∃ y : Nat, x = (y : Int) := ⟨x.toNat, by omega⟩
      have HX := Lib.hid (u32_xor_nat r y HR.out (by omega))
      have HXL := Lib.hid (xor_lt r y HR.out (by omega))
      clear hx HG
      obtain ⟨r0, hr0⟩ : ∃ r0, r ^^^ y = r0 := ⟨_, rfl⟩
      rw [hr0] at HX HXL
      have H0 := Lib.hid hr0; clear hr0
      have hxx : bits .xor .u32 (r : Int) (y : Int) = (r0 : Int) := HX.out
      clear HX
      go_wp2
      go_loop [5, 7] (fun x j => ∃ (c q : Nat), j = .int .i64 c ∧ x = .int .u32 q ∧ c ≤ 8 ∧ Hid (q < 4294967296) ∧ Hid (stn c r0 = q)) (fun _ j => 8 - (intOf j).toNat)
      case atStart => exact ⟨0, r0, rfl, rfl, by omega, HXL, rfl⟩
      case round =>
        obtain ⟨c, q, rfl, rfl, hc8, HQ, HT⟩ := hrel
        by_cases hlt2 : c < 8
        · go_wp2_with (first | (go_at_call 156; (with_reducible refine (rstep_any q HQ.out _).mono ?_); rintro e w' ⟨rfl, rfl⟩))
          go_round
          case rel => exact ⟨c + 1, st q, by go_num, rfl, by omega, st_lt q HQ.out, by rw [← HT.out]; exact stn_succ c r0⟩
          case measure => simp [intOf]; omega
        · go_wp2
          go_round
          case rel =>
            refine ⟨k + 1, q, by go_num, rfl, by omega, HQ, ?_⟩
            have h1 := HD.out
            rw [reg_cons, Int.toNat_natCast, H0.out, show 8 = c from by omega, HT.out] at h1
            exact h1
          case measure => simp [intOf]; omega
    · go_wp2
      go_ret
      refine ⟨ret_int ?_, rfl⟩
      have h1 := HG.out
      rw [show zs.drop k = [] from List.drop_eq_nil_of_le (by rw [HZ.out]; omega), reg_nil] at h1
      have h2 := HM.out; have h3 := HR.out
      unfold moreS at h2; omega
set_option maxRecDepth 8000 in
set_option maxHeartbeats 400000 in
theorem rmore_zero (s : Nat) (h : s < 4294967296) (a : Option Addr) (cap : Nat) (w : World) :
    Calls Tryz.prog 144 #[.int .u32 s, .slice a 0 cap] w fun e w' => e = .returned (.int .u32 (moreS s [])) ∧ w = w' := by
  have hs : (s : Int) ≤ 4294967295 := by omega
  have HS := Lib.hid h; clear h
  go_enter Tryz.func144, Tryz.ntmps144
  go_wp2
  refine wp_loop_rounds 1 ?_
  rw [rounds_succ]
  go_wp2
  go_ret
  refine ⟨ret_int ?_, rfl⟩
  have := HS.out
  unfold moreS
  rw [reg_nil]; omega
theorem rmore_any {s len : Nat} (h : s < 4294967296) {v : Value} {zs : List Int} {w : World} (hri : RI .u8 w v len zs) (hb : ∀ x ∈ zs, 0 ≤ x ∧ x ≤ 255) {m : Nat} (hm : moreS s zs = m) :
    Calls Tryz.prog 144 #[.int .u32 s, v] w fun e w' => e = .returned (.int .u32 m) ∧ w = w' := by
  subst hm
  obtain ⟨a, cap, rfl, hl, h1, h2, _, hc⟩ := hri
  by_cases h0 : 0 < len
  · obtain ⟨b, off, rfl, hcell⟩ := hc h0
    exact rmore_some s h b off len cap zs w hl hb (by omega) hcell
  · obtain rfl : len = 0 := by omega
    obtain rfl : zs = [] := List.length_eq_zero_iff.1 hl
    exact rmore_zero s h a cap w
theorem rmore_0 {len : Nat} {v : Value} {zs : List Int} {w : World} (hri : RI .u8 w v len zs) (hb : ∀ x ∈ zs, 0 ≤ x ∧ x ≤ 255) {m : Nat} (hm : moreS 0 zs = m) :
    Calls Tryz.prog 144 #[.int .u32 0, v] w fun e w' => e = .returned (.int .u32 m) ∧ w = w' := rmore_any (s := 0) (by omega) hri hb hm
theorem rof_any {len : Nat} {v : Value} {zs : List Int} {w : World} (hri : RI .u8 w v len zs) (hb : ∀ x ∈ zs, 0 ≤ x ∧ x ≤ 255) {m : Nat} (hm : ofS zs = m) :
    Calls Tryz.prog 124 #[v] w fun e w' => e = .returned (.int .u32 m) ∧ w = w' := by
  have HR := Lib.hid hri
  have HB := Lib.hid hb
  have HM := Lib.hid (show moreS 0 zs = m from hm)
  clear hri hb hm
  go_enter Tryz.func124, Tryz.ntmps124
  go_wp2_with (first | (go_at_call 144; (with_reducible refine (rmore_0 HR.out HB.out HM.out).mono ?_); rintro e w' ⟨rfl, rfl⟩))
  go_ret
  exact ⟨rfl, rfl⟩
set_option maxRecDepth 8000 in
theorem rmask_any (n : Nat) (h : n < 4294967296) (w : World) : Calls Tryz.prog 123 #[.int .u32 n] w fun e w' => e = .returned (.int .u32 (maskS n)) ∧ w = w' := by
  have hn : (n : Int) ≤ 4294967295 := by omega
  clear h
  go_enter Tryz.func123, Tryz.ntmps123
  go_wp2
  go_ret
  refine ⟨ret_int ?_, rfl⟩
  unfold maskS
  omega
theorem rmask_at (n m : Nat) (h : n < 4294967296) (hm : maskS n = m) (w : World) : Calls Tryz.prog 123 #[.int .u32 n] w fun e w' => e = .returned (.int .u32 m) ∧ w = w' :=
  (rmask_any n h w).mono fun _ _ ⟨he, hw⟩ => ⟨by rw [he, hm], hw⟩
end Go.Proofs.YtgegbpnmfpjdmaaGreatDoor
namespace Go.Proofs.YtgegbpnmfpjdmaaGreatDoor
open Go.RowKit
end Go.Proofs.YtgegbpnmfpjdmaaGreatDoor
namespace Go.Proofs.YtgegbpnmfpjdmaaGreatDoor
structure FR where
  kind : Int
  epoch : Int
  data : List Int
deriving instance DecidableEq for FR
end Go.Proofs.YtgegbpnmfpjdmaaGreatDoor
namespace Go.Proofs.YtgegbpnmfpjdmaaGreatDoor
def fragOk (k : Int) (n : Nat) : Bool := decide (1 ≤ k ∧ k ≤ 4 ∧ n ≤ 197)
theorem fok_parts {k : Int} {n : Nat} (h : fragOk k n = true) : 1 ≤ k ∧ k ≤ 4 ∧ n ≤ 197 := of_decide_eq_true h
def num (zs : List Int) (a n : Nat) : Int := getI (zs.drop a) n
def fragK (k e : Int) (n : Nat) : List Int := putL n 2 ++ [k] ++ putL e 4
def fragT (k e : Int) (d : List Int) : List Int := fragK k e d.length ++ d
def fragS (k e : Int) (d : List Int) : Nat := maskS (ofS (fragT k e d))
def fragB (k e : Int) (d : List Int) : List Int := putL (fragS k e d) 4 ++ fragT k e d
theorem fragK_length (k e : Int) (n : Nat) : (fragK k e n).length = 7 := by simp [fragK, putL_length]
theorem fragT_length (k e : Int) (d : List Int) : (fragT k e d).length = 7 + d.length := by simp [fragT, fragK_length]
theorem fragB_length (k e : Int) (d : List Int) : (fragB k e d).length = 11 + d.length := by simp [fragB, fragT_length, putL_length]; omega
theorem putL_isB (n : Int) (k : Nat) : isB (putL n k) := (putL_bytes n k).mem
theorem fragK_bytes {k : Int} (hk : 0 ≤ k ∧ k ≤ 255) (e : Int) (n : Nat) : isB (fragK k e n) :=
  isB.append (isB.append (putL_isB _ _) (fun x hx => by simp only [List.mem_cons, List.not_mem_nil, or_false] at hx; subst hx; exact hk)) (putL_isB _ _)
theorem fragT_bytes {k : Int} (hk : 0 ≤ k ∧ k ≤ 255) (e : Int) {d : List Int} (hd : isB d) : isB (fragT k e d) := (fragK_bytes hk e _).append hd
theorem fragB_bytes {k : Int} (hk : 0 ≤ k ∧ k ≤ 255) (e : Int) {d : List Int} (hd : isB d) : isB (fragB k e d) := isB.append (putL_isB _ _) (fragT_bytes hk e hd)
theorem fragS_lt (k e : Int) (d : List Int) : fragS k e d < 4294967296 := maskS_lt _
theorem getI_take (l : List Int) (m k : Nat) (h : k ≤ m) : getI (l.take m) k = getI l k := by
  induction k with
  | zero => rfl
  | succ k ih =>
    have e : (l.take m).getD k 0 = l.getD k 0 := by simp only [List.getD, List.getElem?_take, show k < m by omega, if_true]
    simp only [getI]; rw [ih (by omega), e]
theorem getI_append (a b : List Int) (k : Nat) (h : k ≤ a.length) : getI (a ++ b) k = getI a k := by
  have := getI_take (a ++ b) a.length k h
  rw [List.take_left] at this
  exact this.symm
theorem num_bd {zs : List Int} (h : isB zs) (a n : Nat) : 0 ≤ num zs a n ∧ num zs a n < 2 ^ (8 * n) := getI_bd _ (bytes_of_mem (h.drop a)) n
end Go.Proofs.YtgegbpnmfpjdmaaGreatDoor
namespace Go.Proofs.YtgegbpnmfpjdmaaGreatDoor
structure Hdr where
  e : Int
  s : Int
  f : Int
  l : List Int
deriving instance DecidableEq for Hdr
def noH : Hdr := ⟨0, 0, 0, [0, 0, 0, 0]⟩
structure HdT (h : Hdr) : Prop where
  e : U64 h.e
  s : I63 h.s
  f : I63 h.f
  n : h.l.length = 4
  l : ∀ x ∈ h.l, I63 x
def lsn (n : Int) : Bool := decide (1 ≤ n ∧ n ≤ 2147483647)
def hdOk (h : Hdr) : Bool := decide (h.e ≠ 0) && lsn h.s && lsn h.f && h.l.all fun x => decide (0 ≤ x ∧ x < h.f)
theorem lsn_bd {n : Int} (h : lsn n = true) : 1 ≤ n ∧ n ≤ 2147483647 := of_decide_eq_true h
theorem hdOk_parts {h : Hdr} (hk : hdOk h = true) : h.e ≠ 0 ∧ (1 ≤ h.s ∧ h.s ≤ 2147483647) ∧ (1 ≤ h.f ∧ h.f ≤ 2147483647) ∧ ∀ x ∈ h.l, 0 ≤ x ∧ x < h.f := by
  unfold hdOk at hk
  simp only [Bool.and_eq_true, decide_eq_true_eq, List.all_eq_true] at hk
  exact ⟨hk.1.1.1, lsn_bd hk.1.1.2, lsn_bd hk.1.2, hk.2⟩
theorem hdOk_of {h : Hdr} (h1 : h.e ≠ 0) (h2 : lsn h.s = true) (h3 : lsn h.f = true) (h4 : ∀ x ∈ h.l, 0 ≤ x ∧ x < h.f) : hdOk h = true := by
  unfold hdOk
  simp only [Bool.and_eq_true, decide_eq_true_eq, List.all_eq_true]
  exact ⟨⟨⟨h1, h2⟩, h3⟩, h4⟩
def mark : List Int := [115, 116, 114, 100, 1]
def put4 (l : List Int) : List Int := (l.map fun x => putL x 4).flatten
def headP (h : Hdr) : List Int := mark ++ putL h.e 8 ++ putL h.s 4 ++ putL h.f 4 ++ put4 h.l
def headS (h : Hdr) : Nat := maskS (ofS (headP h))
def headB (h : Hdr) : List Int := headP h ++ putL (headS h) 4
def secH (h : Hdr) : List Int := headB h ++ List.replicate 23 0
def readH (zs : List Int) : Hdr := ⟨num zs 5 8, num zs 13 4, num zs 17 4, [num zs 21 4, num zs 25 4, num zs 29 4, num zs 33 4]⟩
theorem put4_length (l : List Int) : (put4 l).length = 4 * l.length := by
  induction l with
  | nil => rfl
  | cons a l ih => simp only [put4, List.map_cons, List.flatten_cons, List.length_append, putL_length, List.length_cons] at *; omega
theorem put4_bytes (l : List Int) : isB (put4 l) := by
  intro x hx
  simp only [put4, List.mem_flatten, List.mem_map] at hx
  obtain ⟨m, ⟨a, _, rfl⟩, hm⟩ := hx
  exact putL_isB a 4 x hm
theorem put4_snoc (l : List Int) (x : Int) : put4 (l ++ [x]) = put4 l ++ putL x 4 := by simp [put4]
theorem mark_bytes : isB mark := by intro x hx; simp only [mark, List.mem_cons, List.not_mem_nil, or_false] at hx; omega
theorem mark_length : mark.length = 5 := rfl
theorem headP_length {h : Hdr} (hn : h.l.length = 4) : (headP h).length = 37 := by simp [headP, putL_length, put4_length, mark_length, hn]
theorem headB_length {h : Hdr} (hn : h.l.length = 4) : (headB h).length = 41 := by simp [headB, putL_length, headP_length hn]
theorem secH_length {h : Hdr} (hn : h.l.length = 4) : (secH h).length = 64 := by simp [secH, headB_length hn]
theorem headP_bytes (h : Hdr) : isB (headP h) := ((((mark_bytes.append (putL_isB _ _)).append (putL_isB _ _)).append (putL_isB _ _)).append (put4_bytes _))
theorem headB_bytes (h : Hdr) : isB (headB h) := (headP_bytes h).append (putL_isB _ _)
theorem zeros_bytes (n : Nat) : isB (List.replicate n 0) := fun x hx => by have := (List.mem_replicate.1 hx).2; omega
theorem secH_bytes (h : Hdr) : isB (secH h) := (headB_bytes h).append (zeros_bytes _)
theorem num_mid (a r : List Int) (x : Int) (n k : Nat) (hk : a.length = k) : num (a ++ (putL x n ++ r)) k n = x % 2 ^ (8 * n) := by
  unfold num
  rw [List.drop_left' hk, getI_append _ _ _ (by rw [putL_length]; omega), getI_put _ _ _ (Nat.le_refl _)]
theorem readH_put {h : Hdr} (ht : HdT h) (hk : hdOk h = true) (r : List Int) : readH (headP h ++ r) = h := by
  obtain ⟨e, s, f, l⟩ := h
  have hn := ht.n
  obtain ⟨_, h2, h3, h4⟩ := hdOk_parts hk
  have he := ht.e
  unfold U64 at he
  simp only at *
  match l, hn, h4 with
  | [a, b, c, d], _, h4 =>
    have ha := h4 a (by simp)
    have hb := h4 b (by simp)
    have hc := h4 c (by simp)
    have hd := h4 d (by simp)
    have e0 : headP ⟨e, s, f, [a, b, c, d]⟩ ++ r = mark ++ putL e 8 ++ putL s 4 ++ putL f 4 ++ putL a 4 ++ putL b 4 ++ putL c 4 ++ putL d 4 ++ r := by
      simp [headP, put4, List.append_assoc]
    rw [e0]
    unfold readH
    have p1 : num (mark ++ putL e 8 ++ putL s 4 ++ putL f 4 ++ putL a 4 ++ putL b 4 ++ putL c 4 ++ putL d 4 ++ r) 5 8 = e := by
      simp only [List.append_assoc]
      have := num_mid mark (putL s 4 ++ (putL f 4 ++ (putL a 4 ++ (putL b 4 ++ (putL c 4 ++ (putL d 4 ++ r)))))) e 8 5 rfl
      rw [this]; omega
    have step : ∀ (q : List Int) (x : Int) (t : List Int) (k : Nat), q.length = k → 0 ≤ x → x < 4294967296 → num (q ++ putL x 4 ++ t) k 4 = x := fun q x t k hq h0 h1 => by
      rw [List.append_assoc, num_mid _ _ _ _ _ hq]; omega
    have p2 := step (mark ++ putL e 8) s (putL f 4 ++ putL a 4 ++ putL b 4 ++ putL c 4 ++ putL d 4 ++ r) 13 (by simp [putL_length, mark_length]) (by omega) (by omega)
    have p3 := step (mark ++ putL e 8 ++ putL s 4) f (putL a 4 ++ putL b 4 ++ putL c 4 ++ putL d 4 ++ r) 17 (by simp [putL_length, mark_length]) (by omega) (by omega)
    have p4 := step (mark ++ putL e 8 ++ putL s 4 ++ putL f 4) a (putL b 4 ++ putL c 4 ++ putL d 4 ++ r) 21 (by simp [putL_length, mark_length]) (by omega) (by omega)
    have p5 := step (mark ++ putL e 8 ++ putL s 4 ++ putL f 4 ++ putL a 4) b (putL c 4 ++ putL d 4 ++ r) 25 (by simp [putL_length, mark_length]) (by omega) (by omega)
    have p6 := step (mark ++ putL e 8 ++ putL s 4 ++ putL f 4 ++ putL a 4 ++ putL b 4) c (putL d 4 ++ r) 29 (by simp [putL_length, mark_length]) (by omega) (by omega)
    have p7 := step (mark ++ putL e 8 ++ putL s 4 ++ putL f 4 ++ putL a 4 ++ putL b 4 ++ putL c 4) d r 33 (by simp [putL_length, mark_length]) (by omega) (by omega)
    simp only [List.append_assoc] at p1 p2 p3 p4 p5 p6 p7 ⊢
    rw [p1, p2, p3, p4, p5, p6, p7]
theorem readH_typed {zs : List Int} (hb : isB zs) : HdT (readH zs) := by
  have b8 := num_bd hb 5 8
  have b4 : ∀ a, I63 (num zs a 4) := fun a => by have := num_bd hb a 4; unfold I63; omega
  refine ⟨by unfold U64; simp only [readH]; omega, b4 _, b4 _, rfl, fun x hx => ?_⟩
  simp only [readH, List.mem_cons, List.not_mem_nil, or_false] at hx
  rcases hx with rfl | rfl | rfl | rfl <;> exact b4 _
theorem noH_typed : HdT noH := ⟨by unfold U64; simp only [noH]; omega, by unfold I63; simp only [noH]; omega, by unfold I63; simp only [noH]; omega, rfl, fun x hx => by
  simp only [noH, List.mem_cons, List.not_mem_nil, or_false, or_self] at hx; subst hx; unfold I63; omega⟩
def headD (zs : List Int) : Hdr × Int :=
  if zs = z64 then (noH, 7) else
  if zs.take 5 ≠ mark ∨ zs.drop 41 ≠ List.replicate 23 0 then (noH, 2) else
  if (zs.drop 37).take 4 ≠ putL (maskS (ofS (zs.take 37))) 4 then (noH, 3) else
  if hdOk (readH zs) = true then (readH zs, 0) else (noH, 2)
section
variable {zs : List Int}
theorem headD_none (h : zs = z64) : headD zs = (noH, 7) := by unfold headD; rw [if_pos h]
theorem headD_form (h : ¬ zs = z64) (h2 : zs.take 5 ≠ mark ∨ zs.drop 41 ≠ List.replicate 23 0) : headD zs = (noH, 2) := by unfold headD; rw [if_neg h, if_pos h2]
section
variable (h : ¬ zs = z64) (h2 : zs.take 5 = mark) (h3 : zs.drop 41 = List.replicate 23 0)
include h h2 h3
theorem headD_sum (h4 : (zs.drop 37).take 4 ≠ putL (maskS (ofS (zs.take 37))) 4) : headD zs = (noH, 3) := by
  unfold headD; rw [if_neg h, if_neg (by simp [h2, h3]), if_pos h4]
variable (h4 : (zs.drop 37).take 4 = putL (maskS (ofS (zs.take 37))) 4)
include h4
theorem headD_wrong (h5 : hdOk (readH zs) = false) : headD zs = (noH, 2) := by
  unfold headD; rw [if_neg h, if_neg (by simp [h2, h3]), if_neg (by simp [h4]), if_neg (by simp [h5])]
theorem headD_ok (h5 : hdOk (readH zs) = true) : headD zs = (readH zs, 0) := by
  unfold headD; rw [if_neg h, if_neg (by simp [h2, h3]), if_neg (by simp [h4]), if_pos h5]
end
theorem headD_cases : (zs = z64 ∧ headD zs = (noH, 7)) ∨ (¬ zs = z64 ∧ (zs.take 5 ≠ mark ∨ zs.drop 41 ≠ List.replicate 23 0) ∧ headD zs = (noH, 2)) ∨
    (¬ zs = z64 ∧ zs.take 5 = mark ∧ zs.drop 41 = List.replicate 23 0 ∧ (zs.drop 37).take 4 ≠ putL (maskS (ofS (zs.take 37))) 4 ∧ headD zs = (noH, 3)) ∨
    (¬ zs = z64 ∧ zs.take 5 = mark ∧ zs.drop 41 = List.replicate 23 0 ∧ (zs.drop 37).take 4 = putL (maskS (ofS (zs.take 37))) 4 ∧ hdOk (readH zs) = false ∧ headD zs = (noH, 2)) ∨
    (¬ zs = z64 ∧ zs.take 5 = mark ∧ zs.drop 41 = List.replicate 23 0 ∧ (zs.drop 37).take 4 = putL (maskS (ofS (zs.take 37))) 4 ∧ hdOk (readH zs) = true ∧ headD zs = (readH zs, 0)) := by
  by_cases h : zs = z64
  · exact .inl ⟨h, headD_none h⟩
  by_cases h2 : zs.take 5 = mark
  · by_cases h3 : zs.drop 41 = List.replicate 23 0
    · by_cases h4 : (zs.drop 37).take 4 = putL (maskS (ofS (zs.take 37))) 4
      · cases h5 : hdOk (readH zs)
        · exact .inr (.inr (.inr (.inl ⟨h, h2, h3, h4, rfl, headD_wrong h h2 h3 h4 h5⟩)))
        · exact .inr (.inr (.inr (.inr ⟨h, h2, h3, h4, rfl, headD_ok h h2 h3 h4 h5⟩)))
      · exact .inr (.inr (.inl ⟨h, h2, h3, h4, headD_sum h h2 h3 h4⟩))
    · exact .inr (.inl ⟨h, .inr h3, headD_form h (.inr h3)⟩)
  · exact .inr (.inl ⟨h, .inl h2, headD_form h (.inl h2)⟩)
theorem headD_typed (hb : isB zs) : HdT (headD zs).1 := by
  rcases headD_cases (zs := zs) with ⟨_, h⟩ | ⟨_, _, h⟩ | ⟨_, _, _, _, h⟩ | ⟨_, _, _, _, _, h⟩ | ⟨_, _, _, _, _, h⟩ <;> rw [h]
  · exact noH_typed
  · exact noH_typed
  · exact noH_typed
  · exact noH_typed
  · exact readH_typed hb
end
theorem secH_take37 {h : Hdr} (hn : h.l.length = 4) : (secH h).take 37 = headP h := by
  unfold secH headB; rw [List.append_assoc, List.take_left' (headP_length hn)]
theorem secH_drop37 {h : Hdr} (hn : h.l.length = 4) : (secH h).drop 37 = putL (headS h) 4 ++ List.replicate 23 0 := by
  unfold secH headB; rw [List.append_assoc, List.drop_left' (headP_length hn)]
theorem secH_sum {h : Hdr} (hn : h.l.length = 4) : ((secH h).drop 37).take 4 = putL (headS h) 4 := by
  rw [secH_drop37 hn, List.take_left' (by rw [putL_length])]
theorem secH_rest {h : Hdr} (hn : h.l.length = 4) : (secH h).drop 41 = List.replicate 23 0 := by
  unfold secH; rw [List.drop_left' (headB_length hn)]
theorem secH_mark {h : Hdr} (hn : h.l.length = 4) : (secH h).take 5 = mark := by
  have e : (secH h).take 5 = ((secH h).take 37).take 5 := by rw [List.take_take, show min 5 37 = 5 from rfl]
  rw [e, secH_take37 hn]
  unfold headP
  simp only [List.append_assoc]
  exact List.take_left' rfl
theorem not_z64 {zs : List Int} (h : zs.take 5 = mark) : ¬ zs = z64 := by
  intro e
  rw [e] at h
  have : (z64.take 5).getD 0 0 = mark.getD 0 0 := by rw [h]
  exact absurd this (by decide)
theorem hd_got {h : Hdr} (ht : HdT h) (hk : hdOk h = true) : headD (secH h) = (h, 0) := by
  have hn := ht.n
  have hr : readH (secH h) = h := by
    unfold secH headB; rw [List.append_assoc]; exact readH_put ht hk _
  have := headD_ok (zs := secH h) (not_z64 (secH_mark hn)) (secH_mark hn) (secH_rest hn) (by rw [secH_sum hn, secH_take37 hn]; rfl) (by rw [hr]; exact hk)
  rw [this, hr]
end Go.Proofs.YtgegbpnmfpjdmaaGreatDoor
namespace Go.Proofs.YtgegbpnmfpjdmaaGreatDoor
open Go.Lib
theorem decFrom_append : ∀ (a b : List UInt8) (acc : Nat), decFrom acc (a ++ b) = (decFrom acc a).bind fun m => decFrom m b
  | [], b, acc => by simp [decFrom]
  | x :: a, b, acc => by
    simp only [List.cons_append, decFrom]
    cases digitVal x with
    | none => rfl
    | some d => exact decFrom_append a b _
theorem digitVal_of {d : Nat} (h : d < 10) : digitVal (UInt8.ofNat (48 + d)) = some d := by
  unfold digitVal
  rw [UInt8.toNat_ofNat', show (48 + d) % 2 ^ 8 = 48 + d from by omega, if_pos (by omega)]
  congr 1; omega
theorem decFrom_dec : ∀ u : Nat, decFrom 0 (decDigits u) = some u := by
  intro u
  induction u using Nat.strongRecOn with
  | _ u ih =>
    rw [decDigits]
    by_cases h : u < 10
    · rw [dif_pos h]; simp only [decFrom, digitVal_of h, Nat.zero_mul, Nat.zero_add]
    · rw [dif_neg h, decFrom_append, ih (u / 10) (by omega)]
      simp only [Option.bind_some, decFrom, digitVal_of (show u % 10 < 10 from by omega)]
      congr 1; omega
theorem dec_digit (u : Nat) : ∀ x ∈ decDigits u, 48 ≤ x.toNat ∧ x.toNat ≤ 57 := by
  intro x hx
  obtain ⟨j, hj, rfl⟩ := List.getElem_of_mem hx
  obtain ⟨d, hd⟩ := digit_of_decFrom (decDigits u) 0 u (decFrom_dec u) j (decDigits u)[j] (by simp)
  have := digitVal_eq hd
  omega
theorem nDigits_le (k : Nat) : ∀ u : Nat, u < 10 ^ (k + 1) → nDigits u ≤ k + 1 := by
  induction k with
  | zero => intro u h; rw [nDigits_small (by simpa using h)]; omega
  | succ k ih =>
    intro u h
    by_cases h0 : u < 10
    · rw [nDigits_small h0]; omega
    · rw [nDigits_big h0]
      have : u / 10 < 10 ^ (k + 1) := by
        rw [Nat.div_lt_iff_lt_mul (by omega)]
        rw [show k + 1 + 1 = (k + 1) + 1 from rfl, Nat.pow_succ] at h
        exact h
      have := ih (u / 10) this
      omega
theorem itoa_nat (u : Nat) : itoa (u : Int) = decDigits u := itoa_nonneg u
def walN (n : Int) : List UInt8 := if 1 ≤ n ∧ n ≤ 2147483647 then 119 :: 97 :: 108 :: 45 :: itoa n else []
def poolN (n : Int) : List UInt8 := if 0 ≤ n ∧ n ≤ 2 then 102 :: 114 :: 101 :: 101 :: 45 :: itoa n else []
theorem walN_in {n : Int} (h1 : 1 ≤ n) (h2 : n ≤ 2147483647) : walN n = 119 :: 97 :: 108 :: 45 :: itoa n := if_pos ⟨h1, h2⟩
theorem poolN_in {n : Int} (h1 : 0 ≤ n) (h2 : n ≤ 2) : poolN n = 102 :: 114 :: 101 :: 101 :: 45 :: itoa n := if_pos ⟨h1, h2⟩
theorem walN_out {n : Int} (h : ¬ (1 ≤ n ∧ n ≤ 2147483647)) : walN n = [] := if_neg h
theorem pool_ne_wal {m n : Int} (h1 : 0 ≤ m) (h2 : m ≤ 2) (h3 : 1 ≤ n) (h4 : n ≤ 2147483647) : poolN m ≠ walN n := by
  rw [poolN_in h1 h2, walN_in h3 h4]
  intro h
  simp at h
theorem okb_digit {x : UInt8} (h : 48 ≤ x.toNat ∧ x.toNat ≤ 57) : okb x = true := by
  unfold okb; exact decide_eq_true (.inr (.inl h))
theorem name_wal {n : Int} (h1 : 1 ≤ n) (h2 : n ≤ 2147483647) : nameN (walN n) = true := by
  obtain ⟨u, rfl⟩ : ∃ u : Nat, n = u := ⟨n.toNat, by omega⟩
  have h4 := nDigits_le 9 u (show u < 10 ^ 10 from by omega)
  rw [walN_in h1 h2, itoa_nat]
  unfold nameN
  simp only [Bool.and_eq_true, decide_eq_true_eq, List.length_cons, decDigits_length, List.all_cons, List.all_eq_true]
  exact ⟨⟨by omega, by omega⟩, by decide, by decide, by decide, by decide, fun x hx => okb_digit (dec_digit u x hx)⟩
theorem itoa_short {n : Int} (h1 : -9223372036854775808 ≤ n) (h2 : n ≤ 9223372036854775807) : (itoa n).length ≤ 21 := itoa_length_le n h1 h2
end Go.Proofs.YtgegbpnmfpjdmaaGreatDoor
