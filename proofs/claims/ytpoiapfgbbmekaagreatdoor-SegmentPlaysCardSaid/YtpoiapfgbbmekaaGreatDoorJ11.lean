/-
  TEXTS JOINED: CrcMath, CrcRef, CrcPat, FR, FragMath, HeadMath, HeadBlk. Each one's own words stand at its head.
-/
import Derived.Test.YtpoiapfgbbmekaaGreatDoorJ0
import Derived.Laws.BitsAllLaws
import Derived.Test.YtpoiapfgbbmekaaGreatDoorJ3
import Derived.Test.YtpoiapfgbbmekaaGreatDoorJ7
import Derived.Test.YtpoiapfgbbmekaaGreatDoorJ5
import Derived.Test.YtpoiapfgbbmekaaGreatDoorJ1
import Derived.Test.YtpoiapfgbbmekaaGreatDoorJ2
namespace Go.Proofs.YtpoiapfgbbmekaaGreatDoor
def st (x : Nat) : Nat := if x % 2 = 1 then x / 2 ^^^ 2197175160 else x / 2
def stn : Nat → Nat → Nat
  | 0, x => x
  | n + 1, x => stn n (st x)
theorem st_lt (x : Nat) (h : x < 4294967296) : st x < 4294967296 := by
  unfold st
  split
  · exact Nat.xor_lt_two_pow (n := 32) (by omega) (by omega)
  · omega
theorem stn_lt (n x : Nat) (h : x < 4294967296) : stn n x < 4294967296 := by
  induction n generalizing x with
  | zero => exact h
  | succ n ih => exact ih _ (st_lt x h)
theorem xor_lt (x y : Nat) (h : x < 4294967296) (k : y < 4294967296) : x ^^^ y < 4294967296 := Nat.xor_lt_two_pow (n := 32) h k
theorem xor_right_comm (a b c : Nat) : a ^^^ b ^^^ c = a ^^^ c ^^^ b := by rw [Nat.xor_assoc, Nat.xor_comm b, ← Nat.xor_assoc]
theorem xor_swap4 (a b c d : Nat) : a ^^^ b ^^^ (c ^^^ d) = a ^^^ c ^^^ (b ^^^ d) := by
  rw [← Nat.xor_assoc, ← Nat.xor_assoc, xor_right_comm a b c]
theorem st_xor (x y : Nat) : st (x ^^^ y) = st x ^^^ st y := by
  have hm : (x ^^^ y) % 2 = (x % 2 + y % 2) % 2 := by
    rw [show (x ^^^ y) % 2 = (x % 2) ^^^ (y % 2) from Nat.xor_mod_two_pow (n := 1)]
    rcases Nat.mod_two_eq_zero_or_one x with hx | hx <;> rcases Nat.mod_two_eq_zero_or_one y with hy | hy <;> rw [hx, hy] <;> rfl
  unfold st
  rw [Nat.xor_div_two]
  rcases Nat.mod_two_eq_zero_or_one x with hx | hx <;> rcases Nat.mod_two_eq_zero_or_one y with hy | hy
  · rw [if_neg (by omega), if_neg (by omega), if_neg (by omega)]
  · rw [if_pos (by omega), if_neg (by omega), if_pos (by omega), Nat.xor_assoc]
  · rw [if_pos (by omega), if_pos (by omega), if_neg (by omega), xor_right_comm]
  · rw [if_neg (by omega), if_pos (by omega), if_pos (by omega), xor_swap4, Nat.xor_self, Nat.xor_zero]
theorem stn_xor (n x y : Nat) : stn n (x ^^^ y) = stn n x ^^^ stn n y := by
  induction n generalizing x y with
  | zero => rfl
  | succ n ih => simp only [stn]; rw [st_xor, ih]
theorem stn_add (m n x : Nat) : stn (m + n) x = stn n (stn m x) := by
  induction m generalizing x with
  | zero => rw [Nat.zero_add]; rfl
  | succ m ih => rw [show m + 1 + n = (m + n) + 1 from by omega]; exact ih (st x)
theorem stn_succ (n x : Nat) : stn (n + 1) x = st (stn n x) := by rw [stn_add]; rfl
theorem st_even (y : Nat) : st (2 * y) = y := by unfold st; rw [if_neg (by omega)]; omega
theorem stn_up (n y : Nat) : stn n (2 ^ n * y) = y := by
  induction n generalizing y with
  | zero => simp [stn]
  | succ n ih => rw [stn, Nat.pow_succ, Nat.mul_comm (2 ^ n) 2, Nat.mul_assoc, st_even]; exact ih y
theorem up_xor (n a b : Nat) (h : b < 2 ^ n) : 2 ^ n * a + b = b ^^^ 2 ^ n * a := by
  refine Nat.eq_of_testBit_eq fun j => ?_
  rw [Nat.testBit_two_pow_mul_add a h, Nat.testBit_xor, Nat.testBit_two_pow_mul]
  by_cases hj : j < n
  · simp [hj, Nat.not_le.2 hj]
  · have h1 : b.testBit j = false := Nat.testBit_lt_two_pow (Nat.lt_of_lt_of_le h (Nat.pow_le_pow_right (by omega) (by omega)))
    simp [hj, Nat.not_lt.1 hj, h1]
theorem not32 (s : Nat) (h : s < 4294967296) : 4294967295 - s = s ^^^ 4294967295 := by
  refine Nat.eq_of_testBit_eq fun j => ?_
  have h1 := Nat.testBit_two_pow_sub_succ (x := s) (n := 32) h j
  rw [show (2 : Nat) ^ 32 - (s + 1) = 4294967295 - s from by omega] at h1
  rw [h1, Nat.testBit_xor, show (4294967295 : Nat) = 2 ^ 32 - 1 from rfl, Nat.testBit_two_pow_sub_one]
  by_cases hj : j < 32
  · simp [hj]
  · have h2 : s.testBit j = false := Nat.testBit_lt_two_pow (Nat.lt_of_lt_of_le (show s < 2 ^ 32 from h) (Nat.pow_le_pow_right (by omega) (by omega)))
    simp [hj, h2]
theorem half_step (x : Nat) : stn 4 x = x / 16 ^^^ stn 4 (x % 16) := by
  have e : x = x % 16 ^^^ 2 ^ 4 * (x / 16) := by rw [← up_xor 4 (x / 16) (x % 16) (by omega)]; omega
  have h : stn 4 x = stn 4 (x % 16 ^^^ 2 ^ 4 * (x / 16)) := by rw [← e]
  rw [h, stn_xor, stn_up, Nat.xor_comm]
def reg : Nat → List Int → Nat
  | r, [] => r
  | r, c :: l => reg (stn 8 (r ^^^ c.toNat)) l
theorem reg_nil (r : Nat) : reg r [] = r := rfl
theorem reg_cons (r : Nat) (c : Int) (l : List Int) : reg r (c :: l) = reg (stn 8 (r ^^^ c.toNat)) l := rfl
def moreS (s : Nat) (l : List Int) : Nat := 4294967295 - reg (4294967295 - s) l
def ofS (l : List Int) : Nat := moreS 0 l
theorem moreS_lt (s : Nat) (l : List Int) : moreS s l < 4294967296 := by unfold moreS; omega
theorem ofS_lt (l : List Int) : ofS l < 4294967296 := moreS_lt 0 l
def maskS (s : Nat) : Nat := (s / 32768 + s % 32768 * 131072 + 2726488792) % 4294967296
theorem maskS_lt (s : Nat) : maskS s < 4294967296 := by unfold maskS; omega
end Go.Proofs.YtpoiapfgbbmekaaGreatDoor
namespace Go.Proofs.YtpoiapfgbbmekaaGreatDoor
open Go.RowKit
theorem drop_getD (zs : List Int) (k : Nat) (h : k < zs.length) : zs.drop k = zs.getD k 0 :: zs.drop (k + 1) := by
  rw [List.drop_eq_getElem_cons h]; simp [List.getD, h]
set_option maxRecDepth 8000 in
set_option maxHeartbeats 400000 in
theorem rstep_any (n : Nat) (h : n < 4294967296) (w : World) : Calls Tryz.prog 121 #[.int .u32 n] w fun e w' => e = .returned (.int .u32 (st n)) ∧ w = w' := by
  have hx := u32_xor_nat (n / 2) 2197175160 (by omega) (by omega)
  rw [show (((n / 2 : Nat)) : Int) = (n : Int) / 2 from by omega] at hx
  have HX := Lib.hid hx; clear hx
  have hn : (n : Int) ≤ 4294967295 := by omega
  have HN := Lib.hid h; clear h
  by_cases hm : (n : Int) % 2 = 1
  all_goals
    go_enter Tryz.func121, Tryz.ntmps121
    go_wp2
    go_ret
    refine ⟨ret_int ?_, rfl⟩
    unfold st
  · rw [if_pos (by omega), ← HX.out]; rfl
  · rw [if_neg (by omega)]; simp
set_option maxRecDepth 8000 in
set_option maxHeartbeats 800000 in
theorem rmore_some (s : Nat) (h : s < 4294967296) (b off len cap : Nat) (zs : List Int) (w : World) (hz : zs.length = len) (hb : ∀ x ∈ zs, 0 ≤ x ∧ x ≤ 255) (hl : (len : Int) ≤ 9223372036854775807)
    (hc : ∀ j, j < len → w.cell? ⟨b, off + j, none⟩ = some (.int .u8 (zs.getD j 0))) :
    Calls Tryz.prog 105 #[.int .u32 s, .slice (some ⟨b, off, none⟩) len cap] w fun e w' => e = .returned (.int .u32 (moreS s zs)) ∧ w = w' := by
  have hs : (s : Int) ≤ 4294967295 := by omega
  obtain ⟨m, hm⟩ : ∃ m, moreS s zs = m := ⟨_, rfl⟩
  rw [hm]
  have HM := Lib.hid hm
  have HC := Lib.hid hc
  have HZ := Lib.hid hz
  have HB := Lib.hid hb
  have HS := Lib.hid h
  clear hm hc hz hb h
  go_enter Tryz.func105, Tryz.ntmps105
  go_wp2
  go_loop [5, 6] (fun x i => ∃ (k r : Nat), i = .int .i64 k ∧ x = .int .u32 r ∧ k ≤ len ∧ Hid (r < 4294967296) ∧ Hid (reg r (zs.drop k) = reg (4294967295 - s) zs)) (fun _ i => len - (intOf i).toNat)
  case atStart => exact ⟨0, 4294967295 - s, rfl, by have := HS.out; congr 1; omega, by omega, Lib.hid (by omega), rfl⟩
  case round =>
    obtain ⟨k, r, rfl, rfl, hk, HR, HG⟩ := hrel
    by_cases hlt : k < len
    · obtain ⟨x, hx⟩ : ∃ x, zs.getD k 0 = x := ⟨_, rfl⟩
      have hcell : w.cell? ⟨b, off + k, none⟩ = some (.int .u8 x) := by rw [← hx]; exact HC.out k hlt
      have hxb : 0 ≤ x ∧ x ≤ 255 := by
        rw [← hx]; exact (bytes_of_mem HB.out) k
      have HD := Lib.hid (show reg r (x :: zs.drop (k + 1)) = reg (4294967295 - s) zs from by rw [← hx, ← drop_getD zs k (by rw [HZ.out]; exact hlt)]; exact HG.out)
      obtain ⟨y, rfl⟩ : ∃ y : Nat, x = (y : Int) := ⟨x.toNat, by omega⟩
      have HX := Lib.hid (u32_xor_nat r y HR.out (by omega))
      have HXL := Lib.hid (xor_lt r y HR.out (by omega))
      clear hx HG
      obtain ⟨r0, hr0⟩ : ∃ r0, r ^^^ y = r0 := ⟨_, rfl⟩
      rw [hr0] at HX HXL
      have H0 := Lib.hid hr0; clear hr0
      have hxx : bits .xor .u32 (r : Int) (y : Int) = (r0 : Int) := HX.out
      clear HX
      go_wp2
      go_loop [5, 7] (fun x j => ∃ (c q : Nat), j = .int .i64 c ∧ x = .int .u32 q ∧ c ≤ 8 ∧ Hid (q < 4294967296) ∧ Hid (stn c r0 = q)) (fun _ j => 8 - (intOf j).toNat)
      case atStart => exact ⟨0, r0, rfl, rfl, by omega, HXL, rfl⟩
      case round =>
        obtain ⟨c, q, rfl, rfl, hc8, HQ, HT⟩ := hrel
        by_cases hlt2 : c < 8
        · go_wp2_with (first | (go_at_call 121; (with_reducible refine (rstep_any q HQ.out _).mono ?_); rintro e w' ⟨rfl, rfl⟩))
          go_round
          case rel => exact ⟨c + 1, st q, by go_num, rfl, by omega, st_lt q HQ.out, by rw [← HT.out]; exact stn_succ c r0⟩
          case measure => simp [intOf]; omega
        · go_wp2
          go_round
          case rel =>
            refine ⟨k + 1, q, by go_num, rfl, by omega, HQ, ?_⟩
            have h1 := HD.out
            rw [reg_cons, Int.toNat_natCast, H0.out, show 8 = c from by omega, HT.out] at h1
            exact h1
          case measure => simp [intOf]; omega
    · go_wp2
      go_ret
      refine ⟨ret_int ?_, rfl⟩
      have h1 := HG.out
      rw [show zs.drop k = [] from List.drop_eq_nil_of_le (by rw [HZ.out]; omega), reg_nil] at h1
      have h2 := HM.out; have h3 := HR.out
      unfold moreS at h2; omega
set_option maxRecDepth 8000 in
set_option maxHeartbeats 400000 in
theorem rmore_zero (s : Nat) (h : s < 4294967296) (a : Option Addr) (cap : Nat) (w : World) :
    Calls Tryz.prog 105 #[.int .u32 s, .slice a 0 cap] w fun e w' => e = .returned (.int .u32 (moreS s [])) ∧ w = w' := by
  have hs : (s : Int) ≤ 4294967295 := by omega
  have HS := Lib.hid h; clear h
  go_enter Tryz.func105, Tryz.ntmps105
  go_wp2
  refine wp_loop_rounds 1 ?_
  rw [rounds_succ]
  go_wp2
  go_ret
  refine ⟨ret_int ?_, rfl⟩
  have := HS.out
  unfold moreS
  rw [reg_nil]; omega
theorem rmore_any {s len : Nat} (h : s < 4294967296) {v : Value} {zs : List Int} {w : World} (hri : RI .u8 w v len zs) (hb : ∀ x ∈ zs, 0 ≤ x ∧ x ≤ 255) {m : Nat} (hm : moreS s zs = m) :
    Calls Tryz.prog 105 #[.int .u32 s, v] w fun e w' => e = .returned (.int .u32 m) ∧ w = w' := by
  subst hm
  obtain ⟨a, cap, rfl, hl, h1, h2, _, hc⟩ := hri
  by_cases h0 : 0 < len
  · obtain ⟨b, off, rfl, hcell⟩ := hc h0
    exact rmore_some s h b off len cap zs w hl hb (by omega) hcell
  · obtain rfl : len = 0 := by omega
    obtain rfl : zs = [] := List.length_eq_zero_iff.1 hl
    exact rmore_zero s h a cap w
theorem rmore_0 {len : Nat} {v : Value} {zs : List Int} {w : World} (hri : RI .u8 w v len zs) (hb : ∀ x ∈ zs, 0 ≤ x ∧ x ≤ 255) {m : Nat} (hm : moreS 0 zs = m) :
    Calls Tryz.prog 105 #[.int .u32 0, v] w fun e w' => e = .returned (.int .u32 m) ∧ w = w' := rmore_any (s := 0) (by omega) hri hb hm
theorem rof_any {len : Nat} {v : Value} {zs : List Int} {w : World} (hri : RI .u8 w v len zs) (hb : ∀ x ∈ zs, 0 ≤ x ∧ x ≤ 255) {m : Nat} (hm : ofS zs = m) :
    Calls Tryz.prog 87 #[v] w fun e w' => e = .returned (.int .u32 m) ∧ w = w' := by
  have HR := Lib.hid hri
  have HB := Lib.hid hb
  have HM := Lib.hid (show moreS 0 zs = m from hm)
  clear hri hb hm
  go_enter Tryz.func87, Tryz.ntmps87
  go_wp2_with (first | (go_at_call 105; (with_reducible refine (rmore_0 HR.out HB.out HM.out).mono ?_); rintro e w' ⟨rfl, rfl⟩))
  go_ret
  exact ⟨rfl, rfl⟩
set_option maxRecDepth 8000 in
theorem rmask_any (n : Nat) (h : n < 4294967296) (w : World) : Calls Tryz.prog 86 #[.int .u32 n] w fun e w' => e = .returned (.int .u32 (maskS n)) ∧ w = w' := by
  have hn : (n : Int) ≤ 4294967295 := by omega
  clear h
  go_enter Tryz.func86, Tryz.ntmps86
  go_wp2
  go_ret
  refine ⟨ret_int ?_, rfl⟩
  unfold maskS
  omega
theorem rmask_at (n m : Nat) (h : n < 4294967296) (hm : maskS n = m) (w : World) : Calls Tryz.prog 86 #[.int .u32 n] w fun e w' => e = .returned (.int .u32 m) ∧ w = w' :=
  (rmask_any n h w).mono fun _ _ ⟨he, hw⟩ => ⟨by rw [he, hm], hw⟩
end Go.Proofs.YtpoiapfgbbmekaaGreatDoor
namespace Go.Proofs.YtpoiapfgbbmekaaGreatDoor
open Go.RowKit
end Go.Proofs.YtpoiapfgbbmekaaGreatDoor
namespace Go.Proofs.YtpoiapfgbbmekaaGreatDoor
structure FR where
  kind : Int
  epoch : Int
  data : List Int
deriving instance DecidableEq for FR
end Go.Proofs.YtpoiapfgbbmekaaGreatDoor
namespace Go.Proofs.YtpoiapfgbbmekaaGreatDoor
def num (zs : List Int) (a n : Nat) : Int := getI (zs.drop a) n
theorem putL_isB (n : Int) (k : Nat) : isB (putL n k) := (putL_bytes n k).mem
theorem getI_take (l : List Int) (m k : Nat) (h : k ≤ m) : getI (l.take m) k = getI l k := by
  induction k with
  | zero => rfl
  | succ k ih =>
    have e : (l.take m).getD k 0 = l.getD k 0 := by simp only [List.getD, List.getElem?_take, show k < m by omega, if_true]
    simp only [getI]; rw [ih (by omega), e]
theorem getI_append (a b : List Int) (k : Nat) (h : k ≤ a.length) : getI (a ++ b) k = getI a k := by
  have := getI_take (a ++ b) a.length k h
  rw [List.take_left] at this
  exact this.symm
theorem num_bd {zs : List Int} (h : isB zs) (a n : Nat) : 0 ≤ num zs a n ∧ num zs a n < 2 ^ (8 * n) := getI_bd _ (bytes_of_mem (h.drop a)) n
theorem num_put {zs : List Int} (h : isB zs) (a n : Nat) (hl : a + n ≤ zs.length) : putL (num zs a n) n = (zs.drop a).take n := by
  unfold num
  rw [← getI_take (zs.drop a) n n (Nat.le_refl _)]
  exact putL_getI _ (bytes_of_mem ((h.drop a).take n)) n (by simp; omega)
end Go.Proofs.YtpoiapfgbbmekaaGreatDoor
namespace Go.Proofs.YtpoiapfgbbmekaaGreatDoor
structure Hdr where
  e : Int
  s : Int
  f : Int
  l : List Int
deriving instance DecidableEq for Hdr
def noH : Hdr := ⟨0, 0, 0, [0, 0, 0, 0]⟩
structure HdT (h : Hdr) : Prop where
  e : U64 h.e
  s : I63 h.s
  f : I63 h.f
  n : h.l.length = 4
  l : ∀ x ∈ h.l, I63 x
def lsn (n : Int) : Bool := decide (1 ≤ n ∧ n ≤ 2147483647)
def hdOk (h : Hdr) : Bool := decide (h.e ≠ 0) && lsn h.s && lsn h.f && h.l.all fun x => decide (0 ≤ x ∧ x < h.f)
theorem lsn_bd {n : Int} (h : lsn n = true) : 1 ≤ n ∧ n ≤ 2147483647 := of_decide_eq_true h
theorem hdOk_parts {h : Hdr} (hk : hdOk h = true) : h.e ≠ 0 ∧ (1 ≤ h.s ∧ h.s ≤ 2147483647) ∧ (1 ≤ h.f ∧ h.f ≤ 2147483647) ∧ ∀ x ∈ h.l, 0 ≤ x ∧ x < h.f := by
  unfold hdOk at hk
  simp only [Bool.and_eq_true, decide_eq_true_eq, List.all_eq_true] at hk
  exact ⟨hk.1.1.1, lsn_bd hk.1.1.2, lsn_bd hk.1.2, hk.2⟩
theorem hdOk_of {h : Hdr} (h1 : h.e ≠ 0) (h2 : lsn h.s = true) (h3 : lsn h.f = true) (h4 : ∀ x ∈ h.l, 0 ≤ x ∧ x < h.f) : hdOk h = true := by
  unfold hdOk
  simp only [Bool.and_eq_true, decide_eq_true_eq, List.all_eq_true]
  exact ⟨⟨⟨h1, h2⟩, h3⟩, h4⟩
def mark : List Int := [115, 116, 114, 100, 1]
def put4 (l : List Int) : List Int := (l.map fun x => putL x 4).flatten
def headP (h : Hdr) : List Int := mark ++ putL h.e 8 ++ putL h.s 4 ++ putL h.f 4 ++ put4 h.l
def headS (h : Hdr) : Nat := maskS (ofS (headP h))
def headB (h : Hdr) : List Int := headP h ++ putL (headS h) 4
def secH (h : Hdr) : List Int := headB h ++ List.replicate 23 0
def readH (zs : List Int) : Hdr := ⟨num zs 5 8, num zs 13 4, num zs 17 4, [num zs 21 4, num zs 25 4, num zs 29 4, num zs 33 4]⟩
theorem put4_length (l : List Int) : (put4 l).length = 4 * l.length := by
  induction l with
  | nil => rfl
  | cons a l ih => simp only [put4, List.map_cons, List.flatten_cons, List.length_append, putL_length, List.length_cons] at *; omega
theorem put4_bytes (l : List Int) : isB (put4 l) := by
  intro x hx
  simp only [put4, List.mem_flatten, List.mem_map] at hx
  obtain ⟨m, ⟨a, _, rfl⟩, hm⟩ := hx
  exact putL_isB a 4 x hm
theorem put4_snoc (l : List Int) (x : Int) : put4 (l ++ [x]) = put4 l ++ putL x 4 := by simp [put4]
theorem mark_bytes : isB mark := by intro x hx; simp only [mark, List.mem_cons, List.not_mem_nil, or_false] at hx; omega
theorem mark_length : mark.length = 5 := rfl
theorem headP_length {h : Hdr} (hn : h.l.length = 4) : (headP h).length = 37 := by simp [headP, putL_length, put4_length, mark_length, hn]
theorem headB_length {h : Hdr} (hn : h.l.length = 4) : (headB h).length = 41 := by simp [headB, putL_length, headP_length hn]
theorem secH_length {h : Hdr} (hn : h.l.length = 4) : (secH h).length = 64 := by simp [secH, headB_length hn]
theorem headP_bytes (h : Hdr) : isB (headP h) := ((((mark_bytes.append (putL_isB _ _)).append (putL_isB _ _)).append (putL_isB _ _)).append (put4_bytes _))
theorem headB_bytes (h : Hdr) : isB (headB h) := (headP_bytes h).append (putL_isB _ _)
theorem zeros_bytes (n : Nat) : isB (List.replicate n 0) := fun x hx => by have := (List.mem_replicate.1 hx).2; omega
theorem secH_bytes (h : Hdr) : isB (secH h) := (headB_bytes h).append (zeros_bytes _)
theorem headS_lt (h : Hdr) : headS h < 4294967296 := maskS_lt _
theorem num_mid (a r : List Int) (x : Int) (n k : Nat) (hk : a.length = k) : num (a ++ (putL x n ++ r)) k n = x % 2 ^ (8 * n) := by
  unfold num
  rw [List.drop_left' hk, getI_append _ _ _ (by rw [putL_length]; omega), getI_put _ _ _ (Nat.le_refl _)]
theorem readH_put {h : Hdr} (ht : HdT h) (hk : hdOk h = true) (r : List Int) : readH (headP h ++ r) = h := by
  obtain ⟨e, s, f, l⟩ := h
  have hn := ht.n
  obtain ⟨_, h2, h3, h4⟩ := hdOk_parts hk
  have he := ht.e
  unfold U64 at he
  simp only at *
  match l, hn, h4 with
  | [a, b, c, d], _, h4 =>
    have ha := h4 a (by simp)
    have hb := h4 b (by simp)
    have hc := h4 c (by simp)
    have hd := h4 d (by simp)
    have e0 : headP ⟨e, s, f, [a, b, c, d]⟩ ++ r = mark ++ putL e 8 ++ putL s 4 ++ putL f 4 ++ putL a 4 ++ putL b 4 ++ putL c 4 ++ putL d 4 ++ r := by
      simp [headP, put4, List.append_assoc]
    rw [e0]
    unfold readH
    have p1 : num (mark ++ putL e 8 ++ putL s 4 ++ putL f 4 ++ putL a 4 ++ putL b 4 ++ putL c 4 ++ putL d 4 ++ r) 5 8 = e := by
      simp only [List.append_assoc]
      have := num_mid mark (putL s 4 ++ (putL f 4 ++ (putL a 4 ++ (putL b 4 ++ (putL c 4 ++ (putL d 4 ++ r)))))) e 8 5 rfl
      rw [this]; omega
    have step : ∀ (q : List Int) (x : Int) (t : List Int) (k : Nat), q.length = k → 0 ≤ x → x < 4294967296 → num (q ++ putL x 4 ++ t) k 4 = x := fun q x t k hq h0 h1 => by
      rw [List.append_assoc, num_mid _ _ _ _ _ hq]; omega
    have p2 := step (mark ++ putL e 8) s (putL f 4 ++ putL a 4 ++ putL b 4 ++ putL c 4 ++ putL d 4 ++ r) 13 (by simp [putL_length, mark_length]) (by omega) (by omega)
    have p3 := step (mark ++ putL e 8 ++ putL s 4) f (putL a 4 ++ putL b 4 ++ putL c 4 ++ putL d 4 ++ r) 17 (by simp [putL_length, mark_length]) (by omega) (by omega)
    have p4 := step (mark ++ putL e 8 ++ putL s 4 ++ putL f 4) a (putL b 4 ++ putL c 4 ++ putL d 4 ++ r) 21 (by simp [putL_length, mark_length]) (by omega) (by omega)
    have p5 := step (mark ++ putL e 8 ++ putL s 4 ++ putL f 4 ++ putL a 4) b (putL c 4 ++ putL d 4 ++ r) 25 (by simp [putL_length, mark_length]) (by omega) (by omega)
    have p6 := step (mark ++ putL e 8 ++ putL s 4 ++ putL f 4 ++ putL a 4 ++ putL b 4) c (putL d 4 ++ r) 29 (by simp [putL_length, mark_length]) (by omega) (by omega)
    have p7 := step (mark ++ putL e 8 ++ putL s 4 ++ putL f 4 ++ putL a 4 ++ putL b 4 ++ putL c 4) d r 33 (by simp [putL_length, mark_length]) (by omega) (by omega)
    simp only [List.append_assoc] at p1 p2 p3 p4 p5 p6 p7 ⊢
    rw [p1, p2, p3, p4, p5, p6, p7]
theorem readH_typed {zs : List Int} (hb : isB zs) : HdT (readH zs) := by
  have b8 := num_bd hb 5 8
  have b4 : ∀ a, I63 (num zs a 4) := fun a => by have := num_bd hb a 4; unfold I63; omega
  refine ⟨by unfold U64; simp only [readH]; omega, b4 _, b4 _, rfl, fun x hx => ?_⟩
  simp only [readH, List.mem_cons, List.not_mem_nil, or_false] at hx
  rcases hx with rfl | rfl | rfl | rfl <;> exact b4 _
theorem noH_typed : HdT noH := ⟨by unfold U64; simp only [noH]; omega, by unfold I63; simp only [noH]; omega, by unfold I63; simp only [noH]; omega, rfl, fun x hx => by
  simp only [noH, List.mem_cons, List.not_mem_nil, or_false, or_self] at hx; subst hx; unfold I63; omega⟩
theorem num_sum {zs : List Int} (hb : isB zs) (hl : 41 ≤ zs.length) (m : Nat) (hm : m < 4294967296) : num zs 37 4 = (m : Int) ↔ (zs.drop 37).take 4 = putL m 4 := by
  have h1 := num_put hb 37 4 (by omega)
  constructor
  · intro h; rw [← h1, h]
  · intro h
    have h2 : num zs 37 4 = getI ((zs.drop 37).take 4) 4 := by unfold num; rw [getI_take _ 4 4 (Nat.le_refl _)]
    rw [h2, h, getI_put _ _ _ (Nat.le_refl _)]; omega
def headD (zs : List Int) : Hdr × Int :=
  if zs = z64 then (noH, 7) else
  if zs.take 5 ≠ mark ∨ zs.drop 41 ≠ List.replicate 23 0 then (noH, 2) else
  if (zs.drop 37).take 4 ≠ putL (maskS (ofS (zs.take 37))) 4 then (noH, 3) else
  if hdOk (readH zs) = true then (readH zs, 0) else (noH, 2)
section
variable {zs : List Int}
theorem headD_none (h : zs = z64) : headD zs = (noH, 7) := by unfold headD; rw [if_pos h]
theorem headD_form (h : ¬ zs = z64) (h2 : zs.take 5 ≠ mark ∨ zs.drop 41 ≠ List.replicate 23 0) : headD zs = (noH, 2) := by unfold headD; rw [if_neg h, if_pos h2]
section
variable (h : ¬ zs = z64) (h2 : zs.take 5 = mark) (h3 : zs.drop 41 = List.replicate 23 0)
include h h2 h3
theorem headD_sum (h4 : (zs.drop 37).take 4 ≠ putL (maskS (ofS (zs.take 37))) 4) : headD zs = (noH, 3) := by
  unfold headD; rw [if_neg h, if_neg (by simp [h2, h3]), if_pos h4]
variable (h4 : (zs.drop 37).take 4 = putL (maskS (ofS (zs.take 37))) 4)
include h4
theorem headD_wrong (h5 : hdOk (readH zs) = false) : headD zs = (noH, 2) := by
  unfold headD; rw [if_neg h, if_neg (by simp [h2, h3]), if_neg (by simp [h4]), if_neg (by simp [h5])]
theorem headD_ok (h5 : hdOk (readH zs) = true) : headD zs = (readH zs, 0) := by
  unfold headD; rw [if_neg h, if_neg (by simp [h2, h3]), if_neg (by simp [h4]), if_pos h5]
end
theorem headD_cases : (zs = z64 ∧ headD zs = (noH, 7)) ∨ (¬ zs = z64 ∧ (zs.take 5 ≠ mark ∨ zs.drop 41 ≠ List.replicate 23 0) ∧ headD zs = (noH, 2)) ∨
    (¬ zs = z64 ∧ zs.take 5 = mark ∧ zs.drop 41 = List.replicate 23 0 ∧ (zs.drop 37).take 4 ≠ putL (maskS (ofS (zs.take 37))) 4 ∧ headD zs = (noH, 3)) ∨
    (¬ zs = z64 ∧ zs.take 5 = mark ∧ zs.drop 41 = List.replicate 23 0 ∧ (zs.drop 37).take 4 = putL (maskS (ofS (zs.take 37))) 4 ∧ hdOk (readH zs) = false ∧ headD zs = (noH, 2)) ∨
    (¬ zs = z64 ∧ zs.take 5 = mark ∧ zs.drop 41 = List.replicate 23 0 ∧ (zs.drop 37).take 4 = putL (maskS (ofS (zs.take 37))) 4 ∧ hdOk (readH zs) = true ∧ headD zs = (readH zs, 0)) := by
  by_cases h : zs = z64
  · exact .inl ⟨h, headD_none h⟩
  by_cases h2 : zs.take 5 = mark
  · by_cases h3 : zs.drop 41 = List.replicate 23 0
    · by_cases h4 : (zs.drop 37).take 4 = putL (maskS (ofS (zs.take 37))) 4
      · cases h5 : hdOk (readH zs)
        · exact .inr (.inr (.inr (.inl ⟨h, h2, h3, h4, rfl, headD_wrong h h2 h3 h4 h5⟩)))
        · exact .inr (.inr (.inr (.inr ⟨h, h2, h3, h4, rfl, headD_ok h h2 h3 h4 h5⟩)))
      · exact .inr (.inr (.inl ⟨h, h2, h3, h4, headD_sum h h2 h3 h4⟩))
    · exact .inr (.inl ⟨h, .inr h3, headD_form h (.inr h3)⟩)
  · exact .inr (.inl ⟨h, .inl h2, headD_form h (.inl h2)⟩)
theorem headD_typed (hb : isB zs) : HdT (headD zs).1 := by
  rcases headD_cases (zs := zs) with ⟨_, h⟩ | ⟨_, _, h⟩ | ⟨_, _, _, _, h⟩ | ⟨_, _, _, _, _, h⟩ | ⟨_, _, _, _, _, h⟩ <;> rw [h]
  · exact noH_typed
  · exact noH_typed
  · exact noH_typed
  · exact noH_typed
  · exact readH_typed hb
end
theorem secH_take37 {h : Hdr} (hn : h.l.length = 4) : (secH h).take 37 = headP h := by
  unfold secH headB; rw [List.append_assoc, List.take_left' (headP_length hn)]
theorem secH_drop37 {h : Hdr} (hn : h.l.length = 4) : (secH h).drop 37 = putL (headS h) 4 ++ List.replicate 23 0 := by
  unfold secH headB; rw [List.append_assoc, List.drop_left' (headP_length hn)]
theorem secH_sum {h : Hdr} (hn : h.l.length = 4) : ((secH h).drop 37).take 4 = putL (headS h) 4 := by
  rw [secH_drop37 hn, List.take_left' (by rw [putL_length])]
theorem secH_rest {h : Hdr} (hn : h.l.length = 4) : (secH h).drop 41 = List.replicate 23 0 := by
  unfold secH; rw [List.drop_left' (headB_length hn)]
theorem secH_mark {h : Hdr} (hn : h.l.length = 4) : (secH h).take 5 = mark := by
  have e : (secH h).take 5 = ((secH h).take 37).take 5 := by rw [List.take_take, show min 5 37 = 5 from rfl]
  rw [e, secH_take37 hn]
  unfold headP
  simp only [List.append_assoc]
  exact List.take_left' rfl
theorem not_z64 {zs : List Int} (h : zs.take 5 = mark) : ¬ zs = z64 := by
  intro e
  rw [e] at h
  have : (z64.take 5).getD 0 0 = mark.getD 0 0 := by rw [h]
  exact absurd this (by decide)
theorem hd_got {h : Hdr} (ht : HdT h) (hk : hdOk h = true) : headD (secH h) = (h, 0) := by
  have hn := ht.n
  have hr : readH (secH h) = h := by
    unfold secH headB; rw [List.append_assoc]; exact readH_put ht hk _
  have := headD_ok (zs := secH h) (not_z64 (secH_mark hn)) (secH_mark hn) (secH_rest hn) (by rw [secH_sum hn, secH_take37 hn]; rfl) (by rw [hr]; exact hk)
  rw [this, hr]
end Go.Proofs.YtpoiapfgbbmekaaGreatDoor
namespace Go.Proofs.YtpoiapfgbbmekaaGreatDoor
open Go.RowKit
def hv (h : Hdr) : Array Value := (Value.int .u64 h.e :: Value.int .i64 h.s :: Value.int .i64 h.f :: il .i64 h.l).toArray
def lv (l : List Int) : Array Value := (il .i64 l).toArray
theorem hv_size {h : Hdr} (hn : h.l.length = 4) : (hv h).size = 7 := by simp [hv, il_length, hn]
theorem hv_one (h : Hdr) : (hv h).all (·.oneCell') = true := all_oneCell_toArray (fun u hu => by
  simp only [List.mem_cons] at hu
  rcases hu with rfl | rfl | rfl | hu
  · rfl
  · rfl
  · rfl
  · exact il_one _ _ u hu)
theorem hd_info (c : Array Value) (h : c.size = 7) : (Tryz.prog.info? 34).map (·.size) = some c.size := by rw [h]; kernel_rfl
theorem hv_info {h : Hdr} (hn : h.l.length = 4) : (Tryz.prog.info? 34).map (·.size) = some (hv h).size := hd_info _ (hv_size hn)
theorem hv_get {h : Hdr} (i : Nat) (hi : i < h.l.length) : (hv h)[3 + i]? = some (.int .i64 (h.l.getD i 0)) := by
  have := il_get .i64 h.l i hi
  rw [Nat.add_comm]
  simpa [hv] using this
def HB (w : World) (b : Nat) (h : Hdr) : Prop := w.heap[b]? = some (.cells (hv h) 34 (0, 0)) ∧ h.l.length = 4
section
variable {w w' : World} {b b' : Nat} {h h' : Hdr}
theorem HB.lt (k : HB w b h) : b < w.heap.size := (Array.getElem?_eq_some_iff.1 k.1).1
theorem HB.keep (k : HB w b h) (hb : Below w.heap.size w w') : HB w' b h := ⟨(hb.block b k.lt).trans k.1, k.2⟩
theorem HB.load (k : HB w b h) : (loadVar 34 ⟨b, 0, none⟩).run Tryz.prog w = .ok (.agg (hv h)) w :=
  run_loadVar_row w b _ 34 (hv h) (0, 0) _ k.1 Tryz.underlying34 rfl (hv_info k.2)
theorem HB.new (w : World) (h : Hdr) (hn : h.l.length = 4) : HB (w.alloc (.cells (hv h) 34)) w.heap.size h := ⟨heap_alloc_last w _, hn⟩
theorem HB.row (k : HB w b h) (hn : h'.l.length = 4) : HB (w.setRow b (hv h')) b h' := ⟨setRow_heap w b _ _ _ _ k.1, hn⟩
theorem HB.apart (k : HB w b h) (hne : b ≠ b') (x : Array Value) : HB (w.setRow b' x) b h := ⟨(setRow_other w b' b x hne).trans k.1, k.2⟩
theorem HB.set_apart (k : HB w b h) (hne : b ≠ b') (j : Nat) (x : Value) : HB (w.setCell ⟨b', j, none⟩ x) b h := ⟨(heap_setCell_other w ⟨b', j, none⟩ b x hne).trans k.1, k.2⟩
theorem HB.frozen (k : HB w b h) (j : Nat) : w.frozen? ⟨b, j, none⟩ = false := Joins.unfrozen_of_block k.1 j
theorem HB.cells (k : HB w b h) : w.cell? ⟨b, 0, none⟩ = some (.int .u64 h.e) ∧ w.cell? ⟨b, 1, none⟩ = some (.int .i64 h.s) ∧ w.cell? ⟨b, 2, none⟩ = some (.int .i64 h.f) :=
  ⟨cell_of_row w b 0 _ _ _ k.1, cell_of_row w b 1 _ _ _ k.1, cell_of_row w b 2 _ _ _ k.1⟩
theorem HB.head (k : HB w b h) (i : Nat) (hi : i < 4) : w.cell? ⟨b, 3 + i, none⟩ = some (.int .i64 (h.l.getD i 0)) := by
  rw [cell_of_row w b (3 + i) _ _ _ k.1, hv_get i (by rw [k.2]; exact hi)]
theorem hv_set (h : Hdr) (i : Nat) (x : Int) : (hv h).setIfInBounds (3 + i) (.int .i64 x) = hv ⟨h.e, h.s, h.f, h.l.set i x⟩ := by
  unfold hv
  rw [← il_set, Nat.add_comm]
  simp
theorem HB.stored (k : HB w b h) (i : Nat) (x : Int) : HB (w.setCell ⟨b, 3 + i, none⟩ (.int .i64 x)) b ⟨h.e, h.s, h.f, h.l.set i x⟩ :=
  ⟨by rw [← hv_set]; exact Joins.block_setCell k.1 _, by simpa using k.2⟩
theorem HB.load4 (k : HB w b h) : (loadVar 32 ⟨b, 3, none⟩).run Tryz.prog w = .ok (.agg (lv h.l)) w := by
  have hl : (loadCells ⟨b, 3, none⟩ (il .i64 h.l).length).run Tryz.prog w = .ok (il .i64 h.l).toArray w :=
    run_loadCells_list (P := Tryz.prog) w ⟨b, 3, none⟩ (il .i64 h.l) (fun j v hv => by
      have hadd : (⟨b, 3, none⟩ : Addr).add j = ⟨b, 3 + j, none⟩ := by unfold Addr.add; split <;> simp_all
      have hj : j < h.l.length := by have := (List.getElem?_eq_some_iff.1 hv).1; rwa [il_length] at this
      rw [il_get _ _ _ hj] at hv
      rw [hadd, k.head j (by rw [← k.2]; exact hj)]
      exact hv)
  have hi : (Tryz.prog.info? 32).map (·.size) = some 4 := by kernel_rfl
  cases hq : Tryz.prog.info? 32 with
  | none => simp [hq] at hi
  | some i =>
    have hs : i.size = 4 := by simpa [hq] using hi
    have hagg : (isAgg 32).run Tryz.prog w = .ok true w := by
      unfold isAgg
      rw [Sem.run_bind, run_underlying Tryz.underlying32 w]
      rfl
    rw [il_length, k.2] at hl
    simp [loadVar, Sem.run_bind, hagg, sizeOf, typeInfo, hq, hs, hl, lv]
section
variable {o : Oper} {a : Act} {ops : Array Oper} {rest : List Oper} {Q : Exit → Act → World → Prop}
theorem exec_load_hd (x : Operand) (ho : o.op = .load 34 x) (hx : a.eval x = .pointer (some ⟨b, 0, none⟩)) (k : HB w b h) :
    (execOp a.eval o).run Tryz.prog w = .ok (.value (.agg (hv h))) w := by
  unfold execOp
  simp only [ho, hx, Instr.loadAt, Instr.sureAddr, Sem.run_bind, Sem.run_pure, Result.andThen_ok, k.load]
theorem exec_load_l4 (x : Operand) (ho : o.op = .load 32 x) (hx : a.eval x = .pointer (some ⟨b, 3, none⟩)) (k : HB w b h) :
    (execOp a.eval o).run Tryz.prog w = .ok (.value (.agg (lv h.l))) w := by
  unfold execOp
  simp only [ho, hx, Instr.loadAt, Instr.sureAddr, Sem.run_bind, Sem.run_pure, Result.andThen_ok, k.load4]
theorem wpl_load_hd (hw : Region.wanted o (yielded ops a.tmps) = true) (x : Operand) (ho : o.op = .load 34 x) (hx : a.eval x = .pointer (some ⟨b, 0, none⟩)) (k : HB w b h)
    (hk : wpList Tryz.prog ops Q rest (a.put o.dst (.agg (hv h))) w) : wpList Tryz.prog ops Q (o :: rest) a w := by
  unfold wpList
  rw [if_pos hw]
  exact Or.inl (wp_load_row 34 x ho b hx _ (hv h) (0, 0) _ k.1 Tryz.underlying34 rfl (hv_info k.2) hk)
theorem wpl_valh (hw : o.guard = none) {v : Value} (he : (execOp a.eval o).run Tryz.prog w = .ok (.value v) w) (hk : wpList Tryz.prog ops Q rest (a.put o.dst v) w) : wpList Tryz.prog ops Q (o :: rest) a w := by
  refine wpList_plain hw fun K hK => ?_
  unfold Oper.wp
  rw [he]
  simp only [Oper.upon]
  exact hK _ _ hk
theorem wpl_load_l4 (hg : o.guard = none) (x : Operand) (ho : o.op = .load 32 x) (hx : a.eval x = .pointer (some ⟨b, 3, none⟩)) (k : HB w b h)
    (hk : wpList Tryz.prog ops Q rest (a.put o.dst (.agg (lv h.l))) w) : wpList Tryz.prog ops Q (o :: rest) a w :=
  wpl_valh hg (exec_load_l4 x ho hx k) hk
theorem index_l4 (l : List Int) (hn : l.length = 4) (i : Nat) (hi : i < 4) (w : World) : (Instr.index 32 (.agg (lv l)) (.int .i64 i)).run Tryz.prog w = .ok (.int .i64 (l.getD i 0)) w := by
  have hg : (lv l)[i]? = some (.int .i64 (l.getD i 0)) := by have := il_get .i64 l i (by omega); simpa [lv] using this
  have hp := run_part_plain (P := Tryz.prog) (w := w) (e := 3) (by kernel_rfl) hg
  have hk : (0 : Int) ≤ i ∧ (i : Int) < (4 : Nat) := by omega
  have hs : (sizeOf 3).run Tryz.prog w = .ok 1 w := by
    have : (Tryz.prog.info? 3).map (·.size) = some 1 := by kernel_rfl
    cases hq : Tryz.prog.info? 3 with
    | none => simp [hq] at this
    | some i => simp [hq] at this; simp [sizeOf, typeInfo, hq, this]
  simp [Instr.index, run_underlying Tryz.underlying32, asIntOf, hk, Sem.run_bind, hs, hp]
  omega
end
end
theorem run_items4 {w : World} (a b : List Int) (ha : a.length = 4) (hb : b.length = 4) : ∀ is : List Nat, (∀ i ∈ is, i < 4) →
    (Op.eqItems 9998 3 1 (lv a) (lv b) is).run Tryz.prog w = .ok (is.all fun i => a.getD i 0 == b.getD i 0) w
  | [], _ => by simp [Op.eqItems]
  | i :: is, h => by
    have hi : i < 4 := h i (by simp)
    have g : ∀ l : List Int, l.length = 4 → (lv l)[i * 1]? = some (.int .i64 (l.getD i 0)) := fun l hl => by have := il_get .i64 l i (by omega); rw [Nat.mul_one]; simpa [lv] using this
    have p1 := run_part_plain (P := Tryz.prog) (w := w) (e := 3) (by kernel_rfl) (g a ha)
    have p2 := run_part_plain (P := Tryz.prog) (w := w) (e := 3) (by kernel_rfl) (g b hb)
    have p3 := run_equalIn_int (P := Tryz.prog) w 9997 3 .i64 .i64 (a.getD i 0) (b.getD i 0) Tryz.underlying3
    have p4 := run_items4 (w := w) a b ha hb is (fun j hj => h j (List.mem_cons_of_mem _ hj))
    simp only [Op.eqItems, Sem.run_bind, p1, p2, Result.andThen_ok, List.all_cons]
    rw [p3]
    simp only [Result.andThen_ok]
    cases hc : (a.getD i 0 == b.getD i 0)
    · simp
    · simpa using p4
theorem run_eq_l4 (a b : List Int) (ha : a.length = 4) (hb : b.length = 4) (w : World) : (Op.equalIn 9999 32 (.agg (lv a)) (.agg (lv b))).run Tryz.prog w = .ok (decide (a = b)) w := by
  obtain ⟨i, hi⟩ : ∃ i, Tryz.prog.info? 3 = some i := info_of_underlying Tryz.underlying3
  have hc : Tryz.prog.cellsOf 3 = 1 := by kernel_rfl
  have h1 := run_equalIn_array w (P := Tryz.prog) 9998 (lv a) (lv b) Tryz.underlying32 hi
  rw [hc, run_items4 a b ha hb _ (fun i hi => List.mem_range.1 hi)] at h1
  rw [h1]
  refine congrArg (fun x => Result.ok x w) ?_
  rw [Bool.eq_iff_iff, List.all_eq_true, decide_eq_true_eq]
  constructor
  · intro h
    refine List.ext_getElem (by omega) fun j h1 h2 => ?_
    have := h j (List.mem_range.2 (by omega))
    simpa [List.getD, h1, h2] using this
  · rintro rfl j _
    simp
theorem part_l4 {h : Hdr} (hn : h.l.length = 4) (w : World) : (part 32 (hv h) 3).run Tryz.prog w = .ok (.agg (lv h.l)) w := by
  have hi : (Tryz.prog.info? 32).map (·.size) = some 4 := by kernel_rfl
  cases hq : Tryz.prog.info? 32 with
  | none => simp [hq] at hi
  | some i =>
    have hs : i.size = 4 := by simpa [hq] using hi
    have hagg : (isAgg 32).run Tryz.prog w = .ok true w := by
      unfold isAgg
      rw [Sem.run_bind, run_underlying Tryz.underlying32 w]
      rfl
    have he : (hv h).extract 3 7 = lv h.l := by
      apply Array.ext'
      simp [hv, lv, il]
      exact List.take_of_length_le (by simp [hn])
    simp [part, Sem.run_bind, hagg, sizeOf, typeInfo, hq, hs, he]
theorem run_eq_hd (x y : Hdr) (hx : x.l.length = 4) (hy : y.l.length = 4) (w : World) : (Op.equalIn 10000 34 (.agg (hv x)) (.agg (hv y))).run Tryz.prog w = .ok (decide (x = y)) w := by
  have hp : Tryz.prog.stoodInHeld 34 = false := by kernel_rfl
  rw [run_equalIn_struct w 9999 34 _ _ (by simp only [Program.fieldsOf, Tryz.underlying34]) hp]
  simp only [Program.fieldsOf, Tryz.underlying34]
  have p0 := fun (h : Hdr) => run_part_plain (P := Tryz.prog) (w := w) (e := 31) (by kernel_rfl) (xs := hv h) (off := 0) (v := .int .u64 h.e) rfl
  have p1 := fun (h : Hdr) => run_part_plain (P := Tryz.prog) (w := w) (e := 3) (by kernel_rfl) (xs := hv h) (off := 1) (v := .int .i64 h.s) rfl
  have p2 := fun (h : Hdr) => run_part_plain (P := Tryz.prog) (w := w) (e := 3) (by kernel_rfl) (xs := hv h) (off := 2) (v := .int .i64 h.f) rfl
  have q0 := run_equalIn_int (P := Tryz.prog) w 9998 31 .u64 .u64 x.e y.e Tryz.underlying31
  have q1 := run_equalIn_int (P := Tryz.prog) w 9998 3 .i64 .i64 x.s y.s Tryz.underlying3
  have q2 := run_equalIn_int (P := Tryz.prog) w 9998 3 .i64 .i64 x.f y.f Tryz.underlying3
  have q3 := run_eq_l4 x.l y.l hx hy w
  have p3 := part_l4 hx w
  have p4 := part_l4 hy w
  have e : decide (x = y) = ((x.e == y.e) && ((x.s == y.s) && ((x.f == y.f) && decide (x.l = y.l)))) := by
    obtain ⟨a, b, c, d⟩ := x
    obtain ⟨a', b', c', d'⟩ := y
    rw [Bool.eq_iff_iff]; simp [Hdr.mk.injEq]
  rw [e]
  simp only [Op.eqFields, Sem.run_bind, Sem.run_ite, p0, p1, p2, p3, p4, q0, q1, q2, q3, Result.andThen_ok]
  cases (x.e == y.e) <;> cases (x.s == y.s) <;> cases (x.f == y.f) <;> cases decide (x.l = y.l) <;> simp
theorem run_eql_hd (x y : Hdr) (hx : x.l.length = 4) (hy : y.l.length = 4) (w : World) : (binOp .eql 34 (.agg (hv x)) (.agg (hv y))).run Tryz.prog w = .ok (.bool (decide (x = y))) w := by
  rw [run_eql_struct, run_eq_hd x y hx hy]; rfl
theorem run_neq_hd (x y : Hdr) (hx : x.l.length = 4) (hy : y.l.length = 4) (w : World) : (binOp .neq 34 (.agg (hv x)) (.agg (hv y))).run Tryz.prog w = .ok (.bool (!decide (x = y))) w := by
  rw [run_neq_struct, run_eq_hd x y hx hy]; rfl
theorem hd_guard : Tryz.prog.eqGuardType Tryz.prog.depth 34 = false := by kernel_rfl
theorem exec_eq_hd {a : Act} {o : Oper} {w : World} {c d : Hdr} (hc : c.l.length = 4) (hd : d.l.length = 4) (x y : Operand) (u : TypeId) (ho : o.op = .binOp .eql 34 x y u) (hx : a.eval x = .agg (hv c)) (hy : a.eval y = .agg (hv d)) :
    (execOp a.eval o).run Tryz.prog w = .ok (.value (.bool (decide (c = d)))) w := by
  unfold execOp
  simp only [ho, hx, hy, Sem.run_bind, run_eqGuard_agg w .eql 34 x y _ _ hd_guard, Result.andThen_ok, run_eql_hd c d hc hd, Sem.run_pure]
theorem exec_neq_hd {a : Act} {o : Oper} {w : World} {c d : Hdr} (hc : c.l.length = 4) (hd : d.l.length = 4) (x y : Operand) (u : TypeId) (ho : o.op = .binOp .neq 34 x y u) (hx : a.eval x = .agg (hv c)) (hy : a.eval y = .agg (hv d)) :
    (execOp a.eval o).run Tryz.prog w = .ok (.value (.bool (!decide (c = d)))) w := by
  unfold execOp
  simp only [ho, hx, hy, Sem.run_bind, run_eqGuard_agg w .neq 34 x y _ _ hd_guard, Result.andThen_ok, run_neq_hd c d hc hd, Sem.run_pure]
end Go.Proofs.YtpoiapfgbbmekaaGreatDoor
