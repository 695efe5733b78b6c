/-
  TEXTS JOINED: CrcMath, CrcRef, CrcPat, FR, FragMath, JoinMath, SpanRef, ScanMath. Each one's own words stand at its head.
-/
import Derived.Test.YthickhfbllddjaaDoorBase
import Derived.Laws.BitsAllLaws
import Derived.Test.YthickhfbllddjaaDoorPutMath
import Derived.Test.YthickhfbllddjaaDoorIsB
import Derived.Test.YthickhfbllddjaaDoorJ2
import Derived.Test.YthickhfbllddjaaDoorJ3
/-
  PLAIN MATHEMATICS of layer 3 (crc): one step, many steps, the register behind bytes; it is linear; nothing is lost by a step; sums of joined texts; bursts; a table of half a byte's steps; a linear map by the images of 32 bits. Nothing here speaks of the program. No condition.
-/
namespace Go.Proofs.YthickhfbllddjaaDoor

/-- one step -/
def st (x : Nat) : Nat := if x % 2 = 1 then x / 2 ^^^ 2197175160 else x / 2
/-- n steps -/
def stn : Nat → Nat → Nat
  | 0, x => x
  | n + 1, x => stn n (st x)
theorem st_lt (x : Nat) (h : x < 4294967296) : st x < 4294967296 := by
  unfold st
  split
  · exact Nat.xor_lt_two_pow (n := 32) (by omega) (by omega)
  · omega
theorem stn_lt (n x : Nat) (h : x < 4294967296) : stn n x < 4294967296 := by
  induction n generalizing x with
  | zero => exact h
  | succ n ih => exact ih _ (st_lt x h)
theorem xor_lt (x y : Nat) (h : x < 4294967296) (k : y < 4294967296) : x ^^^ y < 4294967296 := Nat.xor_lt_two_pow (n := 32) h k
theorem xor_right_comm (a b c : Nat) : a ^^^ b ^^^ c = a ^^^ c ^^^ b := by rw [Nat.xor_assoc, Nat.xor_comm b, ← Nat.xor_assoc]
theorem xor_swap4 (a b c d : Nat) : a ^^^ b ^^^ (c ^^^ d) = a ^^^ c ^^^ (b ^^^ d) := by
  rw [← Nat.xor_assoc, ← Nat.xor_assoc, xor_right_comm a b c]
theorem xor_cancel (a b : Nat) : a ^^^ b ^^^ b = a := by rw [Nat.xor_assoc, Nat.xor_self, Nat.xor_zero]
theorem xor_zero_eq (a b : Nat) (h : a ^^^ b = 0) : a = b := by
  have := xor_cancel a b
  rw [h, Nat.zero_xor] at this
  exact this.symm
theorem st_xor (x y : Nat) : st (x ^^^ y) = st x ^^^ st y := by
  have hm : (x ^^^ y) % 2 = (x % 2 + y % 2) % 2 := by
    rw [show (x ^^^ y) % 2 = (x % 2) ^^^ (y % 2) from Nat.xor_mod_two_pow (n := 1)]
    rcases Nat.mod_two_eq_zero_or_one x with hx | hx <;> rcases Nat.mod_two_eq_zero_or_one y with hy | hy <;> rw [hx, hy] <;> rfl
  unfold st
  rw [Nat.xor_div_two]
  rcases Nat.mod_two_eq_zero_or_one x with hx | hx <;> rcases Nat.mod_two_eq_zero_or_one y with hy | hy
  · rw [if_neg (by omega), if_neg (by omega), if_neg (by omega)]
  · rw [if_pos (by omega), if_neg (by omega), if_pos (by omega), Nat.xor_assoc]
  · rw [if_pos (by omega), if_pos (by omega), if_neg (by omega), xor_right_comm]
  · rw [if_neg (by omega), if_pos (by omega), if_pos (by omega), xor_swap4, Nat.xor_self, Nat.xor_zero]
theorem stn_xor (n x y : Nat) : stn n (x ^^^ y) = stn n x ^^^ stn n y := by
  induction n generalizing x y with
  | zero => rfl
  | succ n ih => simp only [stn]; rw [st_xor, ih]
theorem stn_zero (n : Nat) : stn n 0 = 0 := by
  induction n with
  | zero => rfl
  | succ n ih => exact ih
theorem stn_add (m n x : Nat) : stn (m + n) x = stn n (stn m x) := by
  induction m generalizing x with
  | zero => rw [Nat.zero_add]; rfl
  | succ m ih => rw [show m + 1 + n = (m + n) + 1 from by omega]; exact ih (st x)
theorem stn_succ (n x : Nat) : stn (n + 1) x = st (stn n x) := by rw [stn_add]; rfl
theorem st_zero (z : Nat) (h : z < 4294967296) (hz : st z = 0) : z = 0 := by
  unfold st at hz
  split at hz
  · have := xor_zero_eq _ _ hz; omega
  · omega
/-- nothing is lost -/
theorem stn_inj0 (n z : Nat) (h : z < 4294967296) (hz : stn n z = 0) : z = 0 := by
  induction n generalizing z with
  | zero => exact hz
  | succ n ih => exact st_zero z h (ih _ (st_lt z h) hz)
theorem stn_inj (n x y : Nat) (h : x < 4294967296) (k : y < 4294967296) (e : stn n x = stn n y) : x = y := by
  have h1 : stn n (x ^^^ y) = 0 := by rw [stn_xor, e, Nat.xor_self]
  exact xor_zero_eq _ _ (stn_inj0 n _ (xor_lt x y h k) h1)
theorem st_even (y : Nat) : st (2 * y) = y := by unfold st; rw [if_neg (by omega)]; omega
theorem stn_up (n y : Nat) : stn n (2 ^ n * y) = y := by
  induction n generalizing y with
  | zero => simp [stn]
  | succ n ih => rw [stn, Nat.pow_succ, Nat.mul_comm (2 ^ n) 2, Nat.mul_assoc, st_even]; exact ih y

/-- what is above and what is below share no bit -/
theorem up_xor (n a b : Nat) (h : b < 2 ^ n) : 2 ^ n * a + b = b ^^^ 2 ^ n * a := by
  refine Nat.eq_of_testBit_eq fun j => ?_
  rw [Nat.testBit_two_pow_mul_add a h, Nat.testBit_xor, Nat.testBit_two_pow_mul]
  by_cases hj : j < n
  · simp [hj, Nat.not_le.2 hj]
  · have h1 : b.testBit j = false := Nat.testBit_lt_two_pow (Nat.lt_of_lt_of_le h (Nat.pow_le_pow_right (by omega) (by omega)))
    simp [hj, Nat.not_lt.1 hj, h1]
/-- all bits of 32 turned -/
theorem not32 (s : Nat) (h : s < 4294967296) : 4294967295 - s = s ^^^ 4294967295 := by
  refine Nat.eq_of_testBit_eq fun j => ?_
  have h1 := Nat.testBit_two_pow_sub_succ (x := s) (n := 32) h j
  rw [show (2 : Nat) ^ 32 - (s + 1) = 4294967295 - s from by omega] at h1
  rw [h1, Nat.testBit_xor, show (4294967295 : Nat) = 2 ^ 32 - 1 from rfl, Nat.testBit_two_pow_sub_one]
  by_cases hj : j < 32
  · simp [hj]
  · have h2 : s.testBit j = false := Nat.testBit_lt_two_pow (Nat.lt_of_lt_of_le (show s < 2 ^ 32 from h) (Nat.pow_le_pow_right (by omega) (by omega)))
    simp [hj, h2]
/-- the table of half a byte -/
theorem half_step (x : Nat) : stn 4 x = x / 16 ^^^ stn 4 (x % 16) := by
  have e : x = x % 16 ^^^ 2 ^ 4 * (x / 16) := by rw [← up_xor 4 (x / 16) (x % 16) (by omega)]; omega
  have h : stn 4 x = stn 4 (x % 16 ^^^ 2 ^ 4 * (x / 16)) := by rw [← e]
  rw [h, stn_xor, stn_up, Nat.xor_comm]
theorem byte_step (x : Nat) : stn 8 x = x / 256 ^^^ stn 8 (x % 256) := by
  have e : x = x % 256 ^^^ 2 ^ 8 * (x / 256) := by rw [← up_xor 8 (x / 256) (x % 256) (by omega)]; omega
  have h : stn 8 x = stn 8 (x % 256 ^^^ 2 ^ 8 * (x / 256)) := by rw [← e]
  rw [h, stn_xor, stn_up, Nat.xor_comm]

/-- the register behind bytes -/
def reg : Nat → List Int → Nat
  | r, [] => r
  | r, c :: l => reg (stn 8 (r ^^^ c.toNat)) l
theorem reg_nil (r : Nat) : reg r [] = r := rfl
theorem reg_cons (r : Nat) (c : Int) (l : List Int) : reg r (c :: l) = reg (stn 8 (r ^^^ c.toNat)) l := rfl
theorem reg_append (r : Nat) (a b : List Int) : reg r (a ++ b) = reg (reg r a) b := by
  induction a generalizing r with
  | nil => rfl
  | cons c a ih => exact ih _
theorem reg_lt (l : List Int) (hb : ∀ x ∈ l, 0 ≤ x ∧ x ≤ 255) (r : Nat) (h : r < 4294967296) : reg r l < 4294967296 := by
  induction l generalizing r with
  | nil => exact h
  | cons c l ih =>
    have hc := hb c (by simp)
    show reg (stn 8 (r ^^^ c.toNat)) l < 4294967296
    exact ih (fun x hx => hb x (List.mem_cons_of_mem _ hx)) (stn 8 (r ^^^ c.toNat)) (stn_lt 8 (r ^^^ c.toNat) (xor_lt r c.toNat h (by omega)))
theorem reg_xor (l : List Int) (r s : Nat) : reg (r ^^^ s) l = reg r l ^^^ stn (8 * l.length) s := by
  induction l generalizing r s with
  | nil => rfl
  | cons c l ih =>
    rw [reg_cons, reg_cons, List.length_cons]
    rw [xor_right_comm, stn_xor, ih, show 8 * (l.length + 1) = 8 + 8 * l.length from by omega, stn_add]
theorem reg_inj (l : List Int) (x y : Nat) (h : x < 4294967296) (k : y < 4294967296) (e : reg x l = reg y l) : x = y := by
  have h1 : reg y l = reg x l ^^^ stn (8 * l.length) (x ^^^ y) := by rw [← reg_xor, ← Nat.xor_assoc, Nat.xor_self, Nat.zero_xor]
  rw [← e] at h1
  have h2 : stn (8 * l.length) (x ^^^ y) = 0 := by
    have h3 : reg x l ^^^ reg x l = reg x l ^^^ (reg x l ^^^ stn (8 * l.length) (x ^^^ y)) := congrArg (reg x l ^^^ ·) h1
    rw [Nat.xor_self, ← Nat.xor_assoc, Nat.xor_self, Nat.zero_xor] at h3
    exact h3.symm
  exact xor_zero_eq _ _ (stn_inj0 _ _ (xor_lt x y h k) h2)
/-- the sum, and more of it -/
def moreS (s : Nat) (l : List Int) : Nat := 4294967295 - reg (4294967295 - s) l
def ofS (l : List Int) : Nat := moreS 0 l
theorem moreS_lt (s : Nat) (l : List Int) : moreS s l < 4294967296 := by unfold moreS; omega
theorem ofS_lt (l : List Int) : ofS l < 4294967296 := moreS_lt 0 l
theorem ofS_xor (l : List Int) (hb : ∀ x ∈ l, 0 ≤ x ∧ x ≤ 255) : ofS l = reg 4294967295 l ^^^ 4294967295 := by
  unfold ofS moreS; exact not32 _ (reg_lt l hb _ (by omega))
theorem ofS_join (a b : List Int) (ha : ∀ x ∈ a, 0 ≤ x ∧ x ≤ 255) (hb : ∀ x ∈ b, 0 ≤ x ∧ x ≤ 255) : ofS (a ++ b) = stn (8 * b.length) (ofS a) ^^^ ofS b := by
  have hab : ∀ x ∈ a ++ b, 0 ≤ x ∧ x ≤ 255 := fun x hx => (List.mem_append.1 hx).elim (ha x) (hb x)
  have e : reg 4294967295 a = 4294967295 ^^^ ofS a := by rw [ofS_xor a ha, Nat.xor_comm (reg _ _), ← Nat.xor_assoc, Nat.xor_self, Nat.zero_xor]
  rw [ofS_xor _ hab, reg_append, e, reg_xor, ofS_xor b hb, xor_right_comm, Nat.xor_comm (stn _ _)]
/-- bytes as one number, the lowest first -/
def numB : List Int → Nat
  | [] => 0
  | c :: l => c.toNat + 256 * numB l
theorem numB_lt (l : List Int) (hb : ∀ x ∈ l, 0 ≤ x ∧ x ≤ 255) : numB l < 256 ^ l.length := by
  induction l with
  | nil => simp [numB]
  | cons c l ih =>
    have hc := hb c (by simp)
    have h1 := ih fun x hx => hb x (List.mem_cons_of_mem _ hx)
    simp only [numB, List.length_cons, Nat.pow_succ]
    omega
theorem numB_inj (a b : List Int) (ha : ∀ x ∈ a, 0 ≤ x ∧ x ≤ 255) (hb : ∀ x ∈ b, 0 ≤ x ∧ x ≤ 255) (hl : a.length = b.length) (e : numB a = numB b) : a = b := by
  induction a generalizing b with
  | nil => cases b with
    | nil => rfl
    | cons _ _ => simp at hl
  | cons c a ih => cases b with
    | nil => simp at hl
    | cons d b =>
      have hc := ha c (by simp)
      have hd := hb d (by simp)
      simp only [numB] at e
      rw [show c = d from by omega, ih b (fun x hx => ha x (List.mem_cons_of_mem _ hx)) (fun x hx => hb x (List.mem_cons_of_mem _ hx)) (by simpa using hl) (by omega)]
theorem reg_num (l : List Int) (hb : ∀ x ∈ l, 0 ≤ x ∧ x ≤ 255) (r : Nat) : reg r l = stn (8 * l.length) (r ^^^ numB l) := by
  induction l generalizing r with
  | nil =>
    show r = stn 0 (r ^^^ 0)
    rw [Nat.xor_zero]; rfl
  | cons c l ih =>
    have hc := hb c (by simp)
    have e : numB (c :: l) = c.toNat ^^^ 2 ^ 8 * numB l := by rw [← up_xor 8 _ _ (by omega)]; simp only [numB]; omega
    rw [reg_cons, List.length_cons]
    rw [ih (fun x hx => hb x (List.mem_cons_of_mem _ hx)), e, ← Nat.xor_assoc, show 8 * (l.length + 1) = 8 + 8 * l.length from by omega, stn_add, stn_xor 8 (r ^^^ c.toNat), stn_up]
/-- a burst of at most four bytes is seen -/
theorem burst (p w v s : List Int) (hp : ∀ x ∈ p, 0 ≤ x ∧ x ≤ 255) (hw : ∀ x ∈ w, 0 ≤ x ∧ x ≤ 255) (hv : ∀ x ∈ v, 0 ≤ x ∧ x ≤ 255) (hs : ∀ x ∈ s, 0 ≤ x ∧ x ≤ 255)
    (hl : w.length = v.length) (h4 : w.length ≤ 4) (e : ofS (p ++ (w ++ s)) = ofS (p ++ (v ++ s))) : w = v := by
  have h1 : ∀ l : List Int, (∀ x ∈ l, 0 ≤ x ∧ x ≤ 255) → (∀ x ∈ p ++ (l ++ s), 0 ≤ x ∧ x ≤ 255) := fun l hl x hx => by
    rcases List.mem_append.1 hx with h | h
    · exact hp x h
    · exact (List.mem_append.1 h).elim (hl x) (hs x)
  rw [ofS_xor _ (h1 w hw), ofS_xor _ (h1 v hv)] at e
  have e2 : reg 4294967295 (p ++ (w ++ s)) = reg 4294967295 (p ++ (v ++ s)) := by
    have := congrArg (· ^^^ 4294967295) e
    simpa [xor_cancel] using this
  rw [reg_append, reg_append, reg_append, reg_append] at e2
  have hr := reg_lt p hp 4294967295 (by omega)
  have e3 := reg_inj s _ _ (reg_lt w hw _ hr) (reg_lt v hv _ hr) e2
  rw [reg_num w hw, reg_num v hv, hl] at e3
  have hb : ∀ l : List Int, (∀ x ∈ l, 0 ≤ x ∧ x ≤ 255) → l.length ≤ 4 → numB l < 4294967296 := fun l hl h4 =>
    Nat.lt_of_lt_of_le (numB_lt l hl) (Nat.le_trans (Nat.pow_le_pow_right (by omega) h4) (by decide))
  have e4 := stn_inj _ _ _ (xor_lt _ _ hr (hb w hw h4)) (xor_lt _ _ hr (hb v hv (by omega))) e3
  refine numB_inj w v hw hv hl ?_
  have := congrArg (reg 4294967295 p ^^^ ·) e4
  simpa [← Nat.xor_assoc] using this

/-- masked -/
def maskS (s : Nat) : Nat := (s / 32768 + s % 32768 * 131072 + 2726488792) % 4294967296
def unmaskS (m : Nat) : Nat := ((m + 4294967296 - 2726488792) % 4294967296) / 131072 + ((m + 4294967296 - 2726488792) % 4294967296) % 131072 * 32768
theorem unmask_mask (s : Nat) (h : s < 4294967296) : unmaskS (maskS s) = s := by
  unfold unmaskS maskS
  generalize ht : s / 32768 + s % 32768 * 131072 = t
  have h1 : t < 4294967296 := by omega
  have h2 : ((t + 2726488792) % 4294967296 + 4294967296 - 2726488792) % 4294967296 = t := by omega
  rw [h2]
  have h3 : t / 131072 = s % 32768 := by omega
  have h4 : t % 131072 = s / 32768 := by omega
  rw [h3, h4]; omega
theorem mask_unmask (m : Nat) (h : m < 4294967296) : maskS (unmaskS m) = m := by
  unfold unmaskS maskS
  generalize ht : (m + 4294967296 - 2726488792) % 4294967296 = t
  have h1 : t < 4294967296 := by omega
  generalize hs : t / 131072 + t % 131072 * 32768 = s
  have h3 : s / 32768 = t % 131072 := by omega
  have h4 : s % 32768 = t / 131072 := by omega
  rw [h3, h4, show t % 131072 + t / 131072 * 131072 = t from by omega]
  omega
theorem maskS_lt (s : Nat) : maskS s < 4294967296 := by unfold maskS; omega
theorem unmaskS_lt (m : Nat) : unmaskS m < 4294967296 := by unfold unmaskS; omega
theorem of_digits : ofS [49, 50, 51, 52, 53, 54, 55, 56, 57] = 3808858755 := by decide +kernel
end Go.Proofs.YthickhfbllddjaaDoor
/-
  WHAT THE FUNCTIONS OF THE REFERENCE OF LAYER 3 (crc) ANSWER: Step, More, Of, Mask. For every input that its types allow; bytes must lie where the slice says.
-/
namespace Go.Proofs.YthickhfbllddjaaDoor
open Go.RowKit
theorem drop_getD (zs : List Int) (k : Nat) (h : k < zs.length) : zs.drop k = zs.getD k 0 :: zs.drop (k + 1) := by
  rw [List.drop_eq_getElem_cons h]; simp [List.getD, h]
set_option maxRecDepth 8000 in
set_option maxHeartbeats 400000 in
theorem rstep_any (n : Nat) (h : n < 4294967296) (w : World) : Calls Tryd.prog 79 #[.int .u32 n] w fun e w' => e = .returned (.int .u32 (st n)) ∧ w = w' := by
  have hx := u32_xor_nat (n / 2) 2197175160 (by omega) (by omega)
  rw [show (((n / 2 : Nat)) : Int) = (n : Int) / 2 from by omega] at hx
  have HX := Lib.hid hx; clear hx
  have hn : (n : Int) ≤ 4294967295 := by omega
  have HN := Lib.hid h; clear h
  by_cases hm : (n : Int) % 2 = 1
  all_goals
    go_enter Tryd.func79, Tryd.ntmps79
    go_wp2
    go_ret
    refine ⟨ret_int ?_, rfl⟩
    unfold st
  · rw [if_pos (by omega), ← HX.out]; rfl
  · rw [if_neg (by omega)]; simp
set_option maxRecDepth 8000 in
set_option maxHeartbeats 800000 in
theorem rmore_some (s : Nat) (h : s < 4294967296) (b off len cap : Nat) (zs : List Int) (w : World) (hz : zs.length = len) (hb : ∀ x ∈ zs, 0 ≤ x ∧ x ≤ 255) (hl : (len : Int) ≤ 9223372036854775807)
    (hc : ∀ j, j < len → w.cell? ⟨b, off + j, none⟩ = some (.int .u8 (zs.getD j 0))) :
    Calls Tryd.prog 70 #[.int .u32 s, .slice (some ⟨b, off, none⟩) len cap] w fun e w' => e = .returned (.int .u32 (moreS s zs)) ∧ w = w' := by
  have hs : (s : Int) ≤ 4294967295 := by omega
  obtain ⟨m, hm⟩ : ∃ m, moreS s zs = m := ⟨_, rfl⟩
  rw [hm]
  have HM := Lib.hid hm
  have HC := Lib.hid hc
  have HZ := Lib.hid hz
  have HB := Lib.hid hb
  have HS := Lib.hid h
  clear hm hc hz hb h
  go_enter Tryd.func70, Tryd.ntmps70
  go_wp2
  go_loop [5, 6] (fun x i => ∃ (k r : Nat), i = .int .i64 k ∧ x = .int .u32 r ∧ k ≤ len ∧ Hid (r < 4294967296) ∧ Hid (reg r (zs.drop k) = reg (4294967295 - s) zs)) (fun _ i => len - (intOf i).toNat)
  case atStart => exact ⟨0, 4294967295 - s, rfl, by have := HS.out; congr 1; omega, by omega, Lib.hid (by omega), rfl⟩
  case round =>
    obtain ⟨k, r, rfl, rfl, hk, HR, HG⟩ := hrel
    by_cases hlt : k < len
    · obtain ⟨x, hx⟩ : ∃ x, zs.getD k 0 = x := ⟨_, rfl⟩
      have hcell : w.cell? ⟨b, off + k, none⟩ = some (.int .u8 x) := by rw [← hx]; exact HC.out k hlt
      have hxb : 0 ≤ x ∧ x ≤ 255 := by
        rw [← hx]; exact (bytes_of_mem HB.out) k
      have HD := Lib.hid (show reg r (x :: zs.drop (k + 1)) = reg (4294967295 - s) zs from by rw [← hx, ← drop_getD zs k (by rw [HZ.out]; exact hlt)]; exact HG.out)
      obtain ⟨y, rfl⟩ : ∃ y : Nat, x = (y : Int) := ⟨x.toNat, by omega⟩
      have HX := Lib.hid (u32_xor_nat r y HR.out (by omega))
      have HXL := Lib.hid (xor_lt r y HR.out (by omega))
      clear hx HG
      obtain ⟨r0, hr0⟩ : ∃ r0, r ^^^ y = r0 := ⟨_, rfl⟩
      rw [hr0] at HX HXL
      have H0 := Lib.hid hr0; clear hr0
      have hxx : bits .xor .u32 (r : Int) (y : Int) = (r0 : Int) := HX.out
      clear HX
      go_wp2
      go_loop [5, 7] (fun x j => ∃ (c q : Nat), j = .int .i64 c ∧ x = .int .u32 q ∧ c ≤ 8 ∧ Hid (q < 4294967296) ∧ Hid (stn c r0 = q)) (fun _ j => 8 - (intOf j).toNat)
      case atStart => exact ⟨0, r0, rfl, rfl, by omega, HXL, rfl⟩
      case round =>
        obtain ⟨c, q, rfl, rfl, hc8, HQ, HT⟩ := hrel
        by_cases hlt2 : c < 8
        · go_wp2_with (first | (go_at_call 79; (with_reducible refine (rstep_any q HQ.out _).mono ?_); rintro e w' ⟨rfl, rfl⟩))
          go_round
          case rel => exact ⟨c + 1, st q, by go_num, rfl, by omega, st_lt q HQ.out, by rw [← HT.out]; exact stn_succ c r0⟩
          case measure => simp [intOf]; omega
        · go_wp2
          go_round
          case rel =>
            refine ⟨k + 1, q, by go_num, rfl, by omega, HQ, ?_⟩
            have h1 := HD.out
            rw [reg_cons, Int.toNat_natCast, H0.out, show 8 = c from by omega, HT.out] at h1
            exact h1
          case measure => simp [intOf]; omega
    · go_wp2
      go_ret
      refine ⟨ret_int ?_, rfl⟩
      have h1 := HG.out
      rw [show zs.drop k = [] from List.drop_eq_nil_of_le (by rw [HZ.out]; omega), reg_nil] at h1
      have h2 := HM.out; have h3 := HR.out
      unfold moreS at h2; omega

set_option maxRecDepth 8000 in
set_option maxHeartbeats 400000 in
theorem rmore_zero (s : Nat) (h : s < 4294967296) (a : Option Addr) (cap : Nat) (w : World) :
    Calls Tryd.prog 70 #[.int .u32 s, .slice a 0 cap] w fun e w' => e = .returned (.int .u32 (moreS s [])) ∧ w = w' := by
  have hs : (s : Int) ≤ 4294967295 := by omega
  have HS := Lib.hid h; clear h
  go_enter Tryd.func70, Tryd.ntmps70
  go_wp2
  refine wp_loop_rounds 1 ?_
  rw [rounds_succ]
  go_wp2
  go_ret
  refine ⟨ret_int ?_, rfl⟩
  have := HS.out
  unfold moreS
  rw [reg_nil]; omega
theorem rmore_any {s len : Nat} (h : s < 4294967296) {v : Value} {zs : List Int} {w : World} (hri : RI .u8 w v len zs) (hb : ∀ x ∈ zs, 0 ≤ x ∧ x ≤ 255) {m : Nat} (hm : moreS s zs = m) :
    Calls Tryd.prog 70 #[.int .u32 s, v] w fun e w' => e = .returned (.int .u32 m) ∧ w = w' := by
  subst hm
  obtain ⟨a, cap, rfl, hl, h1, h2, _, hc⟩ := hri
  by_cases h0 : 0 < len
  · obtain ⟨b, off, rfl, hcell⟩ := hc h0
    exact rmore_some s h b off len cap zs w hl hb (by omega) hcell
  · obtain rfl : len = 0 := by omega
    obtain rfl : zs = [] := List.length_eq_zero_iff.1 hl
    exact rmore_zero s h a cap w
theorem rmore_0 {len : Nat} {v : Value} {zs : List Int} {w : World} (hri : RI .u8 w v len zs) (hb : ∀ x ∈ zs, 0 ≤ x ∧ x ≤ 255) {m : Nat} (hm : moreS 0 zs = m) :
    Calls Tryd.prog 70 #[.int .u32 0, v] w fun e w' => e = .returned (.int .u32 m) ∧ w = w' := rmore_any (s := 0) (by omega) hri hb hm
theorem rof_any {len : Nat} {v : Value} {zs : List Int} {w : World} (hri : RI .u8 w v len zs) (hb : ∀ x ∈ zs, 0 ≤ x ∧ x ≤ 255) {m : Nat} (hm : ofS zs = m) :
    Calls Tryd.prog 60 #[v] w fun e w' => e = .returned (.int .u32 m) ∧ w = w' := by
  have HR := Lib.hid hri
  have HB := Lib.hid hb
  have HM := Lib.hid (show moreS 0 zs = m from hm)
  clear hri hb hm
  go_enter Tryd.func60, Tryd.ntmps60
  go_wp2_with (first | (go_at_call 70; (with_reducible refine (rmore_0 HR.out HB.out HM.out).mono ?_); rintro e w' ⟨rfl, rfl⟩))
  go_ret
  exact ⟨rfl, rfl⟩
set_option maxRecDepth 8000 in
theorem rmask_any (n : Nat) (h : n < 4294967296) (w : World) : Calls Tryd.prog 59 #[.int .u32 n] w fun e w' => e = .returned (.int .u32 (maskS n)) ∧ w = w' := by
  have hn : (n : Int) ≤ 4294967295 := by omega
  clear h
  go_enter Tryd.func59, Tryd.ntmps59
  go_wp2
  go_ret
  refine ⟨ret_int ?_, rfl⟩
  unfold maskS
  omega
theorem rmask_at (n m : Nat) (h : n < 4294967296) (hm : maskS n = m) (w : World) : Calls Tryd.prog 59 #[.int .u32 n] w fun e w' => e = .returned (.int .u32 m) ∧ w = w' :=
  (rmask_any n h w).mono fun _ _ ⟨he, hw⟩ => ⟨by rw [he, hm], hw⟩
end Go.Proofs.YthickhfbllddjaaDoor
/-
  BYTES OF WHICH SOME, NEXT TO ONE ANOTHER, WERE CHANGED, and their sum: plain mathematics. No condition.
-/
namespace Go.Proofs.YthickhfbllddjaaDoor
open Go.RowKit
/-- zs, its bytes from at on replaced by the first k of ws -/
def pat (zs ws : List Int) (at_ : Nat) : Nat → List Int
  | 0 => zs
  | k + 1 => (pat zs ws at_ k).set (at_ + k) (ws.getD k 0)
theorem pat_length (zs ws : List Int) (at_ k : Nat) : (pat zs ws at_ k).length = zs.length := by
  induction k with
  | zero => rfl
  | succ k ih => simp [pat, ih]
theorem pat_bytes (zs ws : List Int) (at_ k : Nat) (hz : ∀ x ∈ zs, 0 ≤ x ∧ x ≤ 255) (hw : ∀ x ∈ ws, 0 ≤ x ∧ x ≤ 255) : ∀ x ∈ pat zs ws at_ k, 0 ≤ x ∧ x ≤ 255 := by
  induction k with
  | zero => exact hz
  | succ k ih =>
    intro x hx
    rcases List.mem_or_eq_of_mem_set hx with h | h
    · exact ih x h
    · subst h; exact (bytes_of_mem hw) k
theorem pat_split (zs ws : List Int) (at_ k : Nat) (h : at_ + k ≤ zs.length) (hk : k ≤ ws.length) : pat zs ws at_ k = zs.take at_ ++ (ws.take k ++ zs.drop (at_ + k)) := by
  induction k with
  | zero => simp [pat]
  | succ k ih =>
    rw [pat, ih (by omega) (by omega), List.set_append_right _ _ (by simp; omega)]
    congr 1
    rw [List.set_append_right _ _ (by simp; omega)]
    have e : at_ + k - (zs.take at_).length - (ws.take k).length = 0 := by simp; omega
    rw [e, drop_getD zs (at_ + k) (by omega), List.set_cons_zero, List.take_succ_eq_append_getElem (by omega : k < ws.length), List.append_assoc, Nat.add_assoc]
    simp [List.getD, show k < ws.length by omega]
/-- a burst is seen -/
theorem pat_of (zs ws : List Int) (at_ k : Nat) (h : at_ + k ≤ zs.length) (hk : k ≤ ws.length) (h4 : k ≤ 4) (hz : ∀ x ∈ zs, 0 ≤ x ∧ x ≤ 255) (hw : ∀ x ∈ ws, 0 ≤ x ∧ x ≤ 255) (e : ofS (pat zs ws at_ k) = ofS zs) : pat zs ws at_ k = zs := by
  have hs := pat_split zs ws at_ k h hk
  have e1 : zs = zs.take at_ ++ ((zs.drop at_).take k ++ zs.drop (at_ + k)) := by
    rw [← List.drop_drop, List.take_append_drop, List.take_append_drop]
  have hb : ∀ l : List Int, (∀ x ∈ l, x ∈ zs) → ∀ x ∈ l, 0 ≤ x ∧ x ≤ 255 := fun l hl x hx => hz x (hl x hx)
  have e2 : ws.take k = (zs.drop at_).take k := by
    refine burst (zs.take at_) _ _ (zs.drop (at_ + k)) (hb _ fun x hx => List.mem_of_mem_take hx) (fun x hx => hw x (List.mem_of_mem_take hx)) (hb _ fun x hx => List.mem_of_mem_drop (List.mem_of_mem_take hx)) (hb _ fun x hx => List.mem_of_mem_drop hx) (by simp; omega) (by simp; omega) ?_
    rw [← hs, ← e1]; exact e
  rw [hs, e2, ← e1]
end Go.Proofs.YthickhfbllddjaaDoor
/-
  A FRAGMENT (layer 13), as a plain thing. No condition.
-/
namespace Go.Proofs.YthickhfbllddjaaDoor
/-- a fragment -/
structure FR where
  kind : Int
  epoch : Int
  data : List Int
deriving instance DecidableEq for FR
end Go.Proofs.YthickhfbllddjaaDoor
/-
  FRAGMENTS AND THEIR BYTES (layer 13), plain mathematics: which are right (fragOk), a fragment's bytes (fragB), the fragment that bytes begin with (fragD); what is put is got, and the other way about; a burst is seen. No condition.
-/
namespace Go.Proofs.YthickhfbllddjaaDoor
def noF : FR := ⟨0, 0, []⟩
def fragOk (k : Int) (n : Nat) : Bool := decide (1 ≤ k ∧ k ≤ 4 ∧ n ≤ 197)
theorem fok_parts {k : Int} {n : Nat} (h : fragOk k n = true) : 1 ≤ k ∧ k ≤ 4 ∧ n ≤ 197 := of_decide_eq_true h
/-- the number of n bytes from a on -/
def num (zs : List Int) (a n : Nat) : Int := getI (zs.drop a) n
/-- what stands behind the sum, but for the data -/
def fragK (k e : Int) (n : Nat) : List Int := putL n 2 ++ [k] ++ putL e 4
/-- what stands behind the sum -/
def fragT (k e : Int) (d : List Int) : List Int := fragK k e d.length ++ d
/-- a fragment's sum, masked -/
def fragS (k e : Int) (d : List Int) : Nat := maskS (ofS (fragT k e d))
/-- a fragment's bytes -/
def fragB (k e : Int) (d : List Int) : List Int := putL (fragS k e d) 4 ++ fragT k e d
theorem fragK_length (k e : Int) (n : Nat) : (fragK k e n).length = 7 := by simp [fragK, putL_length]
theorem fragT_length (k e : Int) (d : List Int) : (fragT k e d).length = 7 + d.length := by simp [fragT, fragK_length]
theorem fragB_length (k e : Int) (d : List Int) : (fragB k e d).length = 11 + d.length := by simp [fragB, fragT_length, putL_length]; omega
theorem putL_isB (n : Int) (k : Nat) : isB (putL n k) := (putL_bytes n k).mem
theorem fragK_bytes {k : Int} (hk : 0 ≤ k ∧ k ≤ 255) (e : Int) (n : Nat) : isB (fragK k e n) :=
  isB.append (isB.append (putL_isB _ _) (fun x hx => by simp only [List.mem_cons, List.not_mem_nil, or_false] at hx; subst hx; exact hk)) (putL_isB _ _)
theorem fragT_bytes {k : Int} (hk : 0 ≤ k ∧ k ≤ 255) (e : Int) {d : List Int} (hd : isB d) : isB (fragT k e d) := (fragK_bytes hk e _).append hd
theorem fragB_bytes {k : Int} (hk : 0 ≤ k ∧ k ≤ 255) (e : Int) {d : List Int} (hd : isB d) : isB (fragB k e d) := isB.append (putL_isB _ _) (fragT_bytes hk e hd)
theorem fragS_lt (k e : Int) (d : List Int) : fragS k e d < 4294967296 := maskS_lt _
theorem maskS_inj {a b : Nat} (ha : a < 4294967296) (hb : b < 4294967296) (h : maskS a = maskS b) : a = b := by
  rw [← unmask_mask a ha, h, unmask_mask b hb]
/-- numbers that are read out of bytes -/
theorem getI_take (l : List Int) (m k : Nat) (h : k ≤ m) : getI (l.take m) k = getI l k := by
  induction k with
  | zero => rfl
  | succ k ih =>
    have e : (l.take m).getD k 0 = l.getD k 0 := by simp only [List.getD, List.getElem?_take, show k < m by omega, if_true]
    simp only [getI]; rw [ih (by omega), e]
theorem getI_append (a b : List Int) (k : Nat) (h : k ≤ a.length) : getI (a ++ b) k = getI a k := by
  have := getI_take (a ++ b) a.length k h
  rw [List.take_left] at this
  exact this.symm
theorem num_take (zs : List Int) (m a n : Nat) (h : a + n ≤ m) : num (zs.take m) a n = num zs a n := by
  unfold num; rw [List.drop_take, getI_take _ _ _ (by omega)]
theorem num_bd {zs : List Int} (h : isB zs) (a n : Nat) : 0 ≤ num zs a n ∧ num zs a n < 2 ^ (8 * n) := getI_bd _ (bytes_of_mem (h.drop a)) n
theorem num_put {zs : List Int} (h : isB zs) (a n : Nat) (hl : a + n ≤ zs.length) : putL (num zs a n) n = (zs.drop a).take n := by
  unfold num
  rw [← getI_take (zs.drop a) n n (Nat.le_refl _)]
  exact putL_getI _ (bytes_of_mem ((h.drop a).take n)) n (by simp; omega)
theorem num_one (zs : List Int) (a : Nat) : num zs a 1 = zs.getD a 0 := by simp [num, getI, List.getD]
theorem num_two (zs : List Int) (a : Nat) : num zs a 2 = zs.getD a 0 + 256 * zs.getD (a + 1) 0 := by
  simp [num, getI, List.getD]; omega
/-- the fragment that bytes begin with, how many they are; or why there is none -/
def fragD (zs : List Int) (ep : Int) : FR × Nat × Int :=
  if zs.length < 11 then (noF, 0, 1) else
  if zs.take 11 = List.replicate 11 0 then (noF, 0, 7) else
  if fragOk (num zs 6 1) (num zs 4 2).toNat = false ∨ num zs 7 4 ≠ ep then (noF, 0, 2) else
  if zs.length < 11 + (num zs 4 2).toNat then (noF, 0, 1) else
  if num zs 0 4 ≠ maskS (ofS ((zs.take (11 + (num zs 4 2).toNat)).drop 4)) then (noF, 0, 3) else
  (⟨num zs 6 1, num zs 7 4, (zs.drop 11).take (num zs 4 2).toNat⟩, 11 + (num zs 4 2).toNat, 0)
section
variable {zs : List Int} {ep : Int}
theorem fragD_short (h : zs.length < 11) : fragD zs ep = (noF, 0, 1) := by unfold fragD; rw [if_pos h]
theorem fragD_none (h : ¬ zs.length < 11) (h2 : zs.take 11 = List.replicate 11 0) : fragD zs ep = (noF, 0, 7) := by unfold fragD; rw [if_neg h, if_pos h2]
section
variable (h : ¬ zs.length < 11) (h2 : ¬ zs.take 11 = List.replicate 11 0)
include h h2
theorem fragD_form (h3 : fragOk (num zs 6 1) (num zs 4 2).toNat = false ∨ num zs 7 4 ≠ ep) : fragD zs ep = (noF, 0, 2) := by unfold fragD; rw [if_neg h, if_neg h2, if_pos h3]
variable (h3 : fragOk (num zs 6 1) (num zs 4 2).toNat = true) (h4 : num zs 7 4 = ep)
include h3 h4
theorem fragD_cut (h5 : zs.length < 11 + (num zs 4 2).toNat) : fragD zs ep = (noF, 0, 1) := by
  unfold fragD; rw [if_neg h, if_neg h2, if_neg (by rw [h3]; simp [h4]), if_pos h5]
theorem fragD_sum (h5 : ¬ zs.length < 11 + (num zs 4 2).toNat) (h6 : num zs 0 4 ≠ maskS (ofS ((zs.take (11 + (num zs 4 2).toNat)).drop 4))) : fragD zs ep = (noF, 0, 3) := by
  unfold fragD; rw [if_neg h, if_neg h2, if_neg (by rw [h3]; simp [h4]), if_neg h5, if_pos h6]
theorem fragD_ok (h5 : ¬ zs.length < 11 + (num zs 4 2).toNat) (h6 : num zs 0 4 = maskS (ofS ((zs.take (11 + (num zs 4 2).toNat)).drop 4))) :
    fragD zs ep = (⟨num zs 6 1, num zs 7 4, (zs.drop 11).take (num zs 4 2).toNat⟩, 11 + (num zs 4 2).toNat, 0) := by
  unfold fragD; rw [if_neg h, if_neg h2, if_neg (by rw [h3]; simp [h4]), if_neg h5, if_neg (by simp [h6])]
end
/-- what a fragment that is told is like -/
theorem fragD_parts (h : (fragD zs ep).2.2 = 0) : 11 ≤ zs.length ∧ fragOk (num zs 6 1) (num zs 4 2).toNat = true ∧ num zs 7 4 = ep ∧ 11 + (num zs 4 2).toNat ≤ zs.length ∧ num zs 0 4 = maskS (ofS ((zs.take (11 + (num zs 4 2).toNat)).drop 4)) := by
  by_cases h1 : zs.length < 11
  · rw [fragD_short h1] at h; exact absurd h (by decide)
  by_cases h2 : zs.take 11 = List.replicate 11 0
  · rw [fragD_none h1 h2] at h; exact absurd h (by decide)
  by_cases h3 : fragOk (num zs 6 1) (num zs 4 2).toNat = false ∨ num zs 7 4 ≠ ep
  · rw [fragD_form h1 h2 h3] at h; exact absurd h (by decide)
  have h3a : fragOk (num zs 6 1) (num zs 4 2).toNat = true := by cases hq : fragOk (num zs 6 1) (num zs 4 2).toNat <;> simp_all
  have h3b : num zs 7 4 = ep := by by_cases hq : num zs 7 4 = ep; exact hq; exact absurd (Or.inr hq) h3
  by_cases h5 : zs.length < 11 + (num zs 4 2).toNat
  · rw [fragD_cut h1 h2 h3a h3b h5] at h; exact absurd h (by decide)
  by_cases h6 : num zs 0 4 = maskS (ofS ((zs.take (11 + (num zs 4 2).toNat)).drop 4))
  · exact ⟨by omega, h3a, h3b, by omega, h6⟩
  · rw [fragD_sum h1 h2 h3a h3b h5 h6] at h; exact absurd h (by decide)
/-- .. and what an error leaves -/
theorem fragD_err (h : (fragD zs ep).2.2 ≠ 0) : fragD zs ep = (noF, 0, (fragD zs ep).2.2) := by
  by_cases h1 : zs.length < 11
  · rw [fragD_short h1]
  by_cases h2 : zs.take 11 = List.replicate 11 0
  · rw [fragD_none h1 h2]
  by_cases h3 : fragOk (num zs 6 1) (num zs 4 2).toNat = false ∨ num zs 7 4 ≠ ep
  · rw [fragD_form h1 h2 h3]
  have h3a : fragOk (num zs 6 1) (num zs 4 2).toNat = true := by cases hq : fragOk (num zs 6 1) (num zs 4 2).toNat <;> simp_all
  have h3b : num zs 7 4 = ep := by by_cases hq : num zs 7 4 = ep; exact hq; exact absurd (Or.inr hq) h3
  by_cases h5 : zs.length < 11 + (num zs 4 2).toNat
  · rw [fragD_cut h1 h2 h3a h3b h5]
  by_cases h6 : num zs 0 4 = maskS (ofS ((zs.take (11 + (num zs 4 2).toNat)).drop 4))
  · rw [fragD_ok h1 h2 h3a h3b h5 h6] at h; exact absurd rfl h
  · rw [fragD_sum h1 h2 h3a h3b h5 h6]
theorem fragD_data (hb : isB zs) : isB (fragD zs ep).1.data := by
  by_cases h : (fragD zs ep).2.2 = 0
  · obtain ⟨h1, h2, h3, h4, h5⟩ := fragD_parts h
    unfold fragD
    split
    · exact isB.nil
    · split
      · exact isB.nil
      · split
        · exact isB.nil
        · split
          · exact isB.nil
          · split
            · exact isB.nil
            · exact (hb.drop _).take _
  · rw [fragD_err h]; exact isB.nil
end
/-- all bytes but the data, out of the numbers that they tell -/
theorem head_back (zs : List Int) (hb : isB zs) (hl : 11 ≤ zs.length) : fragK (num zs 6 1) (num zs 7 4) (num zs 4 2).toNat = (zs.take 11).drop 4 := by
  have h2 := num_bd hb 4 2
  have e : (((num zs 4 2).toNat : Nat) : Int) = num zs 4 2 := by omega
  unfold fragK
  rw [e, num_put hb 4 2 (by omega), num_put hb 7 4 (by omega), num_one]
  match zs, hl with
  | a0 :: a1 :: a2 :: a3 :: a4 :: a5 :: a6 :: a7 :: a8 :: a9 :: a10 :: r, _ => simp
/-- what is got is put by the same bytes -/
theorem tail_back (zs : List Int) (hb : isB zs) (h4 : 11 + (num zs 4 2).toNat ≤ zs.length) :
    fragT (num zs 6 1) (num zs 7 4) ((zs.drop 11).take (num zs 4 2).toNat) = (zs.take (11 + (num zs 4 2).toNat)).drop 4 := by
  unfold fragT
  rw [show ((zs.drop 11).take (num zs 4 2).toNat).length = (num zs 4 2).toNat from by simp; omega, head_back zs hb (by omega), List.take_add, List.drop_append_of_le_length (by simp; omega)]
theorem frag_back {zs : List Int} {ep : Int} (hb : isB zs) (h : (fragD zs ep).2.2 = 0) :
    fragOk (fragD zs ep).1.kind (fragD zs ep).1.data.length = true ∧ (fragD zs ep).1.epoch = ep ∧ (fragD zs ep).2.1 ≤ zs.length ∧ (fragD zs ep).2.1 = 11 + (fragD zs ep).1.data.length ∧ fragB (fragD zs ep).1.kind (fragD zs ep).1.epoch (fragD zs ep).1.data = zs.take (fragD zs ep).2.1 := by
  obtain ⟨h1, h2, h3, h4, h5⟩ := fragD_parts h
  have hn : ¬ zs.take 11 = List.replicate 11 0 := by
    intro hz
    have := fok_parts h2
    rw [num_one] at this
    have e : (zs.take 11).getD 6 0 = zs.getD 6 0 := by simp only [List.getD, List.getElem?_take]; rfl
    rw [hz] at e
    have : zs.getD 6 0 = 0 := by rw [← e]; rfl
    omega
  rw [fragD_ok (by omega) hn h2 h3 (by omega) h5]
  simp only
  have hlen : ((zs.drop 11).take (num zs 4 2).toNat).length = (num zs 4 2).toNat := by simp; omega
  refine ⟨by rw [hlen]; exact h2, h3, h4, by rw [hlen], ?_⟩
  have ht := tail_back zs hb h4
  unfold fragB fragS
  rw [ht, ← h5, num_put hb 0 4 (by omega)]
  have e : (zs.drop 0).take 4 = (zs.take (11 + (num zs 4 2).toNat)).take 4 := by rw [List.drop_zero, List.take_take, Nat.min_eq_left (by omega)]
  rw [e, List.take_append_drop]
/-- the numbers of a fragment's bytes -/
theorem frag_nums (k e : Int) (d r : List Int) (hn : d.length ≤ 65535) (he : 0 ≤ e ∧ e < 4294967296) :
    num (fragB k e d ++ r) 0 4 = fragS k e d ∧ num (fragB k e d ++ r) 4 2 = d.length ∧ num (fragB k e d ++ r) 6 1 = k ∧ num (fragB k e d ++ r) 7 4 = e := by
  have hs := fragS_lt k e d
  have p4 : (fragB k e d ++ r).drop 4 = putL d.length 2 ++ ([k] ++ (putL e 4 ++ (d ++ r))) := by
    unfold fragB
    rw [List.append_assoc, List.drop_left' (by rw [putL_length])]
    unfold fragT fragK
    simp
  have p6 : (fragB k e d ++ r).drop 6 = [k] ++ (putL e 4 ++ (d ++ r)) := by
    rw [show 6 = 4 + 2 from rfl, ← List.drop_drop, p4, List.drop_left' (by rw [putL_length])]
  have p7 : (fragB k e d ++ r).drop 7 = putL e 4 ++ (d ++ r) := by
    rw [show 7 = 6 + 1 from rfl, ← List.drop_drop, p6]; rfl
  unfold num
  refine ⟨?_, ?_, ?_, ?_⟩
  · rw [List.drop_zero]
    unfold fragB
    rw [List.append_assoc, getI_append _ _ _ (by rw [putL_length]; omega), getI_put _ _ _ (Nat.le_refl _)]
    omega
  · rw [p4, getI_append _ _ _ (by rw [putL_length]; omega), getI_put _ _ _ (Nat.le_refl _)]; omega
  · rw [p6]; simp [getI]
  · rw [p7, getI_append _ _ _ (by rw [putL_length]; omega), getI_put _ _ _ (Nat.le_refl _)]; omega
theorem frag_head (k e : Int) (d r : List Int) (hk : 1 ≤ k) (hn : d.length ≤ 65535) (he : 0 ≤ e ∧ e < 4294967296) : ¬ (fragB k e d ++ r).take 11 = List.replicate 11 0 := by
  intro hz
  obtain ⟨_, _, h, _⟩ := frag_nums k e d r hn he
  rw [num_one] at h
  have e : ((fragB k e d ++ r).take 11).getD 6 0 = (fragB k e d ++ r).getD 6 0 := by simp only [List.getD, List.getElem?_take]; rfl
  rw [hz, h] at e
  have : (0 : Int) = k := e
  omega
/-- what is put is got by its own epoch .. -/
theorem frag_got {k e : Int} {d : List Int} (r : List Int) (h : fragOk k d.length = true) (he : 0 ≤ e ∧ e < 4294967296) : fragD (fragB k e d ++ r) e = (⟨k, e, d⟩, 11 + d.length, 0) := by
  have hp := fok_parts h
  obtain ⟨n0, n4, n6, n7⟩ := frag_nums k e d r (by omega) he
  have hl := fragB_length k e d
  have hn : (num (fragB k e d ++ r) 4 2).toNat = d.length := by omega
  have htk : (fragB k e d ++ r).take (11 + d.length) = fragB k e d := List.take_left' hl
  have h5 : num (fragB k e d ++ r) 0 4 = maskS (ofS (((fragB k e d ++ r).take (11 + (num (fragB k e d ++ r) 4 2).toNat)).drop 4)) := by
    rw [hn, htk, n0]
    unfold fragB fragS
    rw [List.drop_left' (by rw [putL_length])]
  rw [fragD_ok (by simp; omega) (frag_head k e d r hp.1 (by omega) he) (by rw [n6, hn]; exact h) n7 (by rw [hn]; simp; omega) h5, n6, n7, hn]
  have hd : ((fragB k e d ++ r).drop 11).take d.length = d := by
    have : (fragB k e d).drop 11 = d := by
      unfold fragB fragT
      rw [← List.append_assoc, List.drop_left' (by simp [putL_length, fragK_length])]
    rw [List.drop_append_of_le_length (by omega), this, List.take_left]
  rw [hd]
/-- .. and by no other one -/
theorem frag_other {k e : Int} {d : List Int} (r : List Int) (h : fragOk k d.length = true) (he : 0 ≤ e ∧ e < 4294967296) {ep : Int} (hne : ep ≠ e) : fragD (fragB k e d ++ r) ep = (noF, 0, 2) := by
  have hp := fok_parts h
  obtain ⟨n0, n4, n6, n7⟩ := frag_nums k e d r (by omega) he
  have hl := fragB_length k e d
  exact fragD_form (by simp; omega) (frag_head k e d r hp.1 (by omega) he) (Or.inr (by rw [n7]; exact fun q => hne q.symm))
/-- what lies ahead of a change stays -/
theorem pat_take (zs ws : List Int) (at_ k m : Nat) (h : m ≤ at_) : (pat zs ws at_ k).take m = zs.take m := by
  induction k with
  | zero => rfl
  | succ k ih => rw [pat, List.take_set_of_le (by omega)]; exact ih
theorem pat_drop (zs ws : List Int) (at_ k m : Nat) (h : m ≤ at_) : (pat zs ws at_ k).drop m = pat (zs.drop m) ws (at_ - m) k := by
  induction k with
  | zero => rfl
  | succ k ih => rw [pat, List.drop_set, if_neg (by omega), ih, pat, show at_ - m + k = at_ + k - m from by omega]
/-- a burst is seen -/
theorem frag_burst {k e : Int} {d : List Int} (h : fragOk k d.length = true) (he : 0 ≤ e ∧ e < 4294967296) (hd : isB d) (ws : List Int) (hw : isB ws) (at_ j : Nat) (ha : 6 ≤ at_) (hj : at_ + j ≤ 11 + d.length) (hjw : j ≤ ws.length) (h4 : j ≤ 4)
    {ep : Int} (hg : (fragD (pat (fragB k e d) ws at_ j) ep).2.2 = 0) : pat (fragB k e d) ws at_ j = fragB k e d := by
  have hp := fok_parts h
  have hl := fragB_length k e d
  have hbb := fragB_bytes (k := k) (by omega) e hd
  obtain ⟨z, hz⟩ : ∃ z, fragB k e d = z := ⟨_, rfl⟩
  obtain ⟨n0, n4, _, _⟩ := frag_nums k e d [] (by omega) he
  have hS : fragS k e d = maskS (ofS (z.drop 4)) := by
    rw [← hz]; unfold fragB fragS; rw [List.drop_left' (by rw [putL_length])]
  rw [List.append_nil, hz] at n0 n4
  rw [hz] at hl hg hbb ⊢
  obtain ⟨h1, h2, h3, h5, h6⟩ := fragD_parts hg
  have ht6 : (pat z ws at_ j).take 6 = z.take 6 := pat_take z ws at_ j 6 ha
  have m0 : num (pat z ws at_ j) 0 4 = num z 0 4 := by rw [← num_take _ 6 0 4 (by omega), ht6, num_take _ 6 0 4 (by omega)]
  have m4 : num (pat z ws at_ j) 4 2 = num z 4 2 := by rw [← num_take _ 6 4 2 (by omega), ht6, num_take _ 6 4 2 (by omega)]
  rw [m0, m4, n0, n4, Int.toNat_natCast] at h6
  rw [List.take_of_length_le (by rw [pat_length]; omega), hS] at h6
  have h7 := maskS_inj (ofS_lt _) (ofS_lt _) (Int.ofNat.inj h6)
  rw [pat_drop z ws at_ j 4 (by omega)] at h7
  have h8 := pat_of (z.drop 4) ws (at_ - 4) j (by simp; omega) hjw h4 (hbb.drop 4) hw h7.symm
  rw [← pat_drop z ws at_ j 4 (by omega)] at h8
  have ht4 := pat_take z ws at_ j 4 (by omega)
  rw [← List.take_append_drop 4 (pat z ws at_ j), ht4, h8, List.take_append_drop]
theorem awake_frag : (fragB 1 7 [120]).length = 12 := by rw [fragB_length]; rfl
end Go.Proofs.YthickhfbllddjaaDoor
/-
  WHAT A JOINER DOES (layer 15), as plain functions: what a fragment's kind, and its bytes, turn of what came; what a list of fragments comes to. Plain mathematics. No condition.
-/
namespace Go.Proofs.YthickhfbllddjaaDoor
/-- whether a fragment of kind k may come, where a record is begun (o), or none -/
def jFit (o : Bool) (k : Int) : Bool := if o = true then decide (k = 3 ∨ k = 4) else decide (k = 1 ∨ k = 2)
def jErr (o : Bool) (h : List Int) (k : Int) (d : List Int) : Int := if jFit o k = true then (if h.length + d.length > 512 then 5 else 0) else 2
def jLast (k : Int) : Bool := decide (k = 1 ∨ k = 4)
def jEnds (o : Bool) (h : List Int) (k : Int) (d : List Int) : Bool := decide (jErr o h k d = 0) && jLast k
def jGoes (o : Bool) (h : List Int) (k : Int) (d : List Int) : Bool := decide (jErr o h k d = 0) && !jLast k
def jHad (o : Bool) (h : List Int) (k : Int) (d : List Int) : List Int := if jGoes o h k d = true then h ++ d else []
def jTell (o : Bool) (h : List Int) (k : Int) (d : List Int) : List Int := if jEnds o h k d = true then h ++ d else []
section
variable {o : Bool} {h : List Int} {k : Int} {d : List Int}
theorem j_wrong (hf : jFit o k = false) : jErr o h k d = 2 ∧ jEnds o h k d = false ∧ jGoes o h k d = false ∧ jHad o h k d = [] ∧ jTell o h k d = [] := by
  have e : jErr o h k d = 2 := by unfold jErr; rw [hf]; simp
  simp [jEnds, jGoes, jHad, jTell, e]
theorem j_long (hf : jFit o k = true) (hl : h.length + d.length > 512) : jErr o h k d = 5 ∧ jEnds o h k d = false ∧ jGoes o h k d = false ∧ jHad o h k d = [] ∧ jTell o h k d = [] := by
  have e : jErr o h k d = 5 := by unfold jErr; rw [hf]; simp [hl]
  simp [jEnds, jGoes, jHad, jTell, e]
theorem j_ends (hf : jFit o k = true) (hl : ¬ h.length + d.length > 512) (hk : jLast k = true) : jErr o h k d = 0 ∧ jEnds o h k d = true ∧ jGoes o h k d = false ∧ jHad o h k d = [] ∧ jTell o h k d = h ++ d := by
  have e : jErr o h k d = 0 := by unfold jErr; rw [hf]; simp [hl]
  simp [jEnds, jGoes, jHad, jTell, e, hk]
theorem j_goes (hf : jFit o k = true) (hl : ¬ h.length + d.length > 512) (hk : jLast k = false) : jErr o h k d = 0 ∧ jEnds o h k d = false ∧ jGoes o h k d = true ∧ jHad o h k d = h ++ d ∧ jTell o h k d = [] := by
  have e : jErr o h k d = 0 := by unfold jErr; rw [hf]; simp [hl]
  simp [jEnds, jGoes, jHad, jTell, e, hk]
theorem jHad_le : (jHad o h k d).length ≤ 512 := by
  unfold jHad
  split
  · rename_i hg
    unfold jGoes jErr at hg
    simp only [Bool.and_eq_true, decide_eq_true_eq] at hg
    have h1 := hg.1
    split at h1
    · split at h1
      · omega
      · simp; omega
    · omega
  · simp
theorem jTell_le : (jTell o h k d).length ≤ 512 := by
  unfold jTell
  split
  · rename_i hg
    unfold jEnds jErr at hg
    simp only [Bool.and_eq_true, decide_eq_true_eq] at hg
    have h1 := hg.1
    split at h1
    · split at h1
      · omega
      · simp; omega
    · omega
  · simp
theorem jHad_nil (hg : jGoes o h k d = false) : jHad o h k d = [] := by unfold jHad; rw [hg]; rfl
theorem jGoes_ends (he : jEnds o h k d = true) : jGoes o h k d = false := by
  unfold jEnds at he; unfold jGoes
  simp only [Bool.and_eq_true] at he
  rw [he.2]; simp
theorem jTell_isB (h1 : isB h) (h2 : isB d) : isB (jTell o h k d) := by
  by_cases h : jEnds o h k d = true
  · unfold jTell; rw [if_pos h]; exact h1.append h2
  · unfold jTell; rw [if_neg h]; exact isB.nil
theorem jHad_isB (h1 : isB h) (h2 : isB d) : isB (jHad o h k d) := by
  by_cases h : jGoes o h k d = true
  · unfold jHad; rw [if_pos h]; exact h1.append h2
  · unfold jHad; rw [if_neg h]; exact isB.nil
theorem jErr_cases : jErr o h k d = 0 ∨ jErr o h k d = 2 ∨ jErr o h k d = 5 := by
  unfold jErr; split
  · split <;> simp
  · simp
end
/-- what a list of fragments comes to: the records behind those that are there, and the error -/
def jRun : Bool → List Int → List (List Int) → List FR → List (List Int) × Int
  | o, _, acc, [] => if o = true then ([], 1) else (acc, 0)
  | o, h, acc, f :: r => if jErr o h f.kind f.data = 0 then jRun (jGoes o h f.kind f.data) (jHad o h f.kind f.data) (if jEnds o h f.kind f.data = true then acc ++ [jTell o h f.kind f.data] else acc) r else ([], jErr o h f.kind f.data)
theorem jRun_cons (o : Bool) (h : List Int) (acc : List (List Int)) (f : FR) (r : List FR) (he : jErr o h f.kind f.data = 0) :
    jRun o h acc (f :: r) = jRun (jGoes o h f.kind f.data) (jHad o h f.kind f.data) (if jEnds o h f.kind f.data = true then acc ++ [jTell o h f.kind f.data] else acc) r := by
  show (if _ then _ else _) = _; rw [if_pos he]
theorem jRun_bad (o : Bool) (h : List Int) (acc : List (List Int)) (f : FR) (r : List FR) (he : ¬ jErr o h f.kind f.data = 0) : jRun o h acc (f :: r) = ([], jErr o h f.kind f.data) := by
  show (if _ then _ else _) = _; rw [if_neg he]
theorem jRun_isB : ∀ (l : List FR) (o : Bool) (h : List Int) (acc : List (List Int)), isB h → (∀ x ∈ acc, isB x) → (∀ f ∈ l, isB f.data) → ∀ x ∈ (jRun o h acc l).1, isB x
  | [], o, h, acc, _, ha, _ => by
    intro x hx
    unfold jRun at hx
    cases o with
    | true => simp at hx
    | false => exact ha x (by simpa using hx)
  | f :: r, o, h, acc, hh, ha, hl => by
    by_cases he : jErr o h f.kind f.data = 0
    · rw [jRun_cons _ _ _ _ _ he]
      have hf := hl f (List.mem_cons_self ..)
      refine jRun_isB r _ _ _ (jHad_isB hh hf) (fun x hx => ?_) (fun g hg => hl g (List.mem_cons_of_mem _ hg))
      split at hx
      · rcases List.mem_append.1 hx with hx | hx
        · exact ha x hx
        · obtain rfl : x = _ := by simpa using hx
          exact jTell_isB hh hf
      · exact ha x hx
    · rw [jRun_bad _ _ _ _ _ he]; intro x hx; simp at hx
end Go.Proofs.YthickhfbllddjaaDoor
/-
  LAYER 7 (span): where places lie (plain mathematics), and what the document's answers answer: the reference's Near, Where, Left, Begin. No condition.
-/
namespace Go.Proofs.YthickhfbllddjaaDoor
open Go.RowKit
/-- how much room of its block stands from a place on -/
def leftN (a : Nat) : Nat := if a = 832 then 0 else 208 - a % 208
/-- where what comes next begins -/
def beginN (a : Nat) : Nat := if 41 < a % 52 then (a / 52 + 1) * 52 else a
theorem begin_le (a : Nat) (h : a ≤ 832) : beginN a ≤ 832 := by unfold beginN; split <;> omega
theorem begin_again (a : Nat) : beginN (beginN a) = beginN a := by
  unfold beginN
  by_cases h : 41 < a % 52
  · rw [if_pos h, if_neg (by omega)]
  · rw [if_neg h, if_neg h]
theorem begin_room (a : Nat) (_h : a ≤ 832) : beginN a = 832 ∨ (11 ≤ leftN (beginN a) ∧ beginN a % 52 ≤ 41) := by
  by_cases h2 : beginN a = 832
  · exact .inl h2
  · refine .inr ?_
    by_cases h3 : 41 < a % 52
    · have e : beginN a = (a / 52 + 1) * 52 := if_pos h3
      rw [e] at h2 ⊢
      rw [leftN, if_neg h2]
      omega
    · have e : beginN a = a := if_neg h3
      rw [e] at h2 ⊢
      rw [leftN, if_neg h2]
      omega
theorem left_more (a p c : Nat) (ha : a ≤ 832) (hp : p = a + c) (hc : c ≤ leftN a) : c < leftN a ↔ (p < 832 ∧ (c = 0 ∨ p % 208 ≠ 0)) := by
  by_cases h : a = 832
  · have e : leftN a = 0 := if_pos h
    rw [e] at hc ⊢
    omega
  · have e : leftN a = 208 - a % 208 := if_neg h
    rw [e] at hc ⊢
    omega
theorem left_le (a : Nat) (ha : a ≤ 832) : a + leftN a ≤ 832 := by unfold leftN; split <;> omega
set_option maxRecDepth 8000 in
set_option maxHeartbeats 800000 in
theorem rwhere_any (n : Int) (h : I63 n) (w : World) : Calls Tryd.prog 37 #[.int .i64 n] w fun e w' => e = .returned (.tuple #[.int .i64 ((nr n / 52 : Nat) : Int), .int .i64 ((nr n % 52 : Nat) : Int)]) ∧ w' = w := by
  have hle := nr_le n
  have HN : Hid (∀ w, Calls Tryd.prog 25 #[.int .i64 n] w fun e w' => e = .returned (.int .i64 (nr n : Int)) ∧ w' = w) := fun w => near_any n h w
  generalize nr n = a at *
  go_enter Tryd.func37, Tryd.ntmps37
  go_wp2
  go_loop [4, 5, 6] (fun sv ov iv => ∃ i s o : Nat, iv = .int .i64 i ∧ sv = .int .i64 s ∧ ov = .int .i64 o ∧ i ≤ a ∧ Hid (s = i / 52 ∧ o = i % 52)) (fun _ _ iv => a - (intOf iv).toNat)
  case atStart => exact ⟨0, 0, 0, rfl, rfl, rfl, by omega, rfl, rfl⟩
  case round =>
    obtain ⟨i, s, o, rfl, rfl, rfl, hi, HSO⟩ := hrel
    by_cases hlt : (i : Int) < (a : Int)
    · have ho2 : (o : Int) ≤ 51 := by have := HSO.out; omega
      have hs2 : (s : Int) ≤ 20 := by have := HSO.out; omega
      by_cases h52 : (o : Int) + 1 = 52
      · go_wp2_with (first
          | (go_at_call 25; (with_reducible refine (HN.out _).mono ?_); rintro e w' ⟨rfl, rfl⟩))
        go_round
        case rel => exact ⟨i + 1, s + 1, 0, by go_num, by go_num, rfl, by omega, by have := HSO.out; exact ⟨by omega, by omega⟩⟩
        case measure => simp [intOf]; omega
      · go_wp2_with (first
          | (go_at_call 25; (with_reducible refine (HN.out _).mono ?_); rintro e w' ⟨rfl, rfl⟩))
        go_round
        case rel => exact ⟨i + 1, s, o + 1, by go_num, rfl, by go_num, by omega, by have := HSO.out; exact ⟨by omega, by omega⟩⟩
        case measure => simp [intOf]; omega
    · obtain rfl : i = a := by omega
      go_wp2_with (first
        | (go_at_call 25; (with_reducible refine (HN.out _).mono ?_); rintro e w' ⟨rfl, rfl⟩))
      go_ret2
      obtain ⟨hs, ho⟩ := HSO.out
      subst hs ho
      exact ⟨rfl, rfl⟩
set_option maxRecDepth 8000 in
set_option maxHeartbeats 800000 in
theorem rleft_any (n : Int) (h : I63 n) (w : World) : Calls Tryd.prog 40 #[.int .i64 n] w fun e w' => e = .returned (.int .i64 (leftN (nr n) : Int)) ∧ w' = w := by
  have hle := nr_le n
  have HN : Hid (∀ w, Calls Tryd.prog 25 #[.int .i64 n] w fun e w' => e = .returned (.int .i64 (nr n : Int)) ∧ w' = w) := fun w => near_any n h w
  generalize nr n = a at *
  go_enter Tryd.func40, Tryd.ntmps40
  go_wp2_with (first
    | (go_at_call 25; (with_reducible refine (HN.out _).mono ?_); rintro e w' ⟨rfl, rfl⟩))
  go_loop [0, 3] (fun av nv => ∃ p c : Nat, av = .int .i64 p ∧ nv = .int .i64 c ∧ p = a + c ∧ c ≤ leftN a) (fun av _ => 832 - (intOf av).toNat)
  case atStart => exact ⟨a, 0, rfl, rfl, by omega, by omega⟩
  case round =>
    obtain ⟨p, c, rfl, rfl, hp, hc⟩ := hrel
    have hl := left_le a hle
    have hm : (p : Int).tmod 208 = ((p % 208 : Nat) : Int) := by rw [Int.tmod_eq_emod_of_nonneg (by omega)]; omega
    have HL := Lib.hid (left_more a p c hle hp hc)
    obtain ⟨r, hr⟩ : ∃ r, p % 208 = r := ⟨_, rfl⟩
    rw [hr] at hm
    have HR := Lib.hid hr
    have HP := Lib.hid hp
    clear hr hp
    by_cases hlt : c < leftN a
    · obtain ⟨h1, h2⟩ := HL.out.1 hlt
      have h1' : (p : Int) < 832 := by omega
      rcases (by have := HR.out; omega : (c : Int) = 0 ∨ (¬ (c : Int) = 0 ∧ ¬ (r : Int) = 0)) with h0 | ⟨h0, hr0⟩
      · go_wp2
        go_round
        case rel => exact ⟨p + 1, c + 1, by go_num, by go_num, by have := HP.out; omega, by omega⟩
        case measure => simp [intOf]; omega
      · have hr1 : ((r : Int) != 0) = true := by simpa using hr0
        go_wp2
        go_round
        case rel => exact ⟨p + 1, c + 1, by go_num, by go_num, by have := HP.out; omega, by omega⟩
        case measure => simp [intOf]; omega
    · have hx := fun h => hlt (HL.out.2 h)
      have HC := Lib.hid (show (c : Int) = (leftN a : Int) from by omega)
      by_cases h8 : (p : Int) < 832
      · have h0 : ¬ (c : Int) = 0 := fun h => hx ⟨by omega, .inl (by omega)⟩
        have hr0 : (r : Int) = 0 := by
          by_cases h : r = 0
          · omega
          · exact absurd ⟨by omega, .inr (by rw [HR.out]; exact h)⟩ hx
        go_wp2
        go_ret
        exact ⟨ret_int HC.out, rfl⟩
      · go_wp2
        go_ret
        exact ⟨ret_int HC.out, rfl⟩
set_option maxRecDepth 8000 in
set_option maxHeartbeats 800000 in
theorem rbegin_any (n : Int) (h : I63 n) (w : World) : Calls Tryd.prog 20 #[.int .i64 n] w fun e w' => e = .returned (.int .i64 (beginN (nr n) : Int)) ∧ w' = w := by
  have hle := nr_le n
  have HN : Hid (∀ w, Calls Tryd.prog 25 #[.int .i64 n] w fun e w' => e = .returned (.int .i64 (nr n : Int)) ∧ w' = w) := fun w => near_any n h w
  have HW : Hid (∀ w, Calls Tryd.prog 37 #[.int .i64 (nr n : Int)] w fun e w' => e = .returned (.tuple #[.int .i64 ((nr n / 52 : Nat) : Int), .int .i64 ((nr n % 52 : Nat) : Int)]) ∧ w' = w) := fun w => by
    have := rwhere_any (nr n) (by unfold I63; omega) w
    rwa [nr_nat _ hle] at this
  generalize nr n = a at *
  obtain ⟨s, hs⟩ : ∃ s, a / 52 = s := ⟨_, rfl⟩
  obtain ⟨o, ho⟩ : ∃ o, a % 52 = o := ⟨_, rfl⟩
  rw [hs, ho] at HW
  have HS := Lib.hid hs
  have HO := Lib.hid ho
  clear hs ho
  go_enter Tryd.func20, Tryd.ntmps20
  go_wp2_with (first
    | (go_at_call 25; (with_reducible refine (HN.out _).mono ?_); rintro e w' ⟨rfl, rfl⟩)
    | (go_at_call 37; (with_reducible refine (HW.out _).mono ?_); rintro e w' ⟨rfl, rfl⟩))
  go_loop [0, 4] (fun av ov => ∃ p q : Nat, av = .int .i64 p ∧ ov = .int .i64 q ∧ p ≤ 832 ∧ q ≤ 52 ∧ Hid ((p = a ∧ q = o) ∨ (41 < o ∧ p = a + (q - o) ∧ o ≤ q ∧ p ≤ beginN a))) (fun av _ => 832 - (intOf av).toNat)
  case atStart => exact ⟨a, o, rfl, rfl, by omega, by have := HO.out; omega, .inl ⟨rfl, rfl⟩⟩
  case round =>
    obtain ⟨p, q, rfl, rfl, hp, hq, HR⟩ := hrel
    have HBE : Hid ((41 < o → beginN a = (s + 1) * 52) ∧ (¬ 41 < o → beginN a = a) ∧ a = s * 52 + o ∧ o < 52) := by
      have h1 := HS.out
      have h2 := HO.out
      refine ⟨fun h => ?_, fun h => ?_, by omega, by omega⟩
      · unfold beginN; rw [if_pos (by omega), h1]
      · unfold beginN; rw [if_neg (by omega)]
    by_cases h41 : 41 < (q : Int)
    · by_cases h52 : (q : Int) < 52
      · have h8 : (p : Int) < 832 := by
          obtain ⟨e1, e2, e3, e4⟩ := HBE.out
          have := begin_le a hle
          rcases HR.out with ⟨rfl, rfl⟩ | ⟨g1, g2, g3, g4⟩
          · have := e1 (by omega); omega
          · have := e1 g1; omega
        go_wp2
        go_round
        case rel =>
          refine ⟨p + 1, q + 1, by go_num, by go_num, by omega, by omega, .inr ?_⟩
          obtain ⟨e1, e2, e3, e4⟩ := HBE.out
          rcases HR.out with ⟨rfl, rfl⟩ | ⟨g1, g2, g3, g4⟩
          · have := e1 (by omega); omega
          · have := e1 g1; omega
        case measure => simp [intOf]; omega
      · have HD := Lib.hid (show (p : Int) = (beginN a : Int) from by
          obtain ⟨e1, e2, e3, e4⟩ := HBE.out
          rcases HR.out with ⟨rfl, rfl⟩ | ⟨g1, g2, g3, g4⟩
          · omega
          · have := e1 g1; omega)
        by_cases h8 : (p : Int) < 832
        · go_wp2
          go_ret
          exact ⟨ret_int HD.out, rfl⟩
        · go_wp2
          go_ret
          exact ⟨ret_int HD.out, rfl⟩
    · have HD := Lib.hid (show (p : Int) = (beginN a : Int) from by
        obtain ⟨e1, e2, e3, e4⟩ := HBE.out
        rcases HR.out with ⟨rfl, rfl⟩ | ⟨g1, g2, g3, g4⟩
        · have := e2 (by omega); omega
        · omega)
      by_cases h8 : (p : Int) < 832
      · go_wp2
        go_ret
        exact ⟨ret_int HD.out, rfl⟩
      · go_wp2
        go_ret
        exact ⟨ret_int HD.out, rfl⟩
end Go.Proofs.YthickhfbllddjaaDoor
/-
  LAYER 19 (scan): what a body's bytes and stamps have, step by step (scF: the fragment at a place; scNext: a step; scEnd: where it ends), and what of sectors is empty (restB). Plain mathematics. No condition.
-/
namespace Go.Proofs.YthickhfbllddjaaDoor
/-- a block's bytes from a place on -/
def bSl (B : List Int) (a : Nat) : List Int := (B.drop a).take (leftN a)
theorem bSl_length {B : List Int} (hB : B.length = 832) {a : Nat} (ha : a ≤ 832) : (bSl B a).length = leftN a := by
  have := left_le a ha
  unfold bSl; rw [List.length_take, List.length_drop]; omega
def scD (ep : Int) (B : List Int) (a : Nat) : FR × Nat × Int := fragD (bSl B a) ep
/-- the fragment at a place, and how many bytes it has; 0: none -/
def scF (ep : Int) (B : List Int) (K : List Bool) (a : Nat) : FR × Nat :=
  if a = 832 ∨ covAt K (a : Int) ((a + 11 : Nat) : Int) = false then (noF, 0) else
  if (scD ep B a).2.2 ≠ 0 ∨ covAt K (a : Int) ((a + (scD ep B a).2.1 : Nat) : Int) = false then (noF, 0) else ((scD ep B a).1, (scD ep B a).2.1)
section
variable {ep : Int} {B : List Int} {K : List Bool} {a : Nat}
theorem scF_far (h : a = 832) : scF ep B K a = (noF, 0) := by unfold scF; rw [if_pos (.inl h)]
theorem scF_head (h : covAt K (a : Int) ((a + 11 : Nat) : Int) = false) : scF ep B K a = (noF, 0) := by unfold scF; rw [if_pos (.inr h)]
theorem scF_err (h : (scD ep B a).2.2 ≠ 0) : scF ep B K a = (noF, 0) := by
  unfold scF
  split
  · rfl
  · rw [if_pos (.inl h)]
theorem scF_cov (h : covAt K (a : Int) ((a + (scD ep B a).2.1 : Nat) : Int) = false) : scF ep B K a = (noF, 0) := by
  unfold scF
  split
  · rfl
  · rw [if_pos (.inr h)]
theorem scF_yes (h1 : a ≠ 832) (h2 : covAt K (a : Int) ((a + 11 : Nat) : Int) = true) (h3 : (scD ep B a).2.2 = 0) (h4 : covAt K (a : Int) ((a + (scD ep B a).2.1 : Nat) : Int) = true) :
    scF ep B K a = ((scD ep B a).1, (scD ep B a).2.1) := by
  unfold scF
  rw [if_neg (by rw [h2]; simp [h1]), if_neg (by rw [h4]; simp [h3])]
/-- what a fragment that is told has -/
theorem scD_parts (hB : B.length = 832) (ha : a ≤ 832) (h : (scD ep B a).2.2 = 0) :
    11 ≤ (scD ep B a).2.1 ∧ (scD ep B a).2.1 ≤ leftN a ∧ a + (scD ep B a).2.1 ≤ 832 ∧ (scD ep B a).1.data.length + 11 = (scD ep B a).2.1 ∧ (scD ep B a).1.data.length ≤ 197 := by
  have hl := bSl_length hB ha
  have hle := left_le a ha
  unfold scD at h ⊢
  obtain ⟨h1, h2, h3, h4, h5⟩ := fragD_parts h
  have h6 : ¬ (bSl B a).take 11 = List.replicate 11 0 := fun e => by
    rw [fragD_none (by omega) e] at h; exact absurd h (by decide)
  rw [fragD_ok (by omega) h6 h2 h3 (by omega) h5]
  have h7 := (fok_parts h2).2.2
  simp only [List.length_take, List.length_drop]
  omega
theorem scD_isB (hb : isB B) : isB (scD ep B a).1.data := fragD_data ((hb.drop _).take _)
end
/-- how far one is -/
structure SS where
  at_ : Nat
  first : Nat
  o : Bool
  h : List Int
  recs : List (List Int)
  places : List Int
  fin : Nat
def sc0 : SS := ⟨0, 0, false, [], [], [], 0⟩
/-- the place of the record that is begun -/
def scFirst (s : SS) : Nat := if s.o = true then s.first else beginN s.at_
/-- behind a fragment that the joiner takes -/
def scStep (s : SS) (f : FR) (n : Nat) : SS :=
  { at_ := beginN s.at_ + n, first := scFirst s, o := jGoes s.o s.h f.kind f.data, h := jHad s.o s.h f.kind f.data
    recs := if jEnds s.o s.h f.kind f.data = true then s.recs ++ [jTell s.o s.h f.kind f.data] else s.recs
    places := if jEnds s.o s.h f.kind f.data = true then s.places ++ [((scFirst s : Nat) : Int)] else s.places
    fin := if jEnds s.o s.h f.kind f.data = true then beginN s.at_ + n else s.fin }
def scNext (ep : Int) (B : List Int) (K : List Bool) (s : SS) : Option SS :=
  if (scF ep B K (beginN s.at_)).2 = 0 ∨ jErr s.o s.h (scF ep B K (beginN s.at_)).1.kind (scF ep B K (beginN s.at_)).1.data ≠ 0 then none
  else some (scStep s (scF ep B K (beginN s.at_)).1 (scF ep B K (beginN s.at_)).2)
def scGo (ep : Int) (B : List Int) (K : List Bool) : Nat → SS → SS
  | 0, s => s
  | k + 1, s => match scNext ep B K s with
    | none => s
    | some t => scGo ep B K k t
def scEnd (ep : Int) (B : List Int) (K : List Bool) : SS := scGo ep B K 832 sc0
/-- what stays so at each step -/
structure SS.Ok (s : SS) : Prop where
  at_ : s.at_ ≤ 832
  fin : s.fin ≤ 832
  first : s.first ≤ 832
  few : s.recs.length = s.places.length
  room : 11 * s.recs.length ≤ s.at_
  h : s.h.length ≤ 512
  recs : ∀ r ∈ s.recs, r.length ≤ 512
theorem sc0_ok : sc0.Ok := ⟨by decide, by decide, by decide, rfl, by decide, by decide, fun r hr => by simp [sc0] at hr⟩
section
variable {ep : Int} {B : List Int} {K : List Bool} {s t : SS}
theorem scF_some {a : Nat} (h : (scF ep B K a).2 ≠ 0) :
    a ≠ 832 ∧ covAt K (a : Int) ((a + 11 : Nat) : Int) = true ∧ (scD ep B a).2.2 = 0 ∧ covAt K (a : Int) ((a + (scD ep B a).2.1 : Nat) : Int) = true ∧ scF ep B K a = ((scD ep B a).1, (scD ep B a).2.1) := by
  by_cases h1 : a = 832
  · rw [scF_far h1] at h; exact absurd rfl h
  cases h2 : covAt K (a : Int) ((a + 11 : Nat) : Int) with
  | false => rw [scF_head h2] at h; exact absurd rfl h
  | true =>
    by_cases h3 : (scD ep B a).2.2 = 0
    · cases h4 : covAt K (a : Int) ((a + (scD ep B a).2.1 : Nat) : Int) with
      | false => rw [scF_cov h4] at h; exact absurd rfl h
      | true => exact ⟨h1, rfl, h3, rfl, scF_yes h1 h2 h3 h4⟩
    · rw [scF_err h3] at h; exact absurd rfl h
theorem scF_none {a : Nat} (h : (scF ep B K a).2 = 0) (hB : B.length = 832) (ha : a ≤ 832) : scF ep B K a = (noF, 0) := by
  by_cases h1 : a = 832
  · exact scF_far h1
  cases h2 : covAt K (a : Int) ((a + 11 : Nat) : Int) with
  | false => exact scF_head h2
  | true =>
    by_cases h3 : (scD ep B a).2.2 = 0
    · cases h4 : covAt K (a : Int) ((a + (scD ep B a).2.1 : Nat) : Int) with
      | false => exact scF_cov h4
      | true =>
        rw [scF_yes h1 h2 h3 h4] at h
        have := (scD_parts hB ha h3).1
        simp only at h
        omega
    · exact scF_err h3
theorem scNext_none (h : (scF ep B K (beginN s.at_)).2 = 0 ∨ jErr s.o s.h (scF ep B K (beginN s.at_)).1.kind (scF ep B K (beginN s.at_)).1.data ≠ 0) : scNext ep B K s = none := if_pos h
theorem scNext_some (h1 : (scF ep B K (beginN s.at_)).2 ≠ 0) (h2 : jErr s.o s.h (scF ep B K (beginN s.at_)).1.kind (scF ep B K (beginN s.at_)).1.data = 0) :
    scNext ep B K s = some (scStep s (scF ep B K (beginN s.at_)).1 (scF ep B K (beginN s.at_)).2) := if_neg (by rintro (h | h); exact h1 h; exact h h2)
/-- a step goes on, and keeps what is kept -/
theorem scStep_ok (hs : s.Ok) (f : FR) (n : Nat) (h11 : 11 ≤ n) (hn : beginN s.at_ + n ≤ 832) : (scStep s f n).Ok ∧ s.at_ + 11 ≤ (scStep s f n).at_ := by
  have hb : s.at_ ≤ beginN s.at_ := by unfold beginN; split <;> omega
  have hf : scFirst s ≤ 832 := by
    unfold scFirst
    split
    · exact hs.first
    · omega
  have hr := hs.room
  have hw := hs.few
  cases he : jEnds s.o s.h f.kind f.data with
  | true =>
    have e : scStep s f n = ⟨beginN s.at_ + n, scFirst s, jGoes s.o s.h f.kind f.data, jHad s.o s.h f.kind f.data, s.recs ++ [jTell s.o s.h f.kind f.data], s.places ++ [((scFirst s : Nat) : Int)], beginN s.at_ + n⟩ := by
      unfold scStep; rw [he]; rfl
    rw [e]
    refine ⟨⟨hn, hn, hf, by simp [hw], by simp; omega, jHad_le, fun r hr => ?_⟩, by show s.at_ + 11 ≤ beginN s.at_ + n; omega⟩
    rcases List.mem_append.1 hr with h | h
    · exact hs.recs r h
    · obtain rfl : r = _ := by simpa using h
      exact jTell_le
  | false =>
    have e : scStep s f n = ⟨beginN s.at_ + n, scFirst s, jGoes s.o s.h f.kind f.data, jHad s.o s.h f.kind f.data, s.recs, s.places, s.fin⟩ := by
      unfold scStep; rw [he]; rfl
    rw [e]
    exact ⟨⟨hn, hs.fin, hf, hw, by show 11 * s.recs.length ≤ beginN s.at_ + n; omega, jHad_le, hs.recs⟩, by show s.at_ + 11 ≤ beginN s.at_ + n; omega⟩
theorem scNext_ok (hB : B.length = 832) (hs : s.Ok) (h : scNext ep B K s = some t) : t.Ok ∧ s.at_ + 11 ≤ t.at_ := by
  have ha := begin_le s.at_ hs.at_
  by_cases h1 : (scF ep B K (beginN s.at_)).2 = 0 ∨ jErr s.o s.h (scF ep B K (beginN s.at_)).1.kind (scF ep B K (beginN s.at_)).1.data ≠ 0
  · rw [scNext_none h1] at h; cases h
  · have h2 : (scF ep B K (beginN s.at_)).2 ≠ 0 := fun e => h1 (.inl e)
    obtain ⟨_, _, h3, _, h5⟩ := scF_some h2
    have hp := scD_parts hB ha h3
    rw [scNext_some h2 (by by_cases e : jErr s.o s.h (scF ep B K (beginN s.at_)).1.kind (scF ep B K (beginN s.at_)).1.data = 0; exact e; exact absurd (.inr e) h1)] at h
    obtain rfl := Option.some.inj h
    rw [h5]
    exact scStep_ok hs _ _ hp.1 hp.2.2.1
/-- where one is, on the way to the end -/
def OnWay (ep : Int) (B : List Int) (K : List Bool) (s : SS) : Prop := s.Ok ∧ ∃ k, 832 ≤ k + s.at_ ∧ scGo ep B K k s = scEnd ep B K
theorem onway_0 : OnWay ep B K sc0 := ⟨sc0_ok, 832, by omega, rfl⟩
theorem OnWay.next (hB : B.length = 832) (h : OnWay ep B K s) (hn : scNext ep B K s = some t) : OnWay ep B K t := by
  obtain ⟨hs, k, hk, hg⟩ := h
  obtain ⟨ht, hat⟩ := scNext_ok hB hs hn
  have := ht.at_
  obtain ⟨q, rfl⟩ : ∃ q, k = q + 1 := ⟨k - 1, by omega⟩
  refine ⟨ht, q, by omega, ?_⟩
  rw [← hg]
  simp only [scGo, hn]
theorem OnWay.stop (h : OnWay ep B K s) (hn : scNext ep B K s = none) : s = scEnd ep B K := by
  obtain ⟨hs, k, hk, hg⟩ := h
  rw [← hg]
  cases k with
  | zero => rfl
  | succ k => simp only [scGo, hn]
end
/-! what behind an end is empty -/
/-- one byte of sectors: either 0, or ahead of the end -/
def restAt (fs : List Int) (e i k : Nat) : Bool := decide (fs.getD (i * 64 + k) 0 = 0) || !(decide (e ≤ 52 * i) || (decide (12 ≤ k) && decide (e + 12 ≤ 52 * i + k)))
def restS (fs : List Int) (e i : Nat) : Bool := (List.range 64).all fun k => restAt fs e i k
def restB (n : Nat) (fs : List Int) (e : Nat) : Bool := (List.range (min n 16)).all fun i => restS fs e i
theorem restB_no {n : Nat} {fs : List Int} {e i : Nat} (hi : i < n) (h16 : i < 16) (h : restS fs e i = false) : restB n fs e = false := by
  rw [Bool.eq_false_iff]
  intro hh
  have := List.all_eq_true.1 hh i (List.mem_range.2 (by omega))
  rw [h] at this; cases this
theorem restS_no {fs : List Int} {e i k : Nat} (hk : k < 64) (h : restAt fs e i k = false) : restS fs e i = false := by
  rw [Bool.eq_false_iff]
  intro hh
  have := List.all_eq_true.1 hh k (List.mem_range.2 hk)
  rw [h] at this; cases this
theorem restB_yes {n : Nat} {fs : List Int} {e : Nat} (h : ∀ i, i < n → i < 16 → restS fs e i = true) : restB n fs e = true :=
  List.all_eq_true.2 fun i hi => h i (by have := List.mem_range.1 hi; omega) (by have := List.mem_range.1 hi; omega)
theorem restS_yes {fs : List Int} {e i : Nat} (h : ∀ k, k < 64 → restAt fs e i k = true) : restS fs e i = true :=
  List.all_eq_true.2 fun k hk => h k (List.mem_range.1 hk)
/-- a sector that lies wholly ahead of the end -/
theorem restS_ahead {fs : List Int} {e i : Nat} (h : i < e / 52) : restS fs e i = true := restS_yes fun k hk => by
  unfold restAt
  have h1 : ¬ e ≤ 52 * i := by omega
  have h2 : ¬ e + 12 ≤ 52 * i + k := by omega
  simp [h1, h2]
/-- a sector whose first bytes are made 0 -/
def cleared (l : List Int) (m : Nat) : List Int := splice l 0 (List.replicate m 0)
theorem cleared_get (l : List Int) (m k : Nat) : (cleared l m).getD k 0 = if k < m then 0 else l.getD k 0 := by
  unfold cleared splice
  simp only [List.take_zero, List.nil_append, List.length_replicate, Nat.zero_add]
  by_cases h : k < m
  · rw [if_pos h]
    simp [List.getD, List.getElem?_append, h]
  · rw [if_neg h]
    simp [List.getD, List.getElem?_append, h, show m + (k - m) = k by omega]
theorem cleared_length (l : List Int) (hl : l.length = 64) (m : Nat) (hm : m ≤ 64) : (cleared l m).length = 64 := by
  unfold cleared splice; simp; omega
theorem z64_iff (l : List Int) (hl : l.length = 64) : l = List.replicate 64 0 ↔ ∀ k, k < 64 → l.getD k 0 = 0 := by
  constructor
  · rintro rfl k _
    exact getD_replicate 64 k
  · intro h
    refine List.ext_getElem (by simp [hl]) fun k h1 h2 => ?_
    have := h k (by omega)
    rw [List.getElem_replicate]
    simpa [List.getD, h1] using this
theorem sec_byte (fs : List Int) (i k : Nat) (hk : k < 64) : (secOf fs i).getD k 0 = fs.getD (i * 64 + k) 0 := by
  unfold secOf
  simp only [List.getD, List.getElem?_take, hk, if_true, List.getElem?_drop]
/-- the sector in which the end lies -/
theorem restS_mid {fs : List Int} {n e i : Nat} (hl : fs.length = n * 64) (hi : i < n) (h : i = e / 52) (h0 : 0 < e % 52) : restS fs e i = decide (cleared (secOf fs i) (12 + e % 52) = List.replicate 64 0) := by
  have h64 := secOf_length fs n i hl hi
  have hm : 12 + e % 52 ≤ 64 := by omega
  rw [Bool.eq_iff_iff, decide_eq_true_eq, z64_iff _ (cleared_length _ h64 _ hm)]
  constructor
  · intro hh k hk
    have := List.all_eq_true.1 hh k (List.mem_range.2 hk)
    rw [cleared_get]
    split
    · rfl
    · rw [sec_byte fs i k hk]
      unfold restAt at this
      have h2 : 12 ≤ k := by omega
      have h3 : e + 12 ≤ 52 * i + k := by omega
      simpa [h2, h3] using this
  · intro hh
    refine restS_yes fun k hk => ?_
    have := hh k hk
    rw [cleared_get] at this
    unfold restAt
    by_cases hq : k < 12 + e % 52
    · have h1 : ¬ e ≤ 52 * i := by omega
      have h3 : ¬ e + 12 ≤ 52 * i + k := by omega
      simp [h1, h3]
    · rw [if_neg hq, sec_byte fs i k hk] at this
      simp only [this, decide_true, Bool.true_or]
/-- a sector behind the end -/
theorem restS_behind {fs : List Int} {n e i : Nat} (hl : fs.length = n * 64) (hi : i < n) (h : e ≤ 52 * i) : restS fs e i = decide (secOf fs i = List.replicate 64 0) := by
  have h64 := secOf_length fs n i hl hi
  rw [Bool.eq_iff_iff, decide_eq_true_eq, z64_iff _ h64]
  constructor
  · intro hh k hk
    have := List.all_eq_true.1 hh k (List.mem_range.2 hk)
    rw [sec_byte fs i k hk]
    unfold restAt at this
    simpa [h] using this
  · intro hh
    refine restS_yes fun k hk => ?_
    have := hh k hk
    rw [sec_byte fs i k hk] at this
    unfold restAt
    simp only [this, decide_true, Bool.true_or]
/-- what Scan tells of how it ends -/
def scKind (n : Nat) (fs : List Int) (e : Nat) : Int := if restB n fs e = true then 1 else 2
end Go.Proofs.YthickhfbllddjaaDoor
