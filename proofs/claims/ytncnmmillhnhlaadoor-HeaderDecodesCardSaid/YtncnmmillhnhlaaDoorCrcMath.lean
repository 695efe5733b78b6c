/-
  PLAIN MATHEMATICS of layer 3 (crc): one step, many steps, the register behind bytes; it is linear; nothing is lost by a step; sums of joined texts; bursts; a table of half a byte's steps; a linear map by the images of 32 bits. Nothing here speaks of the program. No condition.
-/
import Derived.Test.YtncnmmillhnhlaaDoorBase
namespace Go.Proofs.YtncnmmillhnhlaaDoor

/-- one step -/
def st (x : Nat) : Nat := if x % 2 = 1 then x / 2 ^^^ 2197175160 else x / 2
/-- n steps -/
def stn : Nat → Nat → Nat
  | 0, x => x
  | n + 1, x => stn n (st x)
theorem st_lt (x : Nat) (h : x < 4294967296) : st x < 4294967296 := by
  unfold st
  split
  · exact Nat.xor_lt_two_pow (n := 32) (by omega) (by omega)
  · omega
theorem stn_lt (n x : Nat) (h : x < 4294967296) : stn n x < 4294967296 := by
  induction n generalizing x with
  | zero => exact h
  | succ n ih => exact ih _ (st_lt x h)
theorem xor_lt (x y : Nat) (h : x < 4294967296) (k : y < 4294967296) : x ^^^ y < 4294967296 := Nat.xor_lt_two_pow (n := 32) h k
theorem xor_right_comm (a b c : Nat) : a ^^^ b ^^^ c = a ^^^ c ^^^ b := by rw [Nat.xor_assoc, Nat.xor_comm b, ← Nat.xor_assoc]
theorem xor_swap4 (a b c d : Nat) : a ^^^ b ^^^ (c ^^^ d) = a ^^^ c ^^^ (b ^^^ d) := by
  rw [← Nat.xor_assoc, ← Nat.xor_assoc, xor_right_comm a b c]
theorem xor_cancel (a b : Nat) : a ^^^ b ^^^ b = a := by rw [Nat.xor_assoc, Nat.xor_self, Nat.xor_zero]
theorem xor_zero_eq (a b : Nat) (h : a ^^^ b = 0) : a = b := by
  have := xor_cancel a b
  rw [h, Nat.zero_xor] at this
  exact this.symm
theorem st_xor (x y : Nat) : st (x ^^^ y) = st x ^^^ st y := by
  have hm : (x ^^^ y) % 2 = (x % 2 + y % 2) % 2 := by
    rw [show (x ^^^ y) % 2 = (x % 2) ^^^ (y % 2) from Nat.xor_mod_two_pow (n := 1)]
    rcases Nat.mod_two_eq_zero_or_one x with hx | hx <;> rcases Nat.mod_two_eq_zero_or_one y with hy | hy <;> rw [hx, hy] <;> rfl
  unfold st
  rw [Nat.xor_div_two]
  rcases Nat.mod_two_eq_zero_or_one x with hx | hx <;> rcases Nat.mod_two_eq_zero_or_one y with hy | hy
  · rw [if_neg (by omega), if_neg (by omega), if_neg (by omega)]
  · rw [if_pos (by omega), if_neg (by omega), if_pos (by omega), Nat.xor_assoc]
  · rw [if_pos (by omega), if_pos (by omega), if_neg (by omega), xor_right_comm]
  · rw [if_neg (by omega), if_pos (by omega), if_pos (by omega), xor_swap4, Nat.xor_self, Nat.xor_zero]
theorem stn_xor (n x y : Nat) : stn n (x ^^^ y) = stn n x ^^^ stn n y := by
  induction n generalizing x y with
  | zero => rfl
  | succ n ih => simp only [stn]; rw [st_xor, ih]
theorem stn_zero (n : Nat) : stn n 0 = 0 := by
  induction n with
  | zero => rfl
  | succ n ih => exact ih
theorem stn_add (m n x : Nat) : stn (m + n) x = stn n (stn m x) := by
  induction m generalizing x with
  | zero => rw [Nat.zero_add]; rfl
  | succ m ih => rw [show m + 1 + n = (m + n) + 1 from by omega]; exact ih (st x)
theorem stn_succ (n x : Nat) : stn (n + 1) x = st (stn n x) := by rw [stn_add]; rfl
theorem st_zero (z : Nat) (h : z < 4294967296) (hz : st z = 0) : z = 0 := by
  unfold st at hz
  split at hz
  · have := xor_zero_eq _ _ hz; omega
  · omega
/-- nothing is lost -/
theorem stn_inj0 (n z : Nat) (h : z < 4294967296) (hz : stn n z = 0) : z = 0 := by
  induction n generalizing z with
  | zero => exact hz
  | succ n ih => exact st_zero z h (ih _ (st_lt z h) hz)
theorem stn_inj (n x y : Nat) (h : x < 4294967296) (k : y < 4294967296) (e : stn n x = stn n y) : x = y := by
  have h1 : stn n (x ^^^ y) = 0 := by rw [stn_xor, e, Nat.xor_self]
  exact xor_zero_eq _ _ (stn_inj0 n _ (xor_lt x y h k) h1)
theorem st_even (y : Nat) : st (2 * y) = y := by unfold st; rw [if_neg (by omega)]; omega
theorem stn_up (n y : Nat) : stn n (2 ^ n * y) = y := by
  induction n generalizing y with
  | zero => simp [stn]
  | succ n ih => rw [stn, Nat.pow_succ, Nat.mul_comm (2 ^ n) 2, Nat.mul_assoc, st_even]; exact ih y

/-- what is above and what is below share no bit -/
theorem up_xor (n a b : Nat) (h : b < 2 ^ n) : 2 ^ n * a + b = b ^^^ 2 ^ n * a := by
  refine Nat.eq_of_testBit_eq fun j => ?_
  rw [Nat.testBit_two_pow_mul_add a h, Nat.testBit_xor, Nat.testBit_two_pow_mul]
  by_cases hj : j < n
  · simp [hj, Nat.not_le.2 hj]
  · have h1 : b.testBit j = false := Nat.testBit_lt_two_pow (Nat.lt_of_lt_of_le h (Nat.pow_le_pow_right (by omega) (by omega)))
    simp [hj, Nat.not_lt.1 hj, h1]
/-- all bits of 32 turned -/
theorem not32 (s : Nat) (h : s < 4294967296) : 4294967295 - s = s ^^^ 4294967295 := by
  refine Nat.eq_of_testBit_eq fun j => ?_
  have h1 := Nat.testBit_two_pow_sub_succ (x := s) (n := 32) h j
  rw [show (2 : Nat) ^ 32 - (s + 1) = 4294967295 - s from by omega] at h1
  rw [h1, Nat.testBit_xor, show (4294967295 : Nat) = 2 ^ 32 - 1 from rfl, Nat.testBit_two_pow_sub_one]
  by_cases hj : j < 32
  · simp [hj]
  · have h2 : s.testBit j = false := Nat.testBit_lt_two_pow (Nat.lt_of_lt_of_le (show s < 2 ^ 32 from h) (Nat.pow_le_pow_right (by omega) (by omega)))
    simp [hj, h2]
/-- the table of half a byte -/
theorem half_step (x : Nat) : stn 4 x = x / 16 ^^^ stn 4 (x % 16) := by
  have e : x = x % 16 ^^^ 2 ^ 4 * (x / 16) := by rw [← up_xor 4 (x / 16) (x % 16) (by omega)]; omega
  have h : stn 4 x = stn 4 (x % 16 ^^^ 2 ^ 4 * (x / 16)) := by rw [← e]
  rw [h, stn_xor, stn_up, Nat.xor_comm]
theorem byte_step (x : Nat) : stn 8 x = x / 256 ^^^ stn 8 (x % 256) := by
  have e : x = x % 256 ^^^ 2 ^ 8 * (x / 256) := by rw [← up_xor 8 (x / 256) (x % 256) (by omega)]; omega
  have h : stn 8 x = stn 8 (x % 256 ^^^ 2 ^ 8 * (x / 256)) := by rw [← e]
  rw [h, stn_xor, stn_up, Nat.xor_comm]

/-- the register behind bytes -/
def reg : Nat → List Int → Nat
  | r, [] => r
  | r, c :: l => reg (stn 8 (r ^^^ c.toNat)) l
theorem reg_nil (r : Nat) : reg r [] = r := rfl
theorem reg_cons (r : Nat) (c : Int) (l : List Int) : reg r (c :: l) = reg (stn 8 (r ^^^ c.toNat)) l := rfl
theorem reg_append (r : Nat) (a b : List Int) : reg r (a ++ b) = reg (reg r a) b := by
  induction a generalizing r with
  | nil => rfl
  | cons c a ih => exact ih _
theorem reg_lt (l : List Int) (hb : ∀ x ∈ l, 0 ≤ x ∧ x ≤ 255) (r : Nat) (h : r < 4294967296) : reg r l < 4294967296 := by
  induction l generalizing r with
  | nil => exact h
  | cons c l ih =>
    have hc := hb c (by simp)
    show reg (stn 8 (r ^^^ c.toNat)) l < 4294967296
    exact ih (fun x hx => hb x (List.mem_cons_of_mem _ hx)) (stn 8 (r ^^^ c.toNat)) (stn_lt 8 (r ^^^ c.toNat) (xor_lt r c.toNat h (by omega)))
theorem reg_xor (l : List Int) (r s : Nat) : reg (r ^^^ s) l = reg r l ^^^ stn (8 * l.length) s := by
  induction l generalizing r s with
  | nil => rfl
  | cons c l ih =>
    rw [reg_cons, reg_cons, List.length_cons]
    rw [xor_right_comm, stn_xor, ih, show 8 * (l.length + 1) = 8 + 8 * l.length from by omega, stn_add]
theorem reg_inj (l : List Int) (x y : Nat) (h : x < 4294967296) (k : y < 4294967296) (e : reg x l = reg y l) : x = y := by
  have h1 : reg y l = reg x l ^^^ stn (8 * l.length) (x ^^^ y) := by rw [← reg_xor, ← Nat.xor_assoc, Nat.xor_self, Nat.zero_xor]
  rw [← e] at h1
  have h2 : stn (8 * l.length) (x ^^^ y) = 0 := by
    have h3 : reg x l ^^^ reg x l = reg x l ^^^ (reg x l ^^^ stn (8 * l.length) (x ^^^ y)) := congrArg (reg x l ^^^ ·) h1
    rw [Nat.xor_self, ← Nat.xor_assoc, Nat.xor_self, Nat.zero_xor] at h3
    exact h3.symm
  exact xor_zero_eq _ _ (stn_inj0 _ _ (xor_lt x y h k) h2)
/-- the sum, and more of it -/
def moreS (s : Nat) (l : List Int) : Nat := 4294967295 - reg (4294967295 - s) l
def ofS (l : List Int) : Nat := moreS 0 l
theorem moreS_lt (s : Nat) (l : List Int) : moreS s l < 4294967296 := by unfold moreS; omega
theorem ofS_lt (l : List Int) : ofS l < 4294967296 := moreS_lt 0 l
theorem ofS_xor (l : List Int) (hb : ∀ x ∈ l, 0 ≤ x ∧ x ≤ 255) : ofS l = reg 4294967295 l ^^^ 4294967295 := by
  unfold ofS moreS; exact not32 _ (reg_lt l hb _ (by omega))
theorem ofS_join (a b : List Int) (ha : ∀ x ∈ a, 0 ≤ x ∧ x ≤ 255) (hb : ∀ x ∈ b, 0 ≤ x ∧ x ≤ 255) : ofS (a ++ b) = stn (8 * b.length) (ofS a) ^^^ ofS b := by
  have hab : ∀ x ∈ a ++ b, 0 ≤ x ∧ x ≤ 255 := fun x hx => (List.mem_append.1 hx).elim (ha x) (hb x)
  have e : reg 4294967295 a = 4294967295 ^^^ ofS a := by rw [ofS_xor a ha, Nat.xor_comm (reg _ _), ← Nat.xor_assoc, Nat.xor_self, Nat.zero_xor]
  rw [ofS_xor _ hab, reg_append, e, reg_xor, ofS_xor b hb, xor_right_comm, Nat.xor_comm (stn _ _)]
/-- bytes as one number, the lowest first -/
def numB : List Int → Nat
  | [] => 0
  | c :: l => c.toNat + 256 * numB l
theorem numB_lt (l : List Int) (hb : ∀ x ∈ l, 0 ≤ x ∧ x ≤ 255) : numB l < 256 ^ l.length := by
  induction l with
  | nil => simp [numB]
  | cons c l ih =>
    have hc := hb c (by simp)
    have h1 := ih fun x hx => hb x (List.mem_cons_of_mem _ hx)
    simp only [numB, List.length_cons, Nat.pow_succ]
    omega
theorem numB_inj (a b : List Int) (ha : ∀ x ∈ a, 0 ≤ x ∧ x ≤ 255) (hb : ∀ x ∈ b, 0 ≤ x ∧ x ≤ 255) (hl : a.length = b.length) (e : numB a = numB b) : a = b := by
  induction a generalizing b with
  | nil => cases b with
    | nil => rfl
    | cons _ _ => simp at hl
  | cons c a ih => cases b with
    | nil => simp at hl
    | cons d b =>
      have hc := ha c (by simp)
      have hd := hb d (by simp)
      simp only [numB] at e
      rw [show c = d from by omega, ih b (fun x hx => ha x (List.mem_cons_of_mem _ hx)) (fun x hx => hb x (List.mem_cons_of_mem _ hx)) (by simpa using hl) (by omega)]
theorem reg_num (l : List Int) (hb : ∀ x ∈ l, 0 ≤ x ∧ x ≤ 255) (r : Nat) : reg r l = stn (8 * l.length) (r ^^^ numB l) := by
  induction l generalizing r with
  | nil =>
    show r = stn 0 (r ^^^ 0)
    rw [Nat.xor_zero]; rfl
  | cons c l ih =>
    have hc := hb c (by simp)
    have e : numB (c :: l) = c.toNat ^^^ 2 ^ 8 * numB l := by rw [← up_xor 8 _ _ (by omega)]; simp only [numB]; omega
    rw [reg_cons, List.length_cons]
    rw [ih (fun x hx => hb x (List.mem_cons_of_mem _ hx)), e, ← Nat.xor_assoc, show 8 * (l.length + 1) = 8 + 8 * l.length from by omega, stn_add, stn_xor 8 (r ^^^ c.toNat), stn_up]
/-- a burst of at most four bytes is seen -/
theorem burst (p w v s : List Int) (hp : ∀ x ∈ p, 0 ≤ x ∧ x ≤ 255) (hw : ∀ x ∈ w, 0 ≤ x ∧ x ≤ 255) (hv : ∀ x ∈ v, 0 ≤ x ∧ x ≤ 255) (hs : ∀ x ∈ s, 0 ≤ x ∧ x ≤ 255)
    (hl : w.length = v.length) (h4 : w.length ≤ 4) (e : ofS (p ++ (w ++ s)) = ofS (p ++ (v ++ s))) : w = v := by
  have h1 : ∀ l : List Int, (∀ x ∈ l, 0 ≤ x ∧ x ≤ 255) → (∀ x ∈ p ++ (l ++ s), 0 ≤ x ∧ x ≤ 255) := fun l hl x hx => by
    rcases List.mem_append.1 hx with h | h
    · exact hp x h
    · exact (List.mem_append.1 h).elim (hl x) (hs x)
  rw [ofS_xor _ (h1 w hw), ofS_xor _ (h1 v hv)] at e
  have e2 : reg 4294967295 (p ++ (w ++ s)) = reg 4294967295 (p ++ (v ++ s)) := by
    have := congrArg (· ^^^ 4294967295) e
    simpa [xor_cancel] using this
  rw [reg_append, reg_append, reg_append, reg_append] at e2
  have hr := reg_lt p hp 4294967295 (by omega)
  have e3 := reg_inj s _ _ (reg_lt w hw _ hr) (reg_lt v hv _ hr) e2
  rw [reg_num w hw, reg_num v hv, hl] at e3
  have hb : ∀ l : List Int, (∀ x ∈ l, 0 ≤ x ∧ x ≤ 255) → l.length ≤ 4 → numB l < 4294967296 := fun l hl h4 =>
    Nat.lt_of_lt_of_le (numB_lt l hl) (Nat.le_trans (Nat.pow_le_pow_right (by omega) h4) (by decide))
  have e4 := stn_inj _ _ _ (xor_lt _ _ hr (hb w hw h4)) (xor_lt _ _ hr (hb v hv (by omega))) e3
  refine numB_inj w v hw hv hl ?_
  have := congrArg (reg 4294967295 p ^^^ ·) e4
  simpa [← Nat.xor_assoc] using this

/-- masked -/
def maskS (s : Nat) : Nat := (s / 32768 + s % 32768 * 131072 + 2726488792) % 4294967296
def unmaskS (m : Nat) : Nat := ((m + 4294967296 - 2726488792) % 4294967296) / 131072 + ((m + 4294967296 - 2726488792) % 4294967296) % 131072 * 32768
theorem unmask_mask (s : Nat) (h : s < 4294967296) : unmaskS (maskS s) = s := by
  unfold unmaskS maskS
  generalize ht : s / 32768 + s % 32768 * 131072 = t
  have h1 : t < 4294967296 := by omega
  have h2 : ((t + 2726488792) % 4294967296 + 4294967296 - 2726488792) % 4294967296 = t := by omega
  rw [h2]
  have h3 : t / 131072 = s % 32768 := by omega
  have h4 : t % 131072 = s / 32768 := by omega
  rw [h3, h4]; omega
theorem mask_unmask (m : Nat) (h : m < 4294967296) : maskS (unmaskS m) = m := by
  unfold unmaskS maskS
  generalize ht : (m + 4294967296 - 2726488792) % 4294967296 = t
  have h1 : t < 4294967296 := by omega
  generalize hs : t / 131072 + t % 131072 * 32768 = s
  have h3 : s / 32768 = t % 131072 := by omega
  have h4 : s % 32768 = t / 131072 := by omega
  rw [h3, h4, show t % 131072 + t / 131072 * 131072 = t from by omega]
  omega
theorem maskS_lt (s : Nat) : maskS s < 4294967296 := by unfold maskS; omega
theorem unmaskS_lt (m : Nat) : unmaskS m < 4294967296 := by unfold unmaskS; omega
theorem of_digits : ofS [49, 50, 51, 52, 53, 54, 55, 56, 57] = 3808858755 := by decide +kernel
end Go.Proofs.YtncnmmillhnhlaaDoor
