/-
  LAYER 16 (plan): what a body's sectors are, and what sectors' body is (plain mathematics). No condition.
-/
import Derived.Test.YtedjebccclocnaaStampMath
import Derived.Test.YtedjebccclocnaaSpanTouch
import Derived.Test.YtedjebccclocnaaSecs
namespace Go.Proofs.Ytedjebccclocnaa
open Go.RowKit
/-- the i-th sector of a list that is told by its bytes -/
def secOf (fs : List Int) (i : Nat) : List Int := (fs.drop (i * 64)).take 64
theorem secOf_length (fs : List Int) (n i : Nat) (h : fs.length = n * 64) (hi : i < n) : (secOf fs i).length = 64 := by unfold secOf; simp; omega
/-- is it stamped? -/
def okAt (x : Int) (n : Nat) (fs : List Int) (i : Nat) : Bool := decide (i < n) && decide (sealed x i ((secOf fs i).drop 12) = secOf fs i)
/-- its room, zeros if it isn't stamped -/
def roomAt (x : Int) (n : Nat) (fs : List Int) (i : Nat) : List Int := if okAt x n fs i = true then (secOf fs i).drop 12 else List.replicate 52 0
def flatB (x : Int) (n : Nat) (fs : List Int) : Nat → List Int
  | 0 => []
  | k + 1 => flatB x n fs k ++ roomAt x n fs k
def flatK (x : Int) (n : Nat) (fs : List Int) : Nat → List Bool
  | 0 => []
  | k + 1 => flatK x n fs k ++ [okAt x n fs k]
theorem roomAt_length (x : Int) (n : Nat) (fs : List Int) (h : fs.length = n * 64) (i : Nat) : (roomAt x n fs i).length = 52 := by
  unfold roomAt
  split
  · rename_i h1
    simp only [okAt, Bool.and_eq_true, decide_eq_true_eq] at h1
    rw [List.length_drop, secOf_length fs n i h h1.1]
  · simp
theorem flatB_length (x : Int) (n : Nat) (fs : List Int) (h : fs.length = n * 64) : ∀ k, (flatB x n fs k).length = 52 * k
  | 0 => rfl
  | k + 1 => by rw [flatB, List.length_append, flatB_length x n fs h k, roomAt_length x n fs h]; omega
theorem flatK_length (x : Int) (n : Nat) (fs : List Int) : ∀ k, (flatK x n fs k).length = k
  | 0 => rfl
  | k + 1 => by rw [flatK, List.length_append, flatK_length x n fs k]; rfl
theorem okAt_behind (x : Int) (n : Nat) (fs : List Int) (i : Nat) (h : n ≤ i) : okAt x n fs i = false := by
  unfold okAt; rw [decide_eq_false (by omega)]; rfl
theorem okAt_in (x : Int) (n : Nat) (fs : List Int) (i : Nat) (h : i < n) : okAt x n fs i = decide (sealed x i ((secOf fs i).drop 12) = secOf fs i) := by
  unfold okAt; rw [decide_eq_true h]; rfl
theorem roomAt_false (x : Int) (n : Nat) (fs : List Int) (i : Nat) (h : okAt x n fs i = false) : roomAt x n fs i = List.replicate 52 0 := by
  unfold roomAt; rw [if_neg (by rw [h]; simp)]
theorem roomAt_true (x : Int) (n : Nat) (fs : List Int) (i : Nat) (h : okAt x n fs i = true) : roomAt x n fs i = (secOf fs i).drop 12 := by
  unfold roomAt; rw [if_pos h]
theorem flatB_behind (x : Int) (n : Nat) (fs : List Int) (k : Nat) (h : n ≤ k) : ∀ d, flatB x n fs (k + d) = flatB x n fs k ++ List.replicate (52 * d) 0
  | 0 => by simp
  | d + 1 => by
    rw [← Nat.add_assoc, flatB, flatB_behind x n fs k h d, roomAt_false _ _ _ _ (okAt_behind _ _ _ _ (by omega)), List.append_assoc, List.replicate_append_replicate, Nat.mul_add]
theorem flatK_behind (x : Int) (n : Nat) (fs : List Int) (k : Nat) (h : n ≤ k) : ∀ d, flatK x n fs (k + d) = flatK x n fs k ++ List.replicate d false
  | 0 => by simp
  | d + 1 => by
    rw [← Nat.add_assoc, flatK, flatK_behind x n fs k h d, okAt_behind _ _ _ _ (by omega), List.append_assoc, show [false] = List.replicate 1 false from rfl, List.replicate_append_replicate]
/-- the body's block behind k rounds -/
def bodyAt (x : Int) (n : Nat) (fs : List Int) (k : Nat) : List Int := flatB x n fs k ++ List.replicate (832 - 52 * k) 0
def oksAt (x : Int) (n : Nat) (fs : List Int) (k : Nat) : List Bool := flatK x n fs k ++ List.replicate (16 - k) false
theorem bodyAt_length (x : Int) (n : Nat) (fs : List Int) (h : fs.length = n * 64) (k : Nat) (hk : k ≤ 16) : (bodyAt x n fs k).length = 832 := by
  unfold bodyAt; rw [List.length_append, flatB_length x n fs h, List.length_replicate]; omega
theorem oksAt_length (x : Int) (n : Nat) (fs : List Int) (k : Nat) (hk : k ≤ 16) : (oksAt x n fs k).length = 16 := by
  unfold oksAt; rw [List.length_append, flatK_length, List.length_replicate]; omega
theorem bodyAt_zero (x : Int) (n : Nat) (fs : List Int) : bodyAt x n fs 0 = List.replicate 832 0 := rfl
theorem oksAt_zero (x : Int) (n : Nat) (fs : List Int) : oksAt x n fs 0 = List.replicate 16 false := rfl
theorem splice_mid {α : Type} (a b c : List α) (d : List α) (h : c.length = b.length) (k : Nat) (hk : a.length = k) : splice (a ++ (b ++ d)) k c = a ++ (c ++ d) := by
  subst hk
  unfold splice
  rw [List.take_left', List.drop_append, List.drop_eq_nil_of_le (by omega), List.nil_append]
  · congr 2
    rw [show a.length + c.length - a.length = b.length from by omega, List.drop_left']
    rfl
  · rfl
theorem splice_nil {α : Type} (l : List α) (k : Nat) : splice l k [] = l := by simp [splice]
theorem bodyAt_true (x : Int) (n : Nat) (fs : List Int) (h : fs.length = n * 64) (k : Nat) (hk : k < 16) (ho : okAt x n fs k = true) :
    splice (bodyAt x n fs k) (52 * k) ((secOf fs k).drop 12) = bodyAt x n fs (k + 1) := by
  have hr := roomAt_length x n fs h k
  rw [roomAt_true _ _ _ _ ho] at hr
  unfold bodyAt
  rw [show 832 - 52 * k = 52 + (832 - 52 * (k + 1)) from by omega, ← List.replicate_append_replicate,
    splice_mid _ (List.replicate 52 0) _ _ (by simpa using hr) _ (flatB_length x n fs h k), flatB, roomAt_true _ _ _ _ ho, List.append_assoc]
theorem bodyAt_false (x : Int) (n : Nat) (fs : List Int) (k : Nat) (hk : k < 16) (ho : okAt x n fs k = false) : bodyAt x n fs k = bodyAt x n fs (k + 1) := by
  unfold bodyAt
  rw [flatB, roomAt_false _ _ _ _ ho, List.append_assoc, List.replicate_append_replicate, show 52 + (832 - 52 * (k + 1)) = 832 - 52 * k from by omega]
theorem oksAt_next (x : Int) (n : Nat) (fs : List Int) (k : Nat) (hk : k < 16) : (oksAt x n fs k).set k (okAt x n fs k) = oksAt x n fs (k + 1) := by
  unfold oksAt
  rw [show 16 - k = 1 + (16 - (k + 1)) from by omega, ← List.replicate_append_replicate, List.set_append_right _ _ (by rw [flatK_length]; omega), flatK_length, Nat.sub_self, flatK, List.append_assoc]
  rfl
theorem bodyAt_end (x : Int) (n : Nat) (fs : List Int) : bodyAt x n fs (min n 16) = flatB x n fs 16 := by
  by_cases h : n ≤ 16
  · rw [Nat.min_eq_left h]
    have := flatB_behind x n fs n (Nat.le_refl _) (16 - n)
    rw [show n + (16 - n) = 16 from by omega] at this
    rw [this]; unfold bodyAt; rw [show 832 - 52 * n = 52 * (16 - n) from by omega]
  · rw [Nat.min_eq_right (by omega)]; unfold bodyAt; simp
theorem oksAt_end (x : Int) (n : Nat) (fs : List Int) : oksAt x n fs (min n 16) = flatK x n fs 16 := by
  by_cases h : n ≤ 16
  · rw [Nat.min_eq_left h]
    have := flatK_behind x n fs n (Nat.le_refl _) (16 - n)
    rw [show n + (16 - n) = 16 from by omega] at this
    rw [this]; rfl
  · rw [Nat.min_eq_right (by omega)]; unfold oksAt; simp
/-- the bytes of a body that its i-th sector has -/
def partB (body : List Int) (i : Nat) : List Int := (body.drop (52 * i)).take 52
/-- k sectors of a body, from the a-th on -/
def writeB (x : Int) (body : List Int) (a : Nat) : Nat → List Int
  | 0 => []
  | k + 1 => writeB x body a k ++ sealed x ((a + k : Nat) : Int) (partB body (a + k))
theorem writeB_length (x : Int) (body : List Int) (a : Nat) : ∀ k, (writeB x body a k).length = k * 64
  | 0 => rfl
  | k + 1 => by rw [writeB, List.length_append, writeB_length x body a k, sealed_length]; omega
/-- the row of d sectors behind k rounds -/
def rowAt (x : Int) (body : List Int) (a d k : Nat) : List Int := writeB x body a k ++ List.replicate ((d - k) * 64) 0
theorem rowAt_length (x : Int) (body : List Int) (a d k : Nat) (hk : k ≤ d) : (rowAt x body a d k).length = d * 64 := by
  unfold rowAt; rw [List.length_append, writeB_length, List.length_replicate, ← Nat.add_mul]; congr 1; omega
theorem rowAt_zero (x : Int) (body : List Int) (a d : Nat) : rowAt x body a d 0 = List.replicate (d * 64) 0 := by simp [rowAt, writeB]
theorem rowAt_end (x : Int) (body : List Int) (a d : Nat) : rowAt x body a d d = writeB x body a d := by simp [rowAt]
theorem rowAt_next (x : Int) (body : List Int) (a d k : Nat) (hk : k < d) :
    splice (rowAt x body a d k) (k * 64) (sealed x ((a + k : Nat) : Int) (partB body (a + k))) = rowAt x body a d (k + 1) := by
  unfold rowAt
  rw [show (d - k) * 64 = 64 + (d - (k + 1)) * 64 from by omega, ← List.replicate_append_replicate,
    splice_mid _ (List.replicate 64 0) _ _ (by rw [sealed_length]; simp) _ (writeB_length x body a k), writeB, List.append_assoc]
/-- all sectors of a segment, n of them written -/
def wholeK (x : Int) (body : List Int) (n : Nat) : Nat → List Int
  | 0 => []
  | k + 1 => wholeK x body n k ++ (if k < n then sealed x (k : Int) (partB body k) else z64)
theorem wholeK_length (x : Int) (body : List Int) (n : Nat) : ∀ k, (wholeK x body n k).length = k * 64
  | 0 => rfl
  | k + 1 => by
    rw [wholeK, List.length_append, wholeK_length x body n k]
    split
    · rw [sealed_length]; omega
    · rw [z64_length]; omega
theorem wholeK_in (x : Int) (body : List Int) (n : Nat) : ∀ k, k ≤ n → wholeK x body n k = writeB x body 0 k
  | 0, _ => rfl
  | k + 1, h => by rw [wholeK, wholeK_in x body n k (by omega), if_pos (by omega), writeB, Nat.zero_add]
theorem wholeK_behind (x : Int) (body : List Int) (n : Nat) : ∀ d, wholeK x body n (n + d) = writeB x body 0 n ++ List.replicate (d * 64) 0
  | 0 => by rw [Nat.add_zero, wholeK_in _ _ _ _ (Nat.le_refl _)]; simp
  | d + 1 => by
    rw [← Nat.add_assoc, wholeK, wholeK_behind x body n d, if_neg (by omega), List.append_assoc, z64, List.replicate_append_replicate, Nat.add_mul]
theorem whole_splice (x : Int) (body : List Int) (n : Nat) (h : n ≤ 16) : splice (List.replicate 1024 (0 : Int)) 0 (writeB x body 0 n) = wholeK x body n 16 := by
  have h1 := wholeK_behind x body n (16 - n)
  rw [show n + (16 - n) = 16 from by omega] at h1
  rw [h1]
  unfold splice
  rw [List.take_zero, List.nil_append, writeB_length, List.drop_replicate, show 1024 - (0 + n * 64) = (16 - n) * 64 from by omega]
/-- the i-th sector of a whole segment -/
theorem secOf_whole (x : Int) (body : List Int) (n i : Nat) : ∀ k, i < k → secOf (wholeK x body n k) i = if i < n then sealed x (i : Int) (partB body i) else z64
  | 0, h => absurd h (by omega)
  | k + 1, h => by
    have hl := wholeK_length x body n k
    by_cases hik : i < k
    · rw [← secOf_whole x body n i k hik]
      unfold secOf
      rw [wholeK, List.drop_append_of_le_length (by omega), List.take_append_of_le_length (by simp; omega)]
    · obtain rfl : i = k := by omega
      unfold secOf
      rw [wholeK, List.drop_left' hl]
      refine List.take_of_length_le ?_
      split
      · rw [sealed_length]; omega
      · rw [z64_length]; omega
theorem z64_sealed : z64 = sealed 0 0 [] := by decide
theorem okAt_whole (x : Int) (hx : U64 x) (h0 : x ≠ 0) (body : List Int) (n i : Nat) (hi : i < 16) : okAt x 16 (wholeK x body n 16) i = decide (i < n) := by
  rw [okAt_in _ _ _ _ hi, secOf_whole x body n i 16 hi]
  by_cases h : i < n
  · rw [if_pos h, sealed_own, decide_eq_true rfl, decide_eq_true h]
  · rw [if_neg h, z64_sealed, decide_eq_false h]
    refine decide_eq_false fun he => h0 ?_
    exact ((sealed_eq 0 x 0 i (by unfold U64; omega) hx []).1 he).1.symm
theorem flatB_get (x : Int) (n : Nat) (fs : List Int) (hl : fs.length = n * 64) (i r : Nat) (hr : r < 52) : ∀ k, i < k → (flatB x n fs k).getD (52 * i + r) 0 = (roomAt x n fs i).getD r 0
  | 0, h => absurd h (by omega)
  | k + 1, h => by
    have h1 := flatB_length x n fs hl k
    rw [flatB]
    by_cases hik : i < k
    · rw [getD_app_l _ _ _ (by omega), flatB_get x n fs hl i r hr k hik]
    · obtain rfl : i = k := by omega
      rw [getD_app_r _ _ _ (by omega), h1, Nat.add_sub_cancel_left]
theorem getB_app_l (a b : List Bool) (j : Nat) (h : j < a.length) : (a ++ b).getD j false = a.getD j false := by simp [List.getD, List.getElem?_append, h]
theorem getB_app_r (a b : List Bool) (j : Nat) (h : a.length ≤ j) : (a ++ b).getD j false = b.getD (j - a.length) false := by simp [List.getD, List.getElem?_append, Nat.not_lt.2 h]
theorem flatK_get (x : Int) (n : Nat) (fs : List Int) (i : Nat) : ∀ k, i < k → (flatK x n fs k).getD i false = okAt x n fs i
  | 0, h => absurd h (by omega)
  | k + 1, h => by
    have h1 := flatK_length x n fs k
    rw [flatK]
    by_cases hik : i < k
    · rw [getB_app_l _ _ _ (by omega), flatK_get x n fs i k hik]
    · obtain rfl : i = k := by omega
      rw [getB_app_r _ _ _ (by omega), h1]; simp
/-- the body of a whole segment -/
theorem back_get (x : Int) (hx : U64 x) (h0 : x ≠ 0) (body : List Int) (n j : Nat) (hj : j < 832) :
    (flatB x 16 (wholeK x body n 16) 16).getD j 0 = if j < 52 * n ∧ j < body.length then body.getD j 0 else 0 := by
  have hj2 : 52 * (j / 52) + j % 52 = j := by omega
  have h1 := flatB_get x 16 (wholeK x body n 16) (wholeK_length x body n 16) (j / 52) (j % 52) (by omega) 16 (by omega)
  rw [hj2] at h1
  rw [h1]
  have ho := okAt_whole x hx h0 body n (j / 52) (by omega)
  by_cases hn : j / 52 < n
  · rw [decide_eq_true hn] at ho
    rw [roomAt_true _ _ _ _ ho, secOf_whole x body n _ 16 (by omega), if_pos hn, sealed_room, room_get _ _ (by omega)]
    unfold partB
    have h2 : ((body.drop (52 * (j / 52))).take 52).getD (j % 52) 0 = body.getD j 0 := by
      simp only [List.getD, List.getElem?_take, show j % 52 < 52 from by omega, if_true, List.getElem?_drop, hj2]
    rw [h2]
    by_cases hb : j < body.length
    · rw [if_pos ⟨by omega, hb⟩]
    · rw [if_neg (by omega)]
      simp [List.getD, List.getElem?_eq_none (Nat.not_lt.1 hb)]
  · rw [decide_eq_false hn] at ho
    rw [roomAt_false _ _ _ _ ho, if_neg (by omega), getD_replicate]
/-- are all of d sectors from the a-th on true? -/
def cov (bs : List Bool) (a d : Nat) : Bool := (List.range d).all fun i => bs.getD (a + i) false
theorem cov_short (bs : List Bool) (a d i : Nat) (hi : i < d) (h : bs.getD (a + i) false = false) : cov bs a d = false := by
  refine Bool.eq_false_iff.2 fun h1 => ?_
  have := List.all_eq_true.1 h1 i (List.mem_range.2 hi)
  rw [h] at this; cases this
theorem cov_all (bs : List Bool) (a d : Nat) (h : ∀ i, i < d → bs.getD (a + i) false = true) : cov bs a d = true :=
  List.all_eq_true.2 fun i hi => h i (List.mem_range.1 hi)
/-- which sectors a segment's places lie in -/
theorem touch_le (a b : Nat) (hb : b ≤ 832) : (touchN a b).1 ≤ (touchN a b).2 ∧ (touchN a b).2 ≤ 16 ∧ ((touchN a b).1 = (touchN a b).2 → (touchN a b).1 = 0) := by
  unfold touchN
  split
  · refine ⟨by simp only; omega, by simp only; omega, by simp only; omega⟩
  · simp
theorem touch_zero (b : Nat) : (touchN 0 b).1 = 0 := by
  unfold touchN; split <;> rfl
end Go.Proofs.Ytedjebccclocnaa
