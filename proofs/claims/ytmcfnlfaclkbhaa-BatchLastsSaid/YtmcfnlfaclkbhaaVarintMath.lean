/-
  PLAIN MATHEMATICS of layer 2 (varint): a number's short bytes (vb), what is got of bytes (gv), all numbers of bytes (av). Nothing here speaks of the program. No condition.
-/
import Derived.Test.YtmcfnlfaclkbhaaBase
namespace Go.Proofs.Ytmcfnlfaclkbhaa

/-- a number's short bytes -/
def vb (n : Nat) : List Int := if n < 128 then [(n : Int)] else ((n % 128 + 128 : Nat) : Int) :: vb (n / 128)
termination_by n
decreasing_by omega
theorem vb_small (n : Nat) (h : n < 128) : vb n = [(n : Int)] := by rw [vb, if_pos h]
theorem vb_big (n : Nat) (h : 128 ≤ n) : vb n = ((n % 128 + 128 : Nat) : Int) :: vb (n / 128) := by rw [vb, if_neg (by omega)]
theorem vb_pos (n : Nat) : 0 < (vb n).length := by
  rcases (by omega : n < 128 ∨ 128 ≤ n) with h | h
  · rw [vb_small n h]; simp
  · rw [vb_big n h]; simp
theorem vb_bytes (n : Nat) : ∀ x ∈ vb n, 0 ≤ x ∧ x ≤ 255 := by
  induction n using Nat.strongRecOn with
  | _ n ih =>
    intro x hx
    rcases (by omega : n < 128 ∨ 128 ≤ n) with h | h
    · rw [vb_small n h] at hx; simp at hx; omega
    · rw [vb_big n h] at hx
      rcases List.mem_cons.1 hx with e | e
      · omega
      · exact ih (n / 128) (by omega) x e
theorem vb_len_le (k n : Nat) (h : n < 128 ^ (k + 1)) : (vb n).length ≤ k + 1 := by
  induction k generalizing n with
  | zero => rw [vb_small n (by omega)]; simp
  | succ k ih =>
    rcases (by omega : n < 128 ∨ 128 ≤ n) with h1 | h1
    · rw [vb_small n h1]; simp
    · have := ih (n / 128) (by rw [Nat.pow_succ] at h; omega)
      rw [vb_big n h1]; simp; omega
theorem vb_len (n : Nat) (h : n < 18446744073709551616) : (vb n).length ≤ 10 :=
  vb_len_le 9 n (Nat.lt_of_lt_of_le h (by decide))

/-- what is got of what is left: i bytes are read, acc is their number; (number, how many bytes, errno) -/
def gv : Nat → Int → List Int → Int × Nat × Int
  | _, _, [] => (0, 0, 1)
  | i, acc, x :: r =>
    if i = 9 ∧ 1 < x then (0, 0, 4)
    else if 0 < i ∧ x = 0 then (0, 0, 2)
    else if 128 ≤ x then gv (i + 1) (acc + (x - 128) * 2 ^ (7 * i)) r
    else (acc + x * 2 ^ (7 * i), i + 1, 0)
theorem gv_cons (i : Nat) (acc x : Int) (r : List Int) : gv i acc (x :: r) =
    if i = 9 ∧ 1 < x then (0, 0, 4) else if 0 < i ∧ x = 0 then (0, 0, 2) else if 128 ≤ x then gv (i + 1) (acc + (x - 128) * 2 ^ (7 * i)) r else (acc + x * 2 ^ (7 * i), i + 1, 0) := rfl
theorem pow7 (i : Nat) : (2 : Int) ^ (7 * (i + 1)) = 128 * 2 ^ (7 * i) := by rw [show 7 * (i + 1) = 7 + 7 * i from by omega, Int.pow_add]; rfl
theorem pow7_9 : (2 : Int) ^ (7 * 9) = 9223372036854775808 := by decide
/-- what is put is got, whatever stands behind -/
theorem gv_vb (n : Nat) : ∀ (i : Nat) (acc : Int) (r : List Int), i ≤ 9 → (n : Int) * 2 ^ (7 * i) < 18446744073709551616 → (i = 0 ∨ 0 < n) →
    gv i acc (vb n ++ r) = (acc + n * 2 ^ (7 * i), i + (vb n).length, 0) := by
  induction n using Nat.strongRecOn with
  | _ n ih =>
    intro i acc r hi hn hp
    have h9 : i = 9 → n ≤ 1 := by intro e; subst e; rw [pow7_9] at hn; omega
    rcases (by omega : n < 128 ∨ 128 ≤ n) with h | h
    · rw [vb_small n h, List.singleton_append, gv_cons, if_neg (by omega), if_neg (by omega), if_neg (by omega)]; simp
    · have hi9 : i ≠ 9 := fun e => by have := h9 e; omega
      have hd : ((n / 128 : Nat) : Int) * 2 ^ (7 * (i + 1)) ≤ n * 2 ^ (7 * i) := by
        rw [pow7, ← Int.mul_assoc]
        exact Int.mul_le_mul_of_nonneg_right (by omega) (Int.le_of_lt (pow_pos' _))
      rw [vb_big n h, List.cons_append, gv_cons, if_neg (by omega), if_neg (by omega), if_pos (by omega), ih (n / 128) (by omega) (i + 1) _ r (by omega) (by omega) (.inr (by omega))]
      refine Prod.ext ?_ (Prod.ext ?_ rfl)
      · simp only
        rw [pow7, ← Int.mul_assoc, Int.add_assoc, ← Int.add_mul, show ((n % 128 + 128 : Nat) : Int) - 128 + ((n / 128 : Nat) : Int) * 128 = (n : Int) from by omega]
      · simp only [List.length_cons]; omega
/-- what is got is put by the same bytes -/
theorem gv_ok (l : List Int) : ∀ (i : Nat) (acc : Int), (∀ x ∈ l, 0 ≤ x ∧ x ≤ 255) → (gv i acc l).2.2 = 0 →
    ∃ m : Nat, (i = 0 ∨ 0 < m) ∧ (gv i acc l).1 = acc + m * 2 ^ (7 * i) ∧ (gv i acc l).2.1 = i + (vb m).length ∧ (vb m).length ≤ l.length ∧ l.take (vb m).length = vb m := by
  induction l with
  | nil => intro i acc _ h; simp [gv] at h
  | cons x r ih =>
    intro i acc hb h
    have hx := hb x (by simp)
    rw [gv_cons] at h ⊢
    split at h
    · simp at h
    · rename_i c1
      rw [if_neg c1]
      split at h
      · simp at h
      · rename_i c2
        rw [if_neg c2]
        split at h
        · rename_i c3
          rw [if_pos c3]
          obtain ⟨m, h1, h2, h3, h4, h5⟩ := ih (i + 1) _ (fun y hy => hb y (List.mem_cons_of_mem _ hy)) h
          have hm : 0 < m := by omega
          have e : vb (128 * m + (x - 128).toNat) = x :: vb m := by
            rw [vb_big _ (by omega)]
            congr 1
            · omega
            · congr 1; omega
          refine ⟨128 * m + (x - 128).toNat, .inr (by omega), ?_, ?_, ?_, ?_⟩
          · rw [h2, pow7, ← Int.mul_assoc, Int.add_assoc, ← Int.add_mul, show x - 128 + (m : Int) * 128 = ((128 * m + (x - 128).toNat : Nat) : Int) from by omega]
          · rw [h3, e]; simp; omega
          · rw [e]; simpa using h4
          · rw [e]; simpa using h5
        · rename_i c3
          rw [if_neg c3]
          have e : vb x.toNat = [x] := by rw [vb_small _ (by omega)]; congr 1; omega
          refine ⟨x.toNat, by omega, ?_, ?_, ?_, ?_⟩
          · simp only; rw [show ((x.toNat : Nat) : Int) = x from by omega]
          · rw [e]; simp
          · rw [e]; simp
          · rw [e]; simp
theorem gv_len (l : List Int) : ∀ (i : Nat) (acc : Int), (gv i acc l).2.1 ≤ i + l.length := by
  induction l with
  | nil => intro i acc; simp [gv]
  | cons x r ih =>
    intro i acc
    rw [gv_cons]
    split
    · simp
    · split
      · simp
      · split
        · have := ih (i + 1) (acc + (x - 128) * 2 ^ (7 * i)); simp only [List.length_cons]; omega
        · simp only [List.length_cons]; omega
theorem gv_errno (l : List Int) : ∀ (i : Nat) (acc : Int), (gv i acc l).2.2 = 0 ∨ (gv i acc l).2.2 = 1 ∨ (gv i acc l).2.2 = 2 ∨ (gv i acc l).2.2 = 4 := by
  induction l with
  | nil => intro i acc; simp [gv]
  | cons x r ih =>
    intro i acc
    rw [gv_cons]
    split
    · simp
    · split
      · simp
      · split
        · exact ih _ _
        · simp
theorem gv_pos (l : List Int) (h : (gv 0 0 l).2.2 = 0) (hb : ∀ x ∈ l, 0 ≤ x ∧ x ≤ 255) : 0 < (gv 0 0 l).2.1 := by
  obtain ⟨m, _, _, h3, _⟩ := gv_ok l 0 0 hb h
  have := vb_pos m
  omega
/-- what is read so far stays small -/
theorem acc_step (i : Nat) (acc c : Int) (hi : i ≤ 9) (h0 : 0 ≤ acc) (h1 : acc < 2 ^ (7 * i)) (hc0 : 0 ≤ c) (hc : c ≤ 127) (hc9 : i = 9 → c ≤ 1) :
    0 ≤ c * 2 ^ (7 * i) ∧ acc + c * 2 ^ (7 * i) ≤ 18446744073709551615 ∧ acc + c * 2 ^ (7 * i) < 2 ^ (7 * (i + 1)) := by
  have hp := pow_pos' (7 * i)
  have e := pow7 i
  rw [e]
  have h2 : 0 ≤ c * 2 ^ (7 * i) := Int.mul_nonneg hc0 (by omega)
  have h3 : c * 2 ^ (7 * i) ≤ 127 * 2 ^ (7 * i) := Int.mul_le_mul_of_nonneg_right hc (by omega)
  refine ⟨h2, ?_, by omega⟩
  by_cases h9 : i = 9
  · have h4 := hc9 h9
    subst h9
    have h5 : c * 2 ^ (7 * 9) ≤ 1 * 2 ^ (7 * 9) := Int.mul_le_mul_of_nonneg_right h4 (by omega)
    rw [pow7_9] at *
    omega
  · have h6 : (2 : Int) ^ (7 * i) ≤ 2 ^ (7 * 8) := pow_le' _ _ (by omega)
    have h7 : (2 : Int) ^ (7 * 8) = 72057594037927936 := by decide
    omega
theorem gv_bd (l : List Int) : ∀ (i : Nat) (acc : Int), i ≤ 9 → 0 ≤ acc → acc < 2 ^ (7 * i) → (∀ x ∈ l, 0 ≤ x ∧ x ≤ 255) → 0 ≤ (gv i acc l).1 ∧ (gv i acc l).1 ≤ 18446744073709551615 := by
  induction l with
  | nil => intro i acc _ _ _ _; simp [gv]
  | cons x r ih =>
    intro i acc hi h0 h1 hb
    have hx := hb x (by simp)
    rw [gv_cons]
    split
    · simp
    · split
      · simp
      · split
        · have := acc_step i acc (x - 128) hi h0 h1 (by omega) (by omega) (by omega)
          exact ih (i + 1) _ (by omega) (by omega) this.2.2 (fun y hy => hb y (List.mem_cons_of_mem _ hy))
        · have := acc_step i acc x hi h0 h1 (by omega) (by omega) (by omega)
          simp only; omega

/-- all numbers of bytes; (numbers, errno) -/
def av (l : List Int) : List Int × Int :=
  if h : l = [] then ([], 0)
  else if (gv 0 0 l).2.2 = 0 then ((gv 0 0 l).1 :: (av (l.drop ((gv 0 0 l).2.1 - 1 + 1))).1, (av (l.drop ((gv 0 0 l).2.1 - 1 + 1))).2)
  else ([], (gv 0 0 l).2.2)
termination_by l.length
decreasing_by all_goals (have := List.length_pos_iff.2 h; simp; omega)
theorem av_nil : av [] = ([], 0) := by rw [av]; rfl
theorem av_bad (l : List Int) (h : l ≠ []) (he : (gv 0 0 l).2.2 ≠ 0) : av l = ([], (gv 0 0 l).2.2) := by rw [av, dif_neg h, if_neg he]
theorem av_ok (l : List Int) (h : l ≠ []) (hb : ∀ x ∈ l, 0 ≤ x ∧ x ≤ 255) (he : (gv 0 0 l).2.2 = 0) :
    av l = ((gv 0 0 l).1 :: (av (l.drop (gv 0 0 l).2.1)).1, (av (l.drop (gv 0 0 l).2.1)).2) := by
  have hp := gv_pos l he hb
  rw [av, dif_neg h, if_pos he, show (gv 0 0 l).2.1 - 1 + 1 = (gv 0 0 l).2.1 from by omega]
/-- the short bytes of numbers, one behind the other -/
def cv : List Int → List Int
  | [] => []
  | n :: l => vb n.toNat ++ cv l
theorem cv_append (a b : List Int) : cv (a ++ b) = cv a ++ cv b := by
  induction a with
  | nil => rfl
  | cons n l ih => simp [cv, ih]
theorem cv_bytes (l : List Int) : ∀ x ∈ cv l, 0 ≤ x ∧ x ≤ 255 := by
  induction l with
  | nil => simp [cv]
  | cons n l ih =>
    intro x hx
    rcases List.mem_append.1 hx with h | h
    · exact vb_bytes _ x h
    · exact ih x h
theorem cv_len (l : List Int) (h : ∀ n ∈ l, U64 n) : (cv l).length ≤ 10 * l.length := by
  induction l with
  | nil => simp [cv]
  | cons n l ih =>
    have h1 := ih fun m hm => h m (List.mem_cons_of_mem _ hm)
    have h2 := h n (by simp)
    have h3 := vb_len n.toNat (by unfold U64 at h2; omega)
    simp only [cv, List.length_append, List.length_cons]; omega
theorem gv_put (n : Int) (h : U64 n) (r : List Int) : gv 0 0 (vb n.toNat ++ r) = (n, (vb n.toNat).length, 0) := by
  unfold U64 at h
  rw [gv_vb n.toNat 0 0 r (by omega) (by simp; omega) (.inl rfl)]
  refine Prod.ext ?_ (Prod.ext ?_ rfl)
  · simp; omega
  · simp
theorem av_cv (l : List Int) (h : ∀ n ∈ l, U64 n) : av (cv l) = (l, 0) := by
  induction l with
  | nil => exact av_nil
  | cons n l ih =>
    have e : gv 0 0 (cv (n :: l)) = (n, (vb n.toNat).length, 0) := gv_put n (h n (by simp)) (cv l)
    have hne : cv (n :: l) ≠ [] := by
      have := vb_pos n.toNat
      intro h0; have := congrArg List.length h0; simp only [cv, List.length_append, List.length_nil] at this; omega
    rw [av_ok _ hne (cv_bytes _) (by rw [e]), e]
    simp only [cv]
    rw [List.drop_left, ih fun m hm => h m (List.mem_cons_of_mem _ hm)]
theorem av_errno (l : List Int) (hb : ∀ x ∈ l, 0 ≤ x ∧ x ≤ 255) : (av l).2 = 0 ∨ (av l).2 = 1 ∨ (av l).2 = 2 ∨ (av l).2 = 4 := by
  generalize hn : l.length = n
  induction n using Nat.strongRecOn generalizing l with
  | _ n ih =>
    by_cases h : l = []
    · subst h; rw [av_nil]; simp
    · by_cases he : (gv 0 0 l).2.2 = 0
      · have hp := gv_pos l he hb
        have := List.length_pos_iff.2 h
        rw [av_ok l h hb he]
        exact ih _ (by rw [← hn, List.length_drop]; omega) _ (fun x hx => hb x (List.mem_of_mem_drop hx)) rfl
      · rw [av_bad l h he]
        exact gv_errno l 0 0
theorem vb_300 : vb 300 = [172, 2] := by rw [vb_big 300 (by decide), vb_small _ (by decide)]; decide
end Go.Proofs.Ytmcfnlfaclkbhaa
