/-
  PLAIN MATHEMATICS of layer 4 (field): a field's laid bytes, those of many, what is got of bytes, all fields of bytes; what was packed is unpacked, what is unpacked is packed by the same bytes. Nothing here speaks of the program. No condition.
-/
import Derived.Test.YtmcfnlfaclkbhaaVarintMath
namespace Go.Proofs.Ytmcfnlfaclkbhaa
def isB (l : List Int) : Prop := ∀ x ∈ l, 0 ≤ x ∧ x ≤ 255
theorem isB.drop {l : List Int} (h : isB l) (k : Nat) : isB (l.drop k) := fun x hx => h x (List.mem_of_mem_drop hx)
theorem isB.take {l : List Int} (h : isB l) (k : Nat) : isB (l.take k) := fun x hx => h x (List.mem_of_mem_take hx)
theorem isB.append {a b : List Int} (ha : isB a) (hb : isB b) : isB (a ++ b) := fun x hx => (List.mem_append.1 hx).elim (ha x) (hb x)
theorem isB.nil : isB [] := fun x hx => by simp at hx
/-- a field's laid bytes -/
def fb (f : List Int) : List Int := vb f.length ++ f
theorem fb_bytes {f : List Int} (h : isB f) : isB (fb f) := isB.append (vb_bytes f.length) h
theorem fb_pos (f : List Int) : 0 < (fb f).length := by have := vb_pos f.length; unfold fb; simp; omega
theorem vb_three (n : Nat) (h : n ≤ 65536) : (vb n).length ≤ 3 := vb_len_le 2 n (by omega)
theorem fb_len (f : List Int) (h : f.length ≤ 65536) : (fb f).length ≤ f.length + 3 := by have := vb_three f.length h; unfold fb; simp; omega
/-- .. none of one that is too long -/
def fo (f : List Int) : List Int := if f.length ≤ 65536 then fb f else []
theorem fo_small (f : List Int) (h : f.length ≤ 65536) : fo f = fb f := if_pos h
theorem fo_big (f : List Int) (h : ¬ f.length ≤ 65536) : fo f = [] := if_neg h
theorem fo_bytes {f : List Int} (h : isB f) : isB (fo f) := by unfold fo; split; exact fb_bytes h; exact isB.nil
theorem fo_len (f : List Int) : (fo f).length ≤ 65539 := by
  unfold fo; split
  · have := fb_len f (by assumption); omega
  · simp
/-- of many, one behind the other -/
def pk : List (List Int) → List Int
  | [] => []
  | f :: l => fo f ++ pk l
theorem pk_nil : pk [] = [] := rfl
theorem pk_cons (f : List Int) (l : List (List Int)) : pk (f :: l) = fo f ++ pk l := rfl
theorem pk_append (a b : List (List Int)) : pk (a ++ b) = pk a ++ pk b := by
  induction a with
  | nil => rfl
  | cons f a ih => simp [pk_cons, ih]
theorem pk_one (f : List Int) : pk [f] = fo f := by simp [pk_cons, pk_nil]
theorem pk_bytes (l : List (List Int)) (h : ∀ f ∈ l, isB f) : isB (pk l) := by
  induction l with
  | nil => exact isB.nil
  | cons f l ih => exact (fo_bytes (h f (by simp))).append (ih fun g hg => h g (List.mem_cons_of_mem _ hg))
theorem pk_len (l : List (List Int)) : (pk l).length ≤ 65539 * l.length := by
  induction l with
  | nil => simp [pk]
  | cons f l ih => have := fo_len f; simp only [pk_cons, List.length_append, List.length_cons]; omega
/-- what is got: (the field, how many bytes, errno) -/
def gf (l : List Int) : List Int × Nat × Int :=
  if (gv 0 0 l).2.2 ≠ 0 then ([], 0, (gv 0 0 l).2.2)
  else if 65536 < (gv 0 0 l).1 then ([], 0, 5)
  else if ((l.length - (gv 0 0 l).2.1 : Nat) : Int) < (gv 0 0 l).1 then ([], 0, 1)
  else ((l.drop (gv 0 0 l).2.1).take (gv 0 0 l).1.toNat, (gv 0 0 l).2.1 + (gv 0 0 l).1.toNat, 0)
theorem gf_bad (l : List Int) (h : (gv 0 0 l).2.2 ≠ 0) : gf l = ([], 0, (gv 0 0 l).2.2) := if_pos h
theorem gf_long (l : List Int) (h : (gv 0 0 l).2.2 = 0) (h1 : 65536 < (gv 0 0 l).1) : gf l = ([], 0, 5) := by unfold gf; rw [if_neg (by simp [h]), if_pos h1]
theorem gf_short (l : List Int) (h : (gv 0 0 l).2.2 = 0) (h1 : ¬ 65536 < (gv 0 0 l).1) (h2 : ((l.length - (gv 0 0 l).2.1 : Nat) : Int) < (gv 0 0 l).1) : gf l = ([], 0, 1) := by
  unfold gf; rw [if_neg (by simp [h]), if_neg h1, if_pos h2]
theorem gf_good (l : List Int) (h : (gv 0 0 l).2.2 = 0) (h1 : ¬ 65536 < (gv 0 0 l).1) (h2 : ¬ ((l.length - (gv 0 0 l).2.1 : Nat) : Int) < (gv 0 0 l).1) :
    gf l = ((l.drop (gv 0 0 l).2.1).take (gv 0 0 l).1.toNat, (gv 0 0 l).2.1 + (gv 0 0 l).1.toNat, 0) := by unfold gf; rw [if_neg (by simp [h]), if_neg h1, if_neg h2]
/-- what is got is laid by the same bytes -/
theorem gf_ok (l : List Int) (hb : isB l) (h : (gf l).2.2 = 0) : ∃ f r, l = fb f ++ r ∧ f.length ≤ 65536 ∧ gf l = (f, (fb f).length, 0) := by
  by_cases h0 : (gv 0 0 l).2.2 = 0
  · by_cases h1 : 65536 < (gv 0 0 l).1
    · rw [gf_long l h0 h1] at h; simp at h
    · by_cases h2 : ((l.length - (gv 0 0 l).2.1 : Nat) : Int) < (gv 0 0 l).1
      · rw [gf_short l h0 h1 h2] at h; simp at h
      · obtain ⟨m, _, e1, e2, e3, e4⟩ := gv_ok l 0 0 hb h0
        simp at e1 e2
        rw [e1, e2] at h2
        rw [e1] at h1
        have hl : ((l.drop (vb m).length).take m).length = m := by simp; omega
        refine ⟨(l.drop (vb m).length).take m, l.drop ((vb m).length + m), ?_, by rw [hl]; omega, ?_⟩
        · unfold fb
          rw [hl, List.append_assoc, ← List.drop_drop, List.take_append_drop]
          conv => lhs; rw [← List.take_append_drop (vb m).length l, e4]
        · rw [gf_good l h0 (by rw [e1]; exact h1) (by rw [e1, e2]; exact h2), e1, e2]
          unfold fb
          simp [hl]
  · rw [gf_bad l h0] at h; exact absurd h h0
theorem gf_fb (f r : List Int) (h : f.length ≤ 65536) : gf (fb f ++ r) = (f, (fb f).length, 0) := by
  have e : gv 0 0 (fb f ++ r) = ((f.length : Int), (vb f.length).length, 0) := by
    have := gv_put (f.length : Int) (by unfold U64; omega) (f ++ r)
    unfold fb
    rw [List.append_assoc]
    simpa using this
  rw [gf_good _ (by rw [e]) (by rw [e]; simp; omega) (by rw [e]; simp only [fb, List.length_append]; omega), e]
  unfold fb
  simp
theorem gf_pos (l : List Int) (hb : isB l) (h : (gf l).2.2 = 0) : 0 < (gf l).2.1 := by
  obtain ⟨f, r, _, _, e⟩ := gf_ok l hb h
  rw [e]; exact fb_pos f
theorem gf_le (l : List Int) (hb : isB l) : (gf l).2.1 ≤ l.length := by
  by_cases h : (gf l).2.2 = 0
  · obtain ⟨f, r, e1, _, e⟩ := gf_ok l hb h
    rw [e]; show (fb f).length ≤ l.length; rw [e1]; simp
  · unfold gf at h ⊢
    split; exact Nat.zero_le _
    split; exact Nat.zero_le _
    split; exact Nat.zero_le _
    rename_i a b c; rw [if_neg a, if_neg b, if_neg c] at h; exact absurd rfl h
theorem gf_zero (l : List Int) (h : (gf l).2.2 ≠ 0) : (gf l).1 = [] ∧ (gf l).2.1 = 0 := by
  unfold gf at h ⊢
  split; exact ⟨rfl, rfl⟩
  split; exact ⟨rfl, rfl⟩
  split; exact ⟨rfl, rfl⟩
  rename_i a b c; rw [if_neg a, if_neg b, if_neg c] at h; exact absurd rfl h
theorem gf_len (l : List Int) (hb : isB l) : (gf l).1.length ≤ 65536 := by
  by_cases h : (gf l).2.2 = 0
  · obtain ⟨f, r, e1, h1, e⟩ := gf_ok l hb h
    rw [e]; exact h1
  · rw [(gf_zero l h).1]; simp
theorem gf_errno (l : List Int) : 0 ≤ (gf l).2.2 ∧ (gf l).2.2 ≤ 5 := by
  have := gv_errno l 0 0
  unfold gf
  split
  · simp only; omega
  · split
    · simp
    · split <;> simp
/-- all fields of bytes; (fields, errno) -/
def uf (l : List Int) : List (List Int) × Int :=
  if h : l = [] then ([], 0)
  else if (gf l).2.2 = 0 then ((gf l).1 :: (uf (l.drop ((gf l).2.1 - 1 + 1))).1, (uf (l.drop ((gf l).2.1 - 1 + 1))).2)
  else ([], (gf l).2.2)
termination_by l.length
decreasing_by all_goals (have := List.length_pos_iff.2 h; simp; omega)
theorem uf_nil : uf [] = ([], 0) := by rw [uf]; rfl
theorem uf_bad (l : List Int) (h : l ≠ []) (he : (gf l).2.2 ≠ 0) : uf l = ([], (gf l).2.2) := by rw [uf, dif_neg h, if_neg he]
theorem uf_ok (l : List Int) (h : l ≠ []) (hb : isB l) (he : (gf l).2.2 = 0) :
    uf l = ((gf l).1 :: (uf (l.drop (gf l).2.1)).1, (uf (l.drop (gf l).2.1)).2) := by
  have hp := gf_pos l hb he
  rw [uf, dif_neg h, if_pos he, show (gf l).2.1 - 1 + 1 = (gf l).2.1 from by omega]
theorem uf_pk (l : List (List Int)) (hl : ∀ f ∈ l, isB f) : (uf (pk l)).2 = 0 := by
  induction l with
  | nil => rw [pk_nil, uf_nil]
  | cons f l ih =>
    have ih := ih fun g hg => hl g (List.mem_cons_of_mem _ hg)
    by_cases h : f.length ≤ 65536
    · have e : gf (pk (f :: l)) = (f, (fb f).length, 0) := by rw [pk_cons, fo_small f h]; exact gf_fb f (pk l) h
      have hne : pk (f :: l) ≠ [] := by
        rw [pk_cons, fo_small f h]
        intro h0; have h2 := (List.append_eq_nil_iff.1 h0).1; have := fb_pos f; rw [h2] at this; simp at this
      rw [uf_ok _ hne (pk_bytes _ hl) (by rw [e]), e]
      simp only
      rw [pk_cons, fo_small f h, List.drop_left, ih]
    · rw [pk_cons, fo_big f h, List.nil_append, ih]
theorem pk_uf (l : List Int) (hb : isB l) (h : (uf l).2 = 0) : pk (uf l).1 = l := by
  generalize hn : l.length = n
  induction n using Nat.strongRecOn generalizing l with
  | _ n ih =>
    by_cases h0 : l = []
    · subst h0; rw [uf_nil]; rfl
    · by_cases he : (gf l).2.2 = 0
      · obtain ⟨f, r, e1, h1, e⟩ := gf_ok l hb he
        have hu := uf_ok l h0 hb he
        rw [hu] at h ⊢
        rw [e] at h ⊢
        simp only at h ⊢
        have hd : l.drop (fb f).length = r := by rw [e1]; exact List.drop_left
        rw [hd] at h ⊢
        rw [pk_cons, fo_small f h1, ih r.length (by rw [← hn, e1]; have := fb_pos f; simp; omega) r (by rw [← hd]; exact hb.drop _) h rfl]
        exact e1.symm
      · rw [uf_bad l h0 he] at h; exact absurd h he
theorem uf_bytes (l : List Int) (hb : isB l) : ∀ f ∈ (uf l).1, isB f ∧ f.length ≤ 65536 := by
  generalize hn : l.length = n
  induction n using Nat.strongRecOn generalizing l with
  | _ n ih =>
    by_cases h0 : l = []
    · subst h0; rw [uf_nil]; simp
    · by_cases he : (gf l).2.2 = 0
      · obtain ⟨f, r, e1, h1, e⟩ := gf_ok l hb he
        rw [uf_ok l h0 hb he, e]
        have hd : l.drop (fb f).length = r := by rw [e1]; exact List.drop_left
        simp only
        rw [hd]
        intro g hg
        rcases List.mem_cons.1 hg with rfl | hg
        · exact ⟨fun x hx => hb x (by rw [e1]; unfold fb; simp [hx]), h1⟩
        · exact ih r.length (by rw [← hn, e1]; have := fb_pos f; simp; omega) r (by rw [← hd]; exact hb.drop _) rfl g hg
      · rw [uf_bad l h0 he]; simp
theorem uf_len (l : List Int) (hb : isB l) : (uf l).1.length ≤ l.length := by
  generalize hn : l.length = n
  induction n using Nat.strongRecOn generalizing l with
  | _ n ih =>
    by_cases h0 : l = []
    · subst h0; rw [uf_nil]; simp
    · by_cases he : (gf l).2.2 = 0
      · have hp := gf_pos l hb he
        have hle := gf_le l hb
        rw [uf_ok l h0 hb he]
        have := ih (l.drop (gf l).2.1).length (by rw [← hn, List.length_drop]; omega) (l.drop (gf l).2.1) (hb.drop _) rfl
        rw [List.length_drop] at this
        simp only [List.length_cons]; omega
      · rw [uf_bad l h0 he]; simp
/-- what is answered: none with an error -/
def ur (l : List Int) : List (List Int) := if (uf l).2 = 0 then (uf l).1 else []
theorem ur_zero (l : List Int) (h : (uf l).2 = 0) : ur l = (uf l).1 := if_pos h
theorem ur_err (l : List Int) (h : (uf l).2 ≠ 0) : ur l = [] := if_neg h
theorem ur_bytes (l : List Int) (hb : isB l) : ∀ f ∈ ur l, isB f ∧ f.length ≤ 65536 := by
  unfold ur; split
  · exact uf_bytes l hb
  · simp
theorem ur_len (l : List Int) (hb : isB l) : (ur l).length ≤ l.length := by
  unfold ur; split
  · exact uf_len l hb
  · simp
theorem fields_2 : uf [2, 97, 98, 0] = ([[97, 98], []], 0) := by
  have e1 : gf [2, 97, 98, 0] = ([97, 98], 3, 0) := by decide
  have e2 : gf [0] = ([], 1, 0) := by decide
  rw [uf_ok _ (by simp) (by unfold isB; decide) (by rw [e1]), e1]
  simp only [List.drop]
  rw [uf_ok _ (by simp) (by unfold isB; decide) (by rw [e2]), e2]
  simp only [List.drop]
  rw [uf_nil]
end Go.Proofs.Ytmcfnlfaclkbhaa
