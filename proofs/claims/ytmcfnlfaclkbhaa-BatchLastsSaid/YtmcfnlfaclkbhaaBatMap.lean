/-
  LAYER 12 (batch), plain mathematics of Last: one operation put into a list whose keys rise (ins); the last ones of all (lastOf); how the reference's inner loop comes to it (stepF); operations as elements of a map (opE). No condition.
-/
import Derived.Test.YtmcfnlfaclkbhaaBatList
import Derived.Test.YtmcfnlfaclkbhaaMapG
namespace Go.Proofs.Ytmcfnlfaclkbhaa
open Go.RowKit Go.Maps Go.WideMaps
abbrev AO.nm (o : AO) : ByteArray := o.key
abbrev zO : AO := ⟨0, ⟨#[]⟩, ⟨#[]⟩⟩
def opDat (o : AO) : DataW Unit := if o = zO then .nil else .agg [.lit (.int .i64 o.kind), .lit (.string o.key.data.toList), .lit (.string o.val.data.toList)]
def opRd (v : Value) : Option (DataW Unit × List MemPlace) :=
  match v with
  | .agg a => match a.toList with
    | [.int .i64 k, .string s, .string t] => some (opDat ⟨k, s, t⟩, [])
    | _ => none
  | _ => none
theorem bytes_eq {s t : ByteArray} (h : s.data.toList = t.data.toList) : s = t := by
  cases s; cases t; simp at h; simpa using h
theorem opDat_inj {x y : AO} (h : opDat x = opDat y) : x = y := by
  unfold opDat at h
  split at h <;> split at h
  · rename_i h1 h2; rw [h1, h2]
  · simp at h
  · simp at h
  · simp only [DataW.agg.injEq, List.cons.injEq, DataW.lit.injEq, Lit.int.injEq, Lit.string.injEq, true_and, and_true] at h
    obtain ⟨h1, h2, h3⟩ := h
    obtain ⟨k, s, t⟩ := x
    obtain ⟨k', s', t'⟩ := y
    simp only at h1 h2 h3
    rw [h1, bytes_eq h2, bytes_eq h3]
theorem opDat_zero : opDat zO = .nil := by unfold opDat; rw [if_pos rfl]
theorem opRd_inv {v : Value} {x : AO} {ps : List MemPlace} (h : opRd v = some (opDat x, ps)) : v = opV x := by
  unfold opRd at h
  split at h
  · rename_i a
    split at h
    · rename_i k s t ha
      simp only [Option.some.injEq, Prod.mk.injEq] at h
      have := opDat_inj h.1
      subst this
      obtain ⟨q⟩ := a
      simp only at ha
      rw [ha]
    · simp at h
  · simp at h
theorem opE : ElemR opV (opV zO) opRd opDat where
  lit x := rfl
  nil := by show some (opDat zO, []) = _; rw [opDat_zero]
  inv := fun h => opRd_inv h
  inv_nil := fun h => opRd_inv (by rw [opDat_zero]; exact h)
/-- keys rise -/
def AscK (m : List AO) : Prop := m.Pairwise fun a b => gtN b.key a.key = true
def ins (m : List AO) (o : AO) : List AO := inBy AO.nm (outBy AO.nm m o.key) o
theorem out_self {m : List AO} {s : ByteArray} (h : ∀ y ∈ m, gtN y.key s = true) : outBy AO.nm m s = m := by
  unfold outBy
  rw [List.filter_eq_self]
  intro y hy
  rw [Bool.not_eq_true', decide_eq_false_iff_not]
  exact gtN_ne (h y hy)
theorem in_front {m : List AO} {o : AO} (h : ∀ y ∈ m, gtN y.key o.key = true) : inBy AO.nm m o = o :: m := by
  unfold inBy
  cases m with
  | nil => rfl
  | cons y r => rw [List.findIdx_cons, h y (List.mem_cons_self ..)]; rfl
theorem gtN_irr (s : ByteArray) : gtN s s = false := by
  cases h : gtN s s with
  | false => rfl
  | true => exact absurd rfl (gtN_ne h)
theorem gtN_asym {a b : ByteArray} (h : gtN a b = true) : gtN b a = false := by
  cases h2 : gtN b a with
  | false => rfl
  | true => have := gtN_trans h h2; rw [gtN_irr] at this; exact absurd this (by simp)
theorem ins_nil (o : AO) : ins [] o = [o] := rfl
theorem ins_eq {y o : AO} {r : List AO} (ha : AscK (y :: r)) (h : y.key = o.key) : ins (y :: r) o = o :: r := by
  have h1 : ∀ z ∈ r, gtN z.key o.key = true := fun z hz => by rw [← h]; exact (List.pairwise_cons.1 ha).1 z hz
  unfold ins
  have : outBy AO.nm (y :: r) o.key = outBy AO.nm r o.key := by unfold outBy; rw [List.filter_cons, if_neg (by simp [AO.nm, h])]
  rw [this, out_self h1, in_front h1]
theorem ins_gt {y o : AO} {r : List AO} (ha : AscK (y :: r)) (h : gtN y.key o.key = true) : ins (y :: r) o = o :: y :: r := by
  have h1 : ∀ z ∈ y :: r, gtN z.key o.key = true := fun z hz => by
    rcases List.mem_cons.1 hz with rfl | hz
    · exact h
    · exact gtN_trans ((List.pairwise_cons.1 ha).1 z hz) h
  unfold ins
  rw [out_self h1, in_front h1]
theorem ins_lt {y o : AO} {r : List AO} (h : gtN o.key y.key = true) : ins (y :: r) o = y :: ins r o := by
  have hne : ¬ y.key = o.key := fun e => gtN_ne h e.symm
  have : outBy AO.nm (y :: r) o.key = y :: outBy AO.nm r o.key := by unfold outBy; rw [List.filter_cons, if_pos (by simp [AO.nm, hne])]
  unfold ins
  rw [this]
  unfold inBy
  rw [List.findIdx_cons, gtN_asym h]
  simp
/-- of two keys -/
theorem key_three (a b : ByteArray) : a = b ∨ gtN a b = true ∨ gtN b a = true := by
  by_cases h : a = b
  · exact .inl h
  · cases h2 : gtN a b with
    | true => exact .inr (.inl rfl)
    | false => exact .inr (.inr (gtN_total h2 h))
theorem ins_mem {o z : AO} : ∀ {m : List AO}, AscK m → z ∈ ins m o → z = o ∨ z ∈ m
  | [], _, h => by rw [ins_nil] at h; simp at h; exact .inl h
  | y :: r, ha, h => by
    rcases key_three y.key o.key with h1 | h1 | h1
    · rw [ins_eq ha h1] at h
      rcases List.mem_cons.1 h with h | h
      · exact .inl h
      · exact .inr (List.mem_cons_of_mem _ h)
    · rw [ins_gt ha h1] at h
      rcases List.mem_cons.1 h with h | h
      · exact .inl h
      · exact .inr h
    · rw [ins_lt h1] at h
      rcases List.mem_cons.1 h with h | h
      · exact .inr (by rw [h]; exact List.mem_cons_self ..)
      · rcases ins_mem (List.pairwise_cons.1 ha).2 h with h | h
        · exact .inl h
        · exact .inr (List.mem_cons_of_mem _ h)
theorem ins_asc {o : AO} : ∀ {m : List AO}, AscK m → AscK (ins m o)
  | [], _ => by rw [ins_nil]; exact List.pairwise_singleton _ _
  | y :: r, ha => by
    obtain ⟨h2, h3⟩ := List.pairwise_cons.1 ha
    rcases key_three y.key o.key with h1 | h1 | h1
    · rw [ins_eq ha h1]
      exact List.pairwise_cons.2 ⟨fun z hz => by rw [← h1]; exact h2 z hz, h3⟩
    · rw [ins_gt ha h1]
      refine List.pairwise_cons.2 ⟨fun z hz => ?_, ha⟩
      rcases List.mem_cons.1 hz with rfl | hz
      · exact h1
      · exact gtN_trans (h2 z hz) h1
    · rw [ins_lt h1]
      refine List.pairwise_cons.2 ⟨fun z hz => ?_, ins_asc h3⟩
      rcases ins_mem h3 hz with rfl | hz
      · exact h1
      · exact h2 z hz
theorem ins_len {o : AO} : ∀ {m : List AO}, AscK m → (ins m o).length ≤ m.length + 1
  | [], _ => by rw [ins_nil]; simp
  | y :: r, ha => by
    rcases key_three y.key o.key with h1 | h1 | h1
    · rw [ins_eq ha h1]; simp
    · rw [ins_gt ha h1]; simp
    · rw [ins_lt h1]; have := ins_len (o := o) (List.pairwise_cons.1 ha).2; simp; omega
/-- of each key the last one -/
def lastOf (l : List AO) : List AO := l.foldl ins []
theorem lastOf_snoc (l : List AO) (o : AO) : lastOf (l ++ [o]) = ins (lastOf l) o := by unfold lastOf; rw [List.foldl_append]; rfl
theorem fold_asc : ∀ (l m : List AO), AscK m → AscK (l.foldl ins m)
  | [], _, h => h
  | _ :: l, _, h => fold_asc l _ (ins_asc h)
theorem lastOf_asc (l : List AO) : AscK (lastOf l) := fold_asc l [] List.Pairwise.nil
theorem fold_len : ∀ (l m : List AO), AscK m → (l.foldl ins m).length ≤ m.length + l.length
  | [], _, _ => by simp
  | o :: l, m, h => by
    have h1 := fold_len l _ (ins_asc (o := o) h)
    have h2 := ins_len (o := o) h
    simp only [List.foldl_cons, List.length_cons]; omega
theorem lastOf_len (l : List AO) : (lastOf l).length ≤ l.length := by have := fold_len l [] List.Pairwise.nil; simpa [lastOf] using this
theorem fold_mem {z : AO} : ∀ (l m : List AO), AscK m → z ∈ l.foldl ins m → z ∈ m ∨ z ∈ l
  | [], _, _, h => .inl h
  | o :: l, m, h, hz => by
    rcases fold_mem l _ (ins_asc h) hz with h1 | h1
    · rcases ins_mem h h1 with rfl | h1
      · exact .inr (List.mem_cons_self ..)
      · exact .inl h1
    · exact .inr (List.mem_cons_of_mem _ h1)
theorem lastOf_mem {l : List AO} {z : AO} (h : z ∈ lastOf l) : z ∈ l := by
  rcases fold_mem l [] List.Pairwise.nil h with h | h
  · simp at h
  · exact h
theorem ins_end {o : AO} : ∀ {m : List AO}, (∀ y ∈ m, gtN o.key y.key = true) → ins m o = m ++ [o]
  | [], _ => rfl
  | y :: r, h => by rw [ins_lt (h y (List.mem_cons_self ..)), ins_end fun z hz => h z (List.mem_cons_of_mem _ hz)]; rfl
theorem fold_self : ∀ (l m : List AO), AscK (m ++ l) → l.foldl ins m = m ++ l
  | [], m, _ => by simp
  | o :: l, m, h => by
    have h1 : ∀ y ∈ m, gtN o.key y.key = true := fun y hy => (List.pairwise_append.1 h).2.2 y hy o (List.mem_cons_self ..)
    rw [List.foldl_cons, ins_end h1, fold_self l (m ++ [o]) (by rw [List.append_assoc]; exact h), List.append_assoc]; rfl
/-- Last of Last is Last -/
theorem lastOf_twice (l : List AO) : lastOf (lastOf l) = lastOf l := fold_self _ [] (by rw [List.nil_append]; exact lastOf_asc l)
/-! the reference's inner loop -/
def stepF (o : AO) (s : List AO × Bool) (y : AO) : List AO × Bool :=
  let s' := if s.2 = false ∧ gtN o.key y.key = false then (s.1 ++ [o], true) else s
  (if y.key = o.key then s'.1 else s'.1 ++ [y], s'.2)
def endF (o : AO) (s : List AO × Bool) : List AO := if s.2 = true then s.1 else s.1 ++ [o]
theorem stepF_put (o : AO) : ∀ (r acc : List AO), (∀ y ∈ r, gtN y.key o.key = true) → r.foldl (stepF o) (acc, true) = (acc ++ r, true)
  | [], acc, _ => by simp
  | y :: r, acc, h => by
    have hy := gtN_ne (h y (List.mem_cons_self ..))
    rw [List.foldl_cons]
    have e : stepF o (acc, true) y = (acc ++ [y], true) := by unfold stepF; simp [hy]
    rw [e, stepF_put o r _ fun z hz => h z (List.mem_cons_of_mem _ hz), List.append_assoc]; rfl
theorem stepF_ins (o : AO) : ∀ (r acc : List AO), AscK r → endF o (r.foldl (stepF o) (acc, false)) = acc ++ ins r o
  | [], acc, _ => by rw [ins_nil]; rfl
  | y :: r, acc, ha => by
    obtain ⟨h2, h3⟩ := List.pairwise_cons.1 ha
    rw [List.foldl_cons]
    rcases key_three y.key o.key with h1 | h1 | h1
    · rw [ins_eq ha h1]
      have e : stepF o (acc, false) y = (acc ++ [o], true) := by unfold stepF; simp [h1, gtN_irr]
      rw [e, stepF_put o r _ fun z hz => by rw [← h1]; exact h2 z hz]
      simp [endF]
    · rw [ins_gt ha h1]
      have e : stepF o (acc, false) y = (acc ++ [o] ++ [y], true) := by unfold stepF; simp [gtN_asym h1, gtN_ne h1]
      rw [e, stepF_put o r _ fun z hz => gtN_trans (h2 z hz) h1]
      simp [endF]
    · rw [ins_lt h1]
      have hne : ¬ y.key = o.key := fun e => gtN_ne h1 e.symm
      have e : stepF o (acc, false) y = (acc ++ [y], false) := by unfold stepF; simp [h1, hne]
      rw [e, stepF_ins o r _ h3]
      simp
/-- the first so many of it -/
def nextF (o : AO) (out : List AO) (k : Nat) : List AO × Bool := (out.take k).foldl (stepF o) ([], false)
theorem nextF_zero (o : AO) (out : List AO) : nextF o out 0 = ([], false) := rfl
theorem nextF_succ (o : AO) (out : List AO) (k : Nat) (y : AO) (hy : out[k]? = some y) : nextF o out (k + 1) = stepF o (nextF o out k) y := by
  unfold nextF
  rw [take_next hy, List.foldl_append]; rfl
theorem nextF_end (o : AO) (out : List AO) (ha : AscK out) (k : Nat) (hk : out.length ≤ k) : endF o (nextF o out k) = ins out o := by
  unfold nextF
  rw [List.take_of_length_le hk, stepF_ins o out [] ha]; rfl
theorem stepF_len (o : AO) (s : List AO × Bool) (y : AO) : (stepF o s y).1.length ≤ s.1.length + 2 := by
  unfold stepF
  split <;> simp <;> split <;> simp <;> omega
theorem nextF_len (o : AO) (out : List AO) : ∀ k, k ≤ out.length → (nextF o out k).1.length ≤ 2 * k
  | 0, _ => by rw [nextF_zero]; simp
  | k + 1, h => by
    rw [nextF_succ o out k _ (List.getElem?_eq_getElem (by omega))]
    have h1 := stepF_len o (nextF o out k) (out[k]'(by omega))
    have h2 := nextF_len o out k (by omega)
    omega
end Go.Proofs.Ytmcfnlfaclkbhaa
