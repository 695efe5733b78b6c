/-
  LAYER 12 (batch), plain mathematics: a batch (batR), its bytes (batB); bytes come apart into right operations and a rest that stops (empty, or no operation) in one way. No condition.
-/
import Derived.Test.YtmcfnlfaclkbhaaOpMath
import Derived.Test.YtmcfnlfaclkbhaaOpList
namespace Go.Proofs.Ytmcfnlfaclkbhaa
open Go.RowKit
def oR (o : AO) : Bool := opRight o.kind o.key o.val
def oB (o : AO) : List Int := opB o.kind o.key o.val
def batR (l : List AO) : Bool := l.all oR && decide (0 < l.length ∧ l.length ≤ 8)
def batB (l : List AO) : List Int := (l.map oB).flatten
theorem batR_of {l : List AO} (h : batR l = true) : (∀ o ∈ l, oR o = true) ∧ 0 < l.length ∧ l.length ≤ 8 := by
  unfold batR at h
  simp only [Bool.and_eq_true, List.all_eq_true, decide_eq_true_eq] at h
  exact h
theorem batB_snoc (l : List AO) (o : AO) : batB (l ++ [o]) = batB l ++ oB o := by simp [batB]
theorem batB_cons (o : AO) (l : List AO) : batB (o :: l) = oB o ++ batB l := by simp [batB]
theorem batB_bytes {l : List AO} (h : ∀ o ∈ l, oR o = true) : isB (batB l) := by
  intro x hx
  unfold batB at hx
  rw [List.mem_flatten] at hx
  obtain ⟨q, hq, hx⟩ := hx
  obtain ⟨o, ho, rfl⟩ := List.mem_map.1 hq
  exact opB_bytes (h o ho) x hx
theorem batB_len : ∀ {l : List AO}, (∀ o ∈ l, oR o = true) → (batB l).length ≤ l.length * 200
  | [], _ => by simp [batB]
  | o :: l, h => by
    have h1 := batB_len (l := l) fun x hx => h x (List.mem_cons_of_mem _ hx)
    have h2 := (opB_len (h o (List.mem_cons_self ..))).1
    rw [batB_cons, List.length_append, List.length_cons]
    unfold oB; omega
/-- here no operation is read -/
def Stop (rest : List Int) : Prop := rest = [] ∨ (opG rest).2.2 ≠ 0
theorem bat_exists : ∀ (n : Nat) (zs : List Int), zs.length = n → isB zs → ∃ k rest, (∀ o ∈ k, oR o = true) ∧ zs = batB k ++ rest ∧ Stop rest := by
  intro n
  induction n using Nat.strongRecOn with
  | _ n ih =>
    intro zs hn hb
    by_cases h0 : zs = []
    · exact ⟨[], zs, by simp, by simp [batB], .inl h0⟩
    · by_cases he : (opG zs).2.2 = 0
      · obtain ⟨h1, h2, h3, h4⟩ := op_back zs hb he
        obtain ⟨k, rest, g1, g2, g3⟩ := ih (zs.drop (opG zs).2.1).length (by rw [List.length_drop]; omega) _ rfl (fun x hx => hb x (List.mem_of_mem_drop hx))
        refine ⟨⟨(opG zs).1.1, (opG zs).1.2.1, (opG zs).1.2.2⟩ :: k, rest, ?_, ?_, g3⟩
        · intro o ho
          rcases List.mem_cons.1 ho with rfl | ho
          · exact h1
          · exact g1 o ho
        · rw [batB_cons, List.append_assoc, ← g2]
          show zs = opB _ _ _ ++ _
          rw [h2, List.take_append_drop]
      · exact ⟨[], zs, by simp, by simp [batB], .inr he⟩
theorem op_got' {o : AO} (h : oR o = true) (rest : List Int) : opG (oB o ++ rest) = ((o.kind, o.key, o.val), (oB o).length, 0) := op_got h rest
theorem oB_pos {o : AO} (h : oR o = true) : 0 < (oB o).length := (opB_len h).2
theorem bat_go {o : AO} (h : oR o = true) (x : List Int) : ¬ Stop (oB o ++ x) := by
  rintro (h1 | h1)
  · have := oB_pos h
    have h2 := congrArg List.length h1
    rw [List.length_append, List.length_nil] at h2; omega
  · rw [op_got' h] at h1; exact h1 rfl
theorem bat_unique : ∀ (k k' : List AO) (r r' : List Int), (∀ o ∈ k, oR o = true) → (∀ o ∈ k', oR o = true) → batB k ++ r = batB k' ++ r' → Stop r → Stop r' → k = k' ∧ r = r'
  | [], [], r, r', _, _, e, _, _ => ⟨rfl, by simpa [batB] using e⟩
  | [], o :: k', r, r', _, h', e, s, _ => by
    rw [batB_cons, List.append_assoc] at e
    simp [batB] at e
    rw [e] at s
    exact absurd s (bat_go (h' o (List.mem_cons_self ..)) _)
  | o :: k, [], r, r', h, _, e, _, s => by
    rw [batB_cons, List.append_assoc] at e
    simp [batB] at e
    rw [← e] at s
    exact absurd s (bat_go (h o (List.mem_cons_self ..)) _)
  | o :: k, o' :: k', r, r', h, h', e, s, s' => by
    rw [batB_cons, batB_cons, List.append_assoc, List.append_assoc] at e
    have h1 := op_got' (h o (List.mem_cons_self ..)) (batB k ++ r)
    have h2 := op_got' (h' o' (List.mem_cons_self ..)) (batB k' ++ r')
    rw [e, h2] at h1
    simp only [Prod.mk.injEq] at h1
    have ho : o = o' := by
      obtain ⟨k1, s1, t1⟩ := o
      obtain ⟨k2, s2, t2⟩ := o'
      simp only at h1
      obtain ⟨⟨rfl, rfl, rfl⟩, _⟩ := h1
      rfl
    subst ho
    obtain ⟨g1, g2⟩ := bat_unique k k' r r' (fun x hx => h x (List.mem_cons_of_mem _ hx)) (fun x hx => h' x (List.mem_cons_of_mem _ hx)) (List.append_cancel_left e) s s'
    exact ⟨by rw [g1], g2⟩
/-- what a Decode tells of such bytes -/
def batE (k : List AO) (rest : List Int) : Int := if rest = [] then (if batR k = true then 0 else 2) else (opG rest).2.2
def batL (k : List AO) (rest : List Int) : List AO := if rest = [] ∧ batR k = true then k else []
theorem batR_take (k : List AO) (h : ∀ o ∈ k, oR o = true) : batR (k.take 9) = batR k := by
  unfold batR
  have h1 : k.all oR = true := by simpa using h
  have h2 : (k.take 9).all oR = true := by
    rw [List.all_eq_true]; exact fun o ho => h o (List.mem_of_mem_take ho)
  rw [h1, h2, List.length_take]
  congr 1
  rw [decide_eq_decide]; omega
theorem batE_zero {k : List AO} {rest : List Int} (s : Stop rest) (h : batE k rest = 0) : rest = [] ∧ batR k = true := by
  unfold batE at h
  split at h
  · rename_i h0
    split at h
    · rename_i h1; exact ⟨h0, h1⟩
    · omega
  · rename_i h0
    rcases s with s | s
    · exact absurd s h0
    · exact absurd h s
theorem batL_zero {k : List AO} (h : batR k = true) : batL k [] = k ∧ batE k [] = 0 := by unfold batL batE; simp [h]
end Go.Proofs.Ytmcfnlfaclkbhaa
