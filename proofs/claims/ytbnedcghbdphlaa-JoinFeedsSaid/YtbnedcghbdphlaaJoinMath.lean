/-
  WHAT A JOINER DOES (layer 15), as plain functions: what a fragment's kind, and its bytes, turn of what came; what a list of fragments comes to. Plain mathematics. No condition.
-/
import Derived.Test.YtbnedcghbdphlaaFR
import Derived.Test.YtbnedcghbdphlaaIsB
namespace Go.Proofs.Ytbnedcghbdphlaa
/-- whether a fragment of kind k may come, where a record is begun (o), or none -/
def jFit (o : Bool) (k : Int) : Bool := if o = true then decide (k = 3 ∨ k = 4) else decide (k = 1 ∨ k = 2)
def jErr (o : Bool) (h : List Int) (k : Int) (d : List Int) : Int := if jFit o k = true then (if h.length + d.length > 512 then 5 else 0) else 2
def jLast (k : Int) : Bool := decide (k = 1 ∨ k = 4)
def jEnds (o : Bool) (h : List Int) (k : Int) (d : List Int) : Bool := decide (jErr o h k d = 0) && jLast k
def jGoes (o : Bool) (h : List Int) (k : Int) (d : List Int) : Bool := decide (jErr o h k d = 0) && !jLast k
def jHad (o : Bool) (h : List Int) (k : Int) (d : List Int) : List Int := if jGoes o h k d = true then h ++ d else []
def jTell (o : Bool) (h : List Int) (k : Int) (d : List Int) : List Int := if jEnds o h k d = true then h ++ d else []
section
variable {o : Bool} {h : List Int} {k : Int} {d : List Int}
theorem j_wrong (hf : jFit o k = false) : jErr o h k d = 2 ∧ jEnds o h k d = false ∧ jGoes o h k d = false ∧ jHad o h k d = [] ∧ jTell o h k d = [] := by
  have e : jErr o h k d = 2 := by unfold jErr; rw [hf]; simp
  simp [jEnds, jGoes, jHad, jTell, e]
theorem j_long (hf : jFit o k = true) (hl : h.length + d.length > 512) : jErr o h k d = 5 ∧ jEnds o h k d = false ∧ jGoes o h k d = false ∧ jHad o h k d = [] ∧ jTell o h k d = [] := by
  have e : jErr o h k d = 5 := by unfold jErr; rw [hf]; simp [hl]
  simp [jEnds, jGoes, jHad, jTell, e]
theorem j_ends (hf : jFit o k = true) (hl : ¬ h.length + d.length > 512) (hk : jLast k = true) : jErr o h k d = 0 ∧ jEnds o h k d = true ∧ jGoes o h k d = false ∧ jHad o h k d = [] ∧ jTell o h k d = h ++ d := by
  have e : jErr o h k d = 0 := by unfold jErr; rw [hf]; simp [hl]
  simp [jEnds, jGoes, jHad, jTell, e, hk]
theorem j_goes (hf : jFit o k = true) (hl : ¬ h.length + d.length > 512) (hk : jLast k = false) : jErr o h k d = 0 ∧ jEnds o h k d = false ∧ jGoes o h k d = true ∧ jHad o h k d = h ++ d ∧ jTell o h k d = [] := by
  have e : jErr o h k d = 0 := by unfold jErr; rw [hf]; simp [hl]
  simp [jEnds, jGoes, jHad, jTell, e, hk]
theorem jHad_le : (jHad o h k d).length ≤ 512 := by
  unfold jHad
  split
  · rename_i hg
    unfold jGoes jErr at hg
    simp only [Bool.and_eq_true, decide_eq_true_eq] at hg
    have h1 := hg.1
    split at h1
    · split at h1
      · omega
      · simp; omega
    · omega
  · simp
theorem jTell_le : (jTell o h k d).length ≤ 512 := by
  unfold jTell
  split
  · rename_i hg
    unfold jEnds jErr at hg
    simp only [Bool.and_eq_true, decide_eq_true_eq] at hg
    have h1 := hg.1
    split at h1
    · split at h1
      · omega
      · simp; omega
    · omega
  · simp
theorem jHad_nil (hg : jGoes o h k d = false) : jHad o h k d = [] := by unfold jHad; rw [hg]; rfl
theorem jGoes_ends (he : jEnds o h k d = true) : jGoes o h k d = false := by
  unfold jEnds at he; unfold jGoes
  simp only [Bool.and_eq_true] at he
  rw [he.2]; simp
theorem jTell_isB (h1 : isB h) (h2 : isB d) : isB (jTell o h k d) := by
  by_cases h : jEnds o h k d = true
  · unfold jTell; rw [if_pos h]; exact h1.append h2
  · unfold jTell; rw [if_neg h]; exact isB.nil
theorem jHad_isB (h1 : isB h) (h2 : isB d) : isB (jHad o h k d) := by
  by_cases h : jGoes o h k d = true
  · unfold jHad; rw [if_pos h]; exact h1.append h2
  · unfold jHad; rw [if_neg h]; exact isB.nil
theorem jErr_cases : jErr o h k d = 0 ∨ jErr o h k d = 2 ∨ jErr o h k d = 5 := by
  unfold jErr; split
  · split <;> simp
  · simp
end
/-- what a list of fragments comes to: the records behind those that are there, and the error -/
def jRun : Bool → List Int → List (List Int) → List FR → List (List Int) × Int
  | o, _, acc, [] => if o = true then ([], 1) else (acc, 0)
  | o, h, acc, f :: r => if jErr o h f.kind f.data = 0 then jRun (jGoes o h f.kind f.data) (jHad o h f.kind f.data) (if jEnds o h f.kind f.data = true then acc ++ [jTell o h f.kind f.data] else acc) r else ([], jErr o h f.kind f.data)
theorem jRun_cons (o : Bool) (h : List Int) (acc : List (List Int)) (f : FR) (r : List FR) (he : jErr o h f.kind f.data = 0) :
    jRun o h acc (f :: r) = jRun (jGoes o h f.kind f.data) (jHad o h f.kind f.data) (if jEnds o h f.kind f.data = true then acc ++ [jTell o h f.kind f.data] else acc) r := by
  show (if _ then _ else _) = _; rw [if_pos he]
theorem jRun_bad (o : Bool) (h : List Int) (acc : List (List Int)) (f : FR) (r : List FR) (he : ¬ jErr o h f.kind f.data = 0) : jRun o h acc (f :: r) = ([], jErr o h f.kind f.data) := by
  show (if _ then _ else _) = _; rw [if_neg he]
theorem jRun_isB : ∀ (l : List FR) (o : Bool) (h : List Int) (acc : List (List Int)), isB h → (∀ x ∈ acc, isB x) → (∀ f ∈ l, isB f.data) → ∀ x ∈ (jRun o h acc l).1, isB x
  | [], o, h, acc, _, ha, _ => by
    intro x hx
    unfold jRun at hx
    cases o with
    | true => simp at hx
    | false => exact ha x (by simpa using hx)
  | f :: r, o, h, acc, hh, ha, hl => by
    by_cases he : jErr o h f.kind f.data = 0
    · rw [jRun_cons _ _ _ _ _ he]
      have hf := hl f (List.mem_cons_self ..)
      refine jRun_isB r _ _ _ (jHad_isB hh hf) (fun x hx => ?_) (fun g hg => hl g (List.mem_cons_of_mem _ hg))
      split at hx
      · rcases List.mem_append.1 hx with hx | hx
        · exact ha x hx
        · obtain rfl : x = _ := by simpa using hx
          exact jTell_isB hh hf
      · exact ha x hx
    · rw [jRun_bad _ _ _ _ _ he]; intro x hx; simp at hx
end Go.Proofs.Ytbnedcghbdphlaa
