/-
  A LIST OF THINGS OF WHICH EACH IS THERE. Plain mathematics. No condition.
-/
import Derived.Test.YthickhfbllddjaaDoorRows
namespace Go.Proofs.YthickhfbllddjaaDoor
/-- a list of things of which each is there -/
theorem pick {α β : Type} {R : α → β → Prop} : ∀ es : List α, (∀ e ∈ es, ∃ a, R e a) → ∃ l : List β, l.length = es.length ∧ ∀ (i : Nat) (e : α) (a : β), es[i]? = some e → l[i]? = some a → R e a
  | [], _ => ⟨[], rfl, fun i e a he => by simp at he⟩
  | e :: es, h => by
    obtain ⟨a, ha⟩ := h e (List.mem_cons_self ..)
    obtain ⟨l, hl, hr⟩ := pick es fun x hx => h x (List.mem_cons_of_mem _ hx)
    refine ⟨a :: l, by simp [hl], fun i x y hx hy => ?_⟩
    cases i with
    | zero => simp at hx hy; subst hx; subst hy; exact ha
    | succ i => exact hr i x y (by simpa using hx) (by simpa using hy)
end Go.Proofs.YthickhfbllddjaaDoor
