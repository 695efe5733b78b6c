/-
  STEPS THROUGH A STATEMENT WHOSE ORDER IS OPEN and which calls functions that make memory: small laws over 'wpAnyH': one operation that alone may come up; two calls that may come up in either order and answer the same either way. Nothing here speaks of the program. No condition.
-/
import Derived.WalkKit
import Derived.Deep.RegionHeld3
namespace Go.Proofs.YthickhfbllddjaaDoor
open Go
section
variable {P : Program} {md : Region.Mode} {ops : Array Oper} {Q : Exit → Act → World → Prop} {S : World → Prop}

/-- One operation alone may come up: it is carried out, S is shown anew, and on. -/
theorem rg_one {fuel : Nat} {listed : Array Bool} {a : Act} {w : World} (i : Nat) (o : Oper) (hr : Region.ready md ops listed = [i]) (ho : ops[i]? = some o)
    (h : ∀ K' : Act → World → Prop, Shut (∀ a w, S w → (S w → wpAnyH P md ops Q S fuel (listed.setIfInBounds i true) a w) → K' a w) → if Region.wanted o (yielded ops a.tmps) = true then Oper.wp P o a w K' Q else K' (a.put o.dst undef) w) :
    wpAnyH P md ops Q S (fuel + 1) listed a w :=
  wpAnyH_ready hr (by simp) (AllReadyH.cons ho h AllReadyH.nil)

/-- An operation that, in every world that meets S, leaves v in its slot and a world that meets S. -/
def RgQuiet (P : Program) (ops : Array Oper) (Q : Exit → Act → World → Prop) (S : World → Prop) (o : Oper) (a : Act) (v : Value) : Prop :=
  ∀ w, S w → ∀ K' : Act → World → Prop, Shut (∀ w', S w' → K' (a.put o.dst v) w') → if Region.wanted o (yielded ops a.tmps) = true then Oper.wp P o a w K' Q else K' (a.put o.dst undef) w

/-- Two such operations, and no other, may come up, in either order; their slots are not one. -/
theorem rg_two {fuel : Nat} {listed : Array Bool} {a : Act} {w : World} (i j : Nat) (oi oj : Oper) (vi vj : Value)
    (hr : Region.ready md ops listed = [i, j]) (hri : Region.ready md ops (listed.setIfInBounds i true) = [j]) (hrj : Region.ready md ops (listed.setIfInBounds j true) = [i])
    (hoi : ops[i]? = some oi) (hoj : ops[j]? = some oj) (hS : S w)
    (hi : RgQuiet P ops Q S oi a vi) (hj : RgQuiet P ops Q S oj (a.put oi.dst vi) vj)
    (hj2 : RgQuiet P ops Q S oj a vj) (hi2 : RgQuiet P ops Q S oi (a.put oj.dst vj) vi)
    (hc : (a.put oj.dst vj).put oi.dst vi = (a.put oi.dst vi).put oj.dst vj)
    (h : ∀ w', S w' → wpAnyH P md ops Q S fuel ((listed.setIfInBounds i true).setIfInBounds j true) ((a.put oi.dst vi).put oj.dst vj) w') :
    wpAnyH P md ops Q S (fuel + 2) listed a w := by
  have hne : i ≠ j := fun e => by subst e; have h1 := hri; rw [← hrj] at h1; have := congrArg List.length (hr); have h3 : i ∈ Region.ready md ops (listed.setIfInBounds i true) := by rw [hri]; simp
                                  simp [Region.ready] at h3
  refine wpAnyH_ready hr (by simp) (AllReadyH.cons hoi (fun K hK => hi w hS K fun w1 h1 => hK _ _ h1 fun _ => ?_) (AllReadyH.cons hoj (fun K hK => hj2 w hS K fun w1 h1 => hK _ _ h1 fun _ => ?_) AllReadyH.nil))
  · exact wpAnyH_ready hri (by simp) (AllReadyH.cons hoj (fun K hK => hj w1 h1 K fun w2 h2 => hK _ _ h2 fun _ => h w2 h2) AllReadyH.nil)
  · refine wpAnyH_ready hrj (by simp) (AllReadyH.cons hoi (fun K hK => hi2 w1 h1 K fun w2 h2 => hK _ _ h2 fun _ => ?_) AllReadyH.nil)
    rw [hc, Array.setIfInBounds_comm _ _ (Ne.symm hne)]
    exact h w2 h2

/-- Two operations, and no other, may come up: each of them first. -/
theorem rg_both {fuel : Nat} {listed : Array Bool} {a : Act} {w : World} (i j : Nat) (oi oj : Oper) (hr : Region.ready md ops listed = [i, j]) (hoi : ops[i]? = some oi) (hoj : ops[j]? = some oj)
    (hi : ∀ K' : Act → World → Prop, Shut (∀ a w, S w → (S w → wpAnyH P md ops Q S fuel (listed.setIfInBounds i true) a w) → K' a w) → if Region.wanted oi (yielded ops a.tmps) = true then Oper.wp P oi a w K' Q else K' (a.put oi.dst undef) w)
    (hj : ∀ K' : Act → World → Prop, Shut (∀ a w, S w → (S w → wpAnyH P md ops Q S fuel (listed.setIfInBounds j true) a w) → K' a w) → if Region.wanted oj (yielded ops a.tmps) = true then Oper.wp P oj a w K' Q else K' (a.put oj.dst undef) w) :
    wpAnyH P md ops Q S (fuel + 1) listed a w :=
  wpAnyH_ready hr (by simp) (AllReadyH.cons hoi hi (AllReadyH.cons hoj hj AllReadyH.nil))
/-- Three operations, and no other, may come up: each of them first. -/
theorem rg_three {fuel : Nat} {listed : Array Bool} {a : Act} {w : World} (i j k : Nat) (oi oj ok : Oper) (hr : Region.ready md ops listed = [i, j, k]) (hoi : ops[i]? = some oi) (hoj : ops[j]? = some oj) (hok : ops[k]? = some ok)
    (hi : ∀ K' : Act → World → Prop, Shut (∀ a w, S w → (S w → wpAnyH P md ops Q S fuel (listed.setIfInBounds i true) a w) → K' a w) → if Region.wanted oi (yielded ops a.tmps) = true then Oper.wp P oi a w K' Q else K' (a.put oi.dst undef) w)
    (hj : ∀ K' : Act → World → Prop, Shut (∀ a w, S w → (S w → wpAnyH P md ops Q S fuel (listed.setIfInBounds j true) a w) → K' a w) → if Region.wanted oj (yielded ops a.tmps) = true then Oper.wp P oj a w K' Q else K' (a.put oj.dst undef) w)
    (hk : ∀ K' : Act → World → Prop, Shut (∀ a w, S w → (S w → wpAnyH P md ops Q S fuel (listed.setIfInBounds k true) a w) → K' a w) → if Region.wanted ok (yielded ops a.tmps) = true then Oper.wp P ok a w K' Q else K' (a.put ok.dst undef) w) :
    wpAnyH P md ops Q S (fuel + 1) listed a w :=
  wpAnyH_ready hr (by simp) (AllReadyH.cons hoi hi (AllReadyH.cons hoj hj (AllReadyH.cons hok hk AllReadyH.nil)))
/-- From here on more is kept than was said at the beginning. -/
theorem rg_strong {S' : World → Prop} (hs : ∀ w, S' w → S w) : ∀ (fuel : Nat) (listed : Array Bool) (a : Act) (w : World), wpAnyH P md ops Q S' fuel listed a w → wpAnyH P md ops Q S fuel listed a w
  | 0, _, _, _, h => h
  | fuel + 1, _, _, _, h => ⟨h.1, fun i hi => wpOp_mono (fun a' w' h' => ⟨hs w' h'.1, rg_strong hs fuel _ a' w' h'.2⟩) (h.2 i hi)⟩
end
end Go.Proofs.YthickhfbllddjaaDoor
