/-
  A VIEW OF A WORLD without some blocks and without the rows of one type that a call makes: what is told of the rest stays while such a row grows. Nothing here speaks of the program. No condition.
-/
import Derived.Test.YtdadeloojblekaaView
namespace Go.Proofs.Ytdadeloojblekaa
open Go.RowKit
/-! a view without F's blocks and without rows of type T from B on -/
def hasT (T : TypeId) : Obj → Bool
  | .cells _ t _ => decide (t = T)
  | _ => false
def tmask (F : Nat → Bool) (B : Nat) (T : TypeId) (w : World) : World :=
  { w with heap := w.heap.mapIdx fun k o => bif F k || (decide (B ≤ k) && hasT T o) then .cells #[] 0 (0, 0) else o }
theorem tmask_heap (F : Nat → Bool) (B : Nat) (T : TypeId) (w : World) (k : Nat) : (tmask F B T w).heap[k]? = (w.heap[k]?).map fun o => bif F k || (decide (B ≤ k) && hasT T o) then .cells #[] 0 (0, 0) else o := by
  simp [tmask]
theorem tmask_cell {F : Nat → Bool} {B : Nat} {T : TypeId} {w : World} {a : Addr} {v : Value} (h : (tmask F B T w).cell? a = some v) :
    ∃ o, w.heap[a.block]? = some o ∧ F a.block = false ∧ (B ≤ a.block → hasT T o = false) ∧ w.cell? a = some v := by
  unfold World.cell? at h
  rw [tmask_heap] at h
  cases hq : w.heap[a.block]? with
  | none => simp [hq] at h
  | some o =>
    cases hf : (F a.block || (decide (B ≤ a.block) && hasT T o)) with
    | true => simp [hq, hf] at h
    | false =>
      simp only [Bool.or_eq_false_iff, Bool.and_eq_false_iff, decide_eq_false_iff_not] at hf
      refine ⟨o, rfl, hf.1, fun hb => ?_, ?_⟩
      · rcases hf.2 with h1 | h1
        · exact absurd hb h1
        · exact h1
      · have hf' : (F a.block || (decide (B ≤ a.block) && hasT T o)) = false := by
          simp only [Bool.or_eq_false_iff, Bool.and_eq_false_iff, decide_eq_false_iff_not]; exact hf
        unfold World.cell?
        rw [hq]
        simpa [hq, hf'] using h
theorem tmask_of {F : Nat → Bool} {B : Nat} {T : TypeId} {w : World} {a : Addr} {v : Value} {o : Obj} (ho : w.heap[a.block]? = some o) (hf : F a.block = false) (ht : B ≤ a.block → hasT T o = false) (h : w.cell? a = some v) : (tmask F B T w).cell? a = some v := by
  unfold World.cell? at h ⊢
  rw [tmask_heap, ho]
  have : (F a.block || (decide (B ≤ a.block) && hasT T o)) = false := by
    rw [hf]
    by_cases hb : B ≤ a.block
    · rw [ht hb]; simp
    · simp [hb]
  simp only [Option.map_some, this, cond_false]
  rw [ho] at h
  exact h
theorem tmask_mask (F : Nat → Bool) (B : Nat) (T : TypeId) (w : World) : Kin (tmask F B T w) (mask F w) := by
  intro a v h
  obtain ⟨o, ho, hf, _, hc⟩ := tmask_cell h
  unfold World.cell? at hc ⊢
  rw [mask_heap, ho]
  rw [ho] at hc
  simpa [hf] using hc
theorem tmask_below {F : Nat → Bool} {B : Nat} {T : TypeId} {w w' : World} (hb : Below w.heap.size w w') : Kin (tmask F B T w) (tmask F B T w') := by
  intro a v h
  obtain ⟨o, ho, hf, ht, hc⟩ := tmask_cell h
  have hlt := (Array.getElem?_eq_some_iff.1 ho).1
  exact tmask_of (by rw [hb.block _ hlt]; exact ho) hf ht (cell_keep hb hc)
/-- .. where a row of type T grows -/
theorem tmask_grown {F : Nat → Bool} {B : Nat} {T : TypeId} {w w' : World} {base size : Nat} {v : Value} {n : Nat} {xs : List Value} (hown : w.ownsRow base T size v n xs) (hB : B ≤ base) (hg : w.grownBy w' v.ownBlock) : Kin (tmask F B T w) (tmask F B T w') := by
  intro a u h
  obtain ⟨o, ho, hf, ht, hc⟩ := tmask_cell h
  have hlt := (Array.getElem?_eq_some_iff.1 ho).1
  have hne : some a.block ≠ v.ownBlock := by
    intro e
    rcases hown.2 with ⟨rfl, _⟩ | ⟨q, cap, cur, rfl, hq, hcur, _⟩
    · simp [Value.ownBlock] at e
    · simp only [Value.ownBlock, Option.some.injEq] at e
      rw [e, hcur] at ho
      obtain rfl := Option.some.inj ho
      have := ht (by omega)
      simp [hasT] at this
  have hbl := hg.block _ hlt hne
  refine tmask_of (by rw [hbl]; exact ho) hf ht ?_
  unfold World.cell? at hc ⊢
  rw [hbl]; exact hc
/-- a row of another type, that the call made, is seen -/
theorem own_tmask {F : Nat → Bool} {B : Nat} {T : TypeId} {w : World} {base : Nat} {e : TypeId} {size : Nat} {v : Value} {n : Nat} {xs : List Value} (hF : Foot F base) (hne : e ≠ T) (h : w.ownsRow base e size v n xs) : (tmask F B T w).ownsRow base e size v n xs := by
  refine ⟨h.1, ?_⟩
  rcases h.2 with h2 | ⟨g, cap, cur, hv, hg, hcur, h3⟩
  · exact .inl h2
  · refine .inr ⟨g, cap, cur, hv, hg, ?_, h3⟩
    have hf : F g = false := by
      cases hq : F g with
      | false => rfl
      | true => have := hF g hq; omega
    rw [tmask_heap, hcur]; simp [hf, hasT, hne]
end Go.Proofs.Ytdadeloojblekaa
