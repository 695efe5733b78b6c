/-
  BYTES OF WHICH SOME, NEXT TO ONE ANOTHER, WERE CHANGED, and their sum: plain mathematics. No condition.
-/
import Derived.Test.YtncnmmillhnhlaaDoorCrcRef
namespace Go.Proofs.YtncnmmillhnhlaaDoor
open Go.RowKit
/-- zs, its bytes from at on replaced by the first k of ws -/
def pat (zs ws : List Int) (at_ : Nat) : Nat → List Int
  | 0 => zs
  | k + 1 => (pat zs ws at_ k).set (at_ + k) (ws.getD k 0)
theorem pat_length (zs ws : List Int) (at_ k : Nat) : (pat zs ws at_ k).length = zs.length := by
  induction k with
  | zero => rfl
  | succ k ih => simp [pat, ih]
theorem pat_bytes (zs ws : List Int) (at_ k : Nat) (hz : ∀ x ∈ zs, 0 ≤ x ∧ x ≤ 255) (hw : ∀ x ∈ ws, 0 ≤ x ∧ x ≤ 255) : ∀ x ∈ pat zs ws at_ k, 0 ≤ x ∧ x ≤ 255 := by
  induction k with
  | zero => exact hz
  | succ k ih =>
    intro x hx
    rcases List.mem_or_eq_of_mem_set hx with h | h
    · exact ih x h
    · subst h; exact (bytes_of_mem hw) k
theorem pat_split (zs ws : List Int) (at_ k : Nat) (h : at_ + k ≤ zs.length) (hk : k ≤ ws.length) : pat zs ws at_ k = zs.take at_ ++ (ws.take k ++ zs.drop (at_ + k)) := by
  induction k with
  | zero => simp [pat]
  | succ k ih =>
    rw [pat, ih (by omega) (by omega), List.set_append_right _ _ (by simp; omega)]
    congr 1
    rw [List.set_append_right _ _ (by simp; omega)]
    have e : at_ + k - (zs.take at_).length - (ws.take k).length = 0 := by simp; omega
    rw [e, drop_getD zs (at_ + k) (by omega), List.set_cons_zero, List.take_succ_eq_append_getElem (by omega : k < ws.length), List.append_assoc, Nat.add_assoc]
    simp [List.getD, show k < ws.length by omega]
/-- a burst is seen -/
theorem pat_of (zs ws : List Int) (at_ k : Nat) (h : at_ + k ≤ zs.length) (hk : k ≤ ws.length) (h4 : k ≤ 4) (hz : ∀ x ∈ zs, 0 ≤ x ∧ x ≤ 255) (hw : ∀ x ∈ ws, 0 ≤ x ∧ x ≤ 255) (e : ofS (pat zs ws at_ k) = ofS zs) : pat zs ws at_ k = zs := by
  have hs := pat_split zs ws at_ k h hk
  have e1 : zs = zs.take at_ ++ ((zs.drop at_).take k ++ zs.drop (at_ + k)) := by
    rw [← List.drop_drop, List.take_append_drop, List.take_append_drop]
  have hb : ∀ l : List Int, (∀ x ∈ l, x ∈ zs) → ∀ x ∈ l, 0 ≤ x ∧ x ≤ 255 := fun l hl x hx => hz x (hl x hx)
  have e2 : ws.take k = (zs.drop at_).take k := by
    refine burst (zs.take at_) _ _ (zs.drop (at_ + k)) (hb _ fun x hx => List.mem_of_mem_take hx) (fun x hx => hw x (List.mem_of_mem_take hx)) (hb _ fun x hx => List.mem_of_mem_drop (List.mem_of_mem_take hx)) (hb _ fun x hx => List.mem_of_mem_drop hx) (by simp; omega) (by simp; omega) ?_
    rw [← hs, ← e1]; exact e
  rw [hs, e2, ← e1]
end Go.Proofs.YtncnmmillhnhlaaDoor
