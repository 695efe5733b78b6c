/-
  THE CLOSURE OF Cut (layer 14): it goes on by one piece. GS: where the four variables that it captures lie, and the list under way. No condition.
-/
import Derived.Test.YtepmiooemjjhdaaCutCode
import Derived.Test.YtepmiooemjjhdaaCutList
import Derived.Lib.MinMax
namespace Go.Proofs.Ytepmiooemjjhdaa
open Go.RowKit
/-- the captured variables: the place (g0), from (g1), n (g2), the list (g3); the list's row is the call's own -/
structure GS (B : Nat) (W w : World) (g0 g1 g2 g3 : Nat) (p f n : Int) (v : Value) (m : Nat) (l : List PC) : Prop where
  below : Below B W w
  base : B ≤ W.heap.size
  ge : B ≤ g0 ∧ B ≤ g1 ∧ B ≤ g2 ∧ B ≤ g3
  ne : g0 ≠ g1 ∧ g0 ≠ g2 ∧ g0 ≠ g3 ∧ g1 ≠ g2 ∧ g1 ≠ g3 ∧ g2 ≠ g3
  k0 : w.heap[g0]? = some (.cells #[.int .i64 p] 3 (0, 0))
  k1 : w.heap[g1]? = some (.cells #[.int .i64 f] 3 (0, 0))
  k2 : w.heap[g2]? = some (.cells #[.int .i64 n] 3 (0, 0))
  k3 : w.heap[g3]? = some (.cells #[v] 22 (0, 0))
  own : w.ownsRow B 28 4 v m (pF l)
section
variable {B : Nat} {W w w' : World} {g0 g1 g2 g3 : Nat} {p f n : Int} {v : Value} {m : Nat} {l : List PC}
theorem GS.keep (h : GS B W w g0 g1 g2 g3 p f n v m l) (hb : Below w.heap.size w w') : GS B W w' g0 g1 g2 g3 p f n v m l :=
  have lt {g : Nat} {o : Obj} (hk : w.heap[g]? = some o) : g < w.heap.size := (Array.getElem?_eq_some_iff.1 hk).1
  ⟨h.below.trans (hb.mono (Nat.le_trans h.base h.below.size)), h.base, h.ge, h.ne, (hb.block _ (lt h.k0)).trans h.k0, (hb.block _ (lt h.k1)).trans h.k1, (hb.block _ (lt h.k2)).trans h.k2, (hb.block _ (lt h.k3)).trans h.k3, own_keep h.own hb⟩
theorem GS.cells (h : GS B W w g0 g1 g2 g3 p f n v m l) : w.cell? ⟨g0, 0, none⟩ = some (.int .i64 p) ∧ w.cell? ⟨g1, 0, none⟩ = some (.int .i64 f) ∧ w.cell? ⟨g2, 0, none⟩ = some (.int .i64 n) ∧ w.cell? ⟨g3, 0, none⟩ = some v :=
  ⟨cell_of_row w g0 0 _ _ _ h.k0, cell_of_row w g1 0 _ _ _ h.k1, cell_of_row w g2 0 _ _ _ h.k2, cell_of_row w g3 0 _ _ _ h.k3⟩
theorem GS.frozen (h : GS B W w g0 g1 g2 g3 p f n v m l) : w.frozen? ⟨g0, 0, none⟩ = false ∧ w.frozen? ⟨g1, 0, none⟩ = false ∧ w.frozen? ⟨g3, 0, none⟩ = false :=
  ⟨Joins.unfrozen_of_block h.k0 0, Joins.unfrozen_of_block h.k1 0, Joins.unfrozen_of_block h.k3 0⟩
/-- the list's row is none of the variables -/
theorem own_not {g : Nat} {c : Array Value} {t : TypeId} (hk : w.heap[g]? = some (.cells c t (0, 0))) (ht : t ≠ 28) (h : w.ownsRow B 28 4 v m (pF l)) : some g ≠ v.ownBlock := by
  intro e
  rcases h.2 with ⟨rfl, _⟩ | ⟨q, cap, cur, rfl, _, hcur, _⟩
  · simp [Value.ownBlock] at e
  · simp only [Value.ownBlock, Option.some.injEq] at e
    subst e
    rw [hk] at hcur
    simp only [Option.some.injEq, Obj.cells.injEq] at hcur
    exact ht hcur.2.1
theorem set_apart {g b : Nat} {o : Option Obj} (hk : w.heap[g]? = o) (hne : g ≠ b) (x : Value) : (w.setCell ⟨b, 0, none⟩ x).heap[g]? = o := (heap_setCell_other w ⟨b, 0, none⟩ g x hne).trans hk
theorem grown_set (w : World) (g : Nat) (x : Value) : w.grownBy (w.setCell ⟨g, 0, none⟩ x) (some g) := ⟨rfl, rfl, rfl, by simp, fun i _ hne => heap_setCell_other w ⟨g, 0, none⟩ i x (fun e => hne (by rw [e]))⟩
theorem GS.set0 (h : GS B W w g0 g1 g2 g3 p f n v m l) (p' : Int) : GS B W (w.setCell ⟨g0, 0, none⟩ (.int .i64 p')) g0 g1 g2 g3 p' f n v m l := by
  have hne := h.ne
  exact ⟨bset h.below h.ge.1 h.base 0 _, h.base, h.ge, hne, Joins.block_setCell h.k0 _, set_apart h.k1 (Ne.symm hne.1) _, set_apart h.k2 (Ne.symm hne.2.1) _, set_apart h.k3 (Ne.symm hne.2.2.1) _,
    own_over h.own (grown_set w g0 _) (fun g hg e => own_not h.k0 (by decide) h.own (by rw [hg, e]))⟩
theorem GS.set1 (h : GS B W w g0 g1 g2 g3 p f n v m l) (f' : Int) : GS B W (w.setCell ⟨g1, 0, none⟩ (.int .i64 f')) g0 g1 g2 g3 p f' n v m l := by
  have hne := h.ne
  exact ⟨bset h.below h.ge.2.1 h.base 0 _, h.base, h.ge, hne, set_apart h.k0 hne.1 _, Joins.block_setCell h.k1 _, set_apart h.k2 (Ne.symm hne.2.2.2.1) _, set_apart h.k3 (Ne.symm hne.2.2.2.2.1) _,
    own_over h.own (grown_set w g1 _) (fun g hg e => own_not h.k1 (by decide) h.own (by rw [hg, e]))⟩
/-- the list has grown, and the variable is told -/
theorem GS.turn (h : GS B W w g0 g1 g2 g3 p f n v m l) {v' : Value} {m' : Nat} {l' : List PC} (ho : w'.ownsRow B 28 4 v' m' (pF l')) (hg : w.grownBy w' v.ownBlock) :
    GS B W (w'.setCell ⟨g3, 0, none⟩ v') g0 g1 g2 g3 p f n v' m' l' := by
  have hne := h.ne
  have lt {g : Nat} {o : Obj} (hk : w.heap[g]? = some o) : g < w.heap.size := (Array.getElem?_eq_some_iff.1 hk).1
  have k0 := (hg.block _ (lt h.k0) (own_not h.k0 (by decide) h.own)).trans h.k0
  have k1 := (hg.block _ (lt h.k1) (own_not h.k1 (by decide) h.own)).trans h.k1
  have k2 := (hg.block _ (lt h.k2) (own_not h.k2 (by decide) h.own)).trans h.k2
  have k3 := (hg.block _ (lt h.k3) (own_not h.k3 (by decide) h.own)).trans h.k3
  have hb : Below B W w' := h.below.grown hg (Nat.le_trans h.base h.below.size) (fun q hq => (h.own.lt q hq).1)
  exact ⟨bset hb h.ge.2.2.2 h.base 0 _, h.base, h.ge, hne, set_apart k0 hne.2.2.1 _, set_apart k1 hne.2.2.2.2.1 _, set_apart k2 hne.2.2.2.2.2 _, Joins.block_setCell k3 _,
    own_over ho (grown_set w' g3 _) (fun g hg e => own_not k3 (by decide) ho (by rw [hg, e]))⟩
/-- .. what is seen ahead of that -/
theorem GS.mid (h : GS B W w g0 g1 g2 g3 p f n v m l) (hg : w.grownBy w' v.ownBlock) : w'.cell? ⟨g0, 0, none⟩ = some (.int .i64 p) ∧ w'.cell? ⟨g1, 0, none⟩ = some (.int .i64 f) ∧ w'.cell? ⟨g2, 0, none⟩ = some (.int .i64 n) ∧ w'.cell? ⟨g3, 0, none⟩ = some v ∧ w'.frozen? ⟨g3, 0, none⟩ = false := by
  have lt {g : Nat} {o : Obj} (hk : w.heap[g]? = some o) : g < w.heap.size := (Array.getElem?_eq_some_iff.1 hk).1
  have k0 := (hg.block _ (lt h.k0) (own_not h.k0 (by decide) h.own)).trans h.k0
  have k1 := (hg.block _ (lt h.k1) (own_not h.k1 (by decide) h.own)).trans h.k1
  have k2 := (hg.block _ (lt h.k2) (own_not h.k2 (by decide) h.own)).trans h.k2
  have k3 := (hg.block _ (lt h.k3) (own_not h.k3 (by decide) h.own)).trans h.k3
  exact ⟨cell_of_row w' g0 0 _ _ _ k0, cell_of_row w' g1 0 _ _ _ k1, cell_of_row w' g2 0 _ _ _ k2, cell_of_row w' g3 0 _ _ _ k3, Joins.unfrozen_of_block k3 0⟩
end
end Go.Proofs.Ytepmiooemjjhdaa
