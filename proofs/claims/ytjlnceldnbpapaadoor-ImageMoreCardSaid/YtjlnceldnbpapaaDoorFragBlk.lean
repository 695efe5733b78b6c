/-
  A FRAGMENT IN A BLOCK: its cells, what stays and what changes, loads. Nothing here speaks of the program's functions. No condition.
-/
import Derived.Test.YtjlnceldnbpapaaDoorInfo
import Derived.Test.YtjlnceldnbpapaaDoorBelow
import Derived.Test.YtjlnceldnbpapaaDoorKeep
import Derived.Test.YtjlnceldnbpapaaDoorRegion
namespace Go.Proofs.YtjlnceldnbpapaaDoor
open Go.RowKit
abbrev fA (k e : Int) (v : Value) : Array Value := #[.int .i64 k, .int .u32 e, v]
theorem fr_info (c : Array Value) (h : c.size = 3) : (Tryd.prog.info? 63).map (·.size) = some c.size := by rw [h]; kernel_rfl
theorem fr_one (k e : Int) (a : Option Addr) (n m : Nat) : (fA k e (.slice a n m)).all (·.oneCell') = true := by simp [fA, Value.oneCell']
/-- the block b holds a fragment, its data's slice is v -/
def FO (w : World) (b : Nat) (k e : Int) (v : Value) : Prop := w.heap[b]? = some (.cells (fA k e v) 63 (0, 0))
section
variable {w w' : World} {b b' : Nat} {k e : Int} {v : Value}
theorem FO.lt (h : FO w b k e v) : b < w.heap.size := (Array.getElem?_eq_some_iff.1 h).1
theorem FO.keep (h : FO w b k e v) (hb : Below w.heap.size w w') : FO w' b k e v := (hb.block b h.lt).trans h
theorem FO.keepB {g : Nat} (h : FO w b k e v) (hb : Below g w w') (hlt : b < g) : FO w' b k e v := (hb.block b hlt).trans h
theorem FO.load (h : FO w b k e v) : (loadVar 63 ⟨b, 0, none⟩).run Tryd.prog w = .ok (.agg (fA k e v)) w :=
  run_loadVar_row w b _ 63 (fA k e v) (0, 0) _ h Tryd.underlying63 rfl (fr_info _ rfl)
theorem FO.row (h : FO w b k e v) (k' e' : Int) (v' : Value) : FO (w.setRow b (fA k' e' v')) b k' e' v' := setRow_heap w b _ _ _ _ h
theorem FO.apart (h : FO w b k e v) (hne : b ≠ b') (x : Array Value) : FO (w.setRow b' x) b k e v := (setRow_other w b' b x hne).trans h
theorem FO.set2 (h : FO w b k e v) (v' : Value) : FO (w.setCell ⟨b, 2, none⟩ v') b k e v' := Joins.block_setCell h _
theorem FO.set_apart (h : FO w b k e v) (hne : b ≠ b') (j : Nat) (x : Value) : FO (w.setCell ⟨b', j, none⟩ x) b k e v := (heap_setCell_other w ⟨b', j, none⟩ b x hne).trans h
theorem FO.frozen (h : FO w b k e v) (j : Nat) : w.frozen? ⟨b, j, none⟩ = false := Joins.unfrozen_of_block h j
theorem FO.cells (h : FO w b k e v) : w.cell? ⟨b, 0, none⟩ = some (.int .i64 k) ∧ w.cell? ⟨b, 1, none⟩ = some (.int .u32 e) ∧ w.cell? ⟨b, 2, none⟩ = some v :=
  ⟨cell_of_row w b 0 _ _ _ h, cell_of_row w b 1 _ _ _ h, cell_of_row w b 2 _ _ _ h⟩
theorem FO.alloc (w : World) : FO (w.alloc (.cells (fA k e v) 63)) w.heap.size k e v := heap_alloc_last w _
theorem FO.new (x : Array Value) : FO ((w.alloc (.cells x 63)).setRow w.heap.size (fA k e v)) w.heap.size k e v := setRow_heap _ _ _ _ _ _ (heap_alloc_last w _)
/-- a row of bytes is not the block of a fragment -/
theorem FO.ne_own (h : FO w b k e v) {base n : Nat} {u : Value} {xs : List Value} (ho : w.ownsRow base 5 1 u n xs) : ∀ q, u.ownBlock = some q → q ≠ b := by
  intro q hq e
  subst e
  rcases ho.2 with ⟨rfl, _⟩ | ⟨q', cap, cur, rfl, _, hcur, _⟩
  · simp [Value.ownBlock] at hq
  · simp only [Value.ownBlock, Option.some.injEq] at hq
    subst hq
    rw [h] at hcur
    simp only [Option.some.injEq, Obj.cells.injEq] at hcur
    exact absurd hcur.2.1 (by decide)
theorem FO.grown (h : FO w b k e v) {base n : Nat} {u : Value} {xs : List Value} (ho : w.ownsRow base 5 1 u n xs) (hg : w.grownBy w' u.ownBlock) : FO w' b k e v :=
  (hg.block b h.lt (fun e => h.ne_own ho b e.symm rfl)).trans h
theorem FO.row_own (h : FO w b k e v) (x : Array Value) {base n : Nat} {u : Value} {xs : List Value} (ho : w.ownsRow base 5 1 u n xs) : (w.setRow b x).ownsRow base 5 1 u n xs :=
  own_over ho ⟨rfl, rfl, rfl, by simp, fun i _ hne => setRow_other w b i x (fun e => hne (by rw [e]))⟩ (fun g hg e => h.ne_own ho g hg (Option.some.inj e))
theorem FO.set_own (h : FO w b k e v) (j : Nat) (x : Value) {base n : Nat} {u : Value} {xs : List Value} (ho : w.ownsRow base 5 1 u n xs) : (w.setCell ⟨b, j, none⟩ x).ownsRow base 5 1 u n xs :=
  own_over ho ⟨rfl, rfl, rfl, by simp, fun i _ hne => heap_setCell_other w ⟨b, j, none⟩ i x (fun e => hne (by rw [e]))⟩ (fun g hg e => h.ne_own ho g hg (Option.some.inj e))
theorem exec_load_fr {o : Oper} {a : Act} (x : Operand) (ho : o.op = .load 63 x) (hx : a.eval x = .pointer (some ⟨b, 0, none⟩)) (h : FO w b k e v) :
    (execOp a.eval o).run Tryd.prog w = .ok (.value (.agg (fA k e v))) w := by
  unfold execOp
  simp only [ho, hx, Instr.loadAt, Instr.sureAddr, Sem.run_bind, Sem.run_pure, Result.andThen_ok, h.load]
/-- .. guarded or not -/
theorem wpl_load_fr {ops : Array Oper} {rest : List Oper} {o : Oper} {a : Act} {Q : Exit → Act → World → Prop} (hw : Region.wanted o (yielded ops a.tmps) = true) (x : Operand) (ho : o.op = .load 63 x) (hx : a.eval x = .pointer (some ⟨b, 0, none⟩)) (h : FO w b k e v)
    (hk : wpList Tryd.prog ops Q rest (a.put o.dst (.agg (fA k e v))) w) : wpList Tryd.prog ops Q (o :: rest) a w := by
  unfold wpList
  rw [if_pos hw]
  exact Or.inl (wp_load_row 63 x ho b hx _ (fA k e v) (0, 0) _ h Tryd.underlying63 rfl (fr_info _ rfl) hk)
end
theorem fbelow2 (w : World) (x y : Obj) : Below w.heap.size w ((w.alloc x).alloc y) := bch (balloc w x) (balloc _ y)
theorem own_fin {w : World} {base : Nat} {e : TypeId} {v : Value} {n m : Nat} {xs ys : List Int} (h : w.ownsRow base e 1 v n (il .u8 xs)) (hx : xs = ys) (hm : ys.length = m) : w.ownsRow base e 1 v m (il .u8 ys) := by
  subst hx
  have h1 := h.1
  rw [il_length] at h1
  rw [show m = n from by omega]
  exact h
end Go.Proofs.YtjlnceldnbpapaaDoor
