/-
  TEXTS JOINED: Info, Below, Keep, Region, FragBlk, ScanFr, FR. Each one's own words stand at its head.
-/
import Derived.Test.YtnmplnemnfonfaaDoorJ0
import Derived.Deep.WholeRow
import Derived.Lib.SmallJoins
import Derived.WalkKit
import Derived.Deep.RegionHeld3
namespace Go.Proofs.YtnmplnemnfonfaaDoor
theorem Tryd.info_u8 : (Tryd.prog.info? 5).map (fun i => (i.zero, i.size, i.bytes)) = some (some (.int .u8 0), 1, 1) := by kernel_rfl
end Go.Proofs.YtnmplnemnfonfaaDoor
namespace Go.Proofs.YtnmplnemnfonfaaDoor
open Go.RowKit
theorem own_mono {w : World} {base base' : Nat} {e : TypeId} {size : Nat} {v : Value} {n : Nat} {xs : List Value} (h : w.ownsRow base e size v n xs) (hb : base' ≤ base) : w.ownsRow base' e size v n xs := by
  refine ⟨h.1, ?_⟩
  rcases h.2 with h2 | ⟨g, cap, cur, hv, hg, h3⟩
  · exact .inl h2
  · exact .inr ⟨g, cap, cur, hv, Nat.le_trans hb hg, h3⟩
theorem own_form {w : World} {base : Nat} {e : TypeId} {size : Nat} {v : Value} {n : Nat} {xs : List Value} (h : w.ownsRow base e size v n xs) : ∃ a c, v = .slice a n c := by
  rcases h.2 with ⟨rfl, rfl⟩ | ⟨g, cap, cur, hv, _⟩
  · exact ⟨none, 0, rfl⟩
  · exact ⟨_, cap, hv⟩
theorem balloc (w : World) (o : Obj) : Below w.heap.size w (w.alloc o) := (Below.refl _ _).alloc (Nat.le_refl _) _
theorem bch {a b c : World} (h : Below a.heap.size a b) (k : Below b.heap.size b c) : Below a.heap.size a c := h.trans (k.mono h.size)
theorem bdrew0 (w : World) (o : Obj) : Below w.heap.size w (w.alloc o).drew := let h := balloc w o; ⟨h.os, h.tape, h.output, h.size, h.block⟩
theorem brow {B b : Nat} {a w : World} (h : Below B a w) (hB : B ≤ b) (ha : B ≤ a.heap.size) (c : Array Value) : Below B a (w.setRow b c) :=
  h.grown ⟨rfl, rfl, rfl, by simp, fun i _ hne => setRow_other w b i c (fun e => hne (by rw [e]))⟩ (Nat.le_trans ha h.size) (fun k e => by cases e; exact hB)
theorem bset {B b : Nat} {a w : World} (h : Below B a w) (hB : B ≤ b) (ha : B ≤ a.heap.size) (j : Nat) (v : Value) : Below B a (w.setCell ⟨b, j, none⟩ v) :=
  h.grown ⟨rfl, rfl, rfl, by simp, fun i _ hne => heap_setCell_other w ⟨b, j, none⟩ i v (fun e => hne (by rw [e]))⟩ (Nat.le_trans ha h.size) (fun k e => by cases e; exact hB)
theorem results_row_tmp2 {fn : Func} {p u x : Tmp} {ty : TypeId} {P : Program} (h : fn.results = #[.cell p ty, .tmp u, .tmp x]) (tmps : Array Value) (w : World) (g : Nat) (v : Value)
    (hp : tmps.getD p undef = .pointer (some ⟨g, 0, none⟩)) (hl : (loadVar ty ⟨g, 0, none⟩).run P w = .ok v w) :
    (results fn tmps).run P w = .ok (.tuple #[v, tmps.getD u undef, tmps.getD x undef]) w := by
  have hp' : tmps[p]?.getD undef = .pointer (some ⟨g, 0, none⟩) := by simpa using hp
  simp [results, h, hp', asAddr, hl, Result.andThen]
theorem bnew (w : World) (o : Obj) (c : Array Value) : Below w.heap.size w ((w.alloc o).setRow w.heap.size c) := brow (balloc w o) (Nat.le_refl _) (Nat.le_refl _) c
theorem conv_ri {w : World} {v : Value} {n : Nat} {zs : List Int} (h : RI .u8 w v n zs) : (convert 25 9 v).run Tryd.prog w = .ok (.string (strOfNums zs)) w :=
  conv_of Tryd.underlying25 Tryd.underlying5 Tryd.underlying9 h
theorem results_row_tmp {fn : Func} {p u : Tmp} {ty : TypeId} {P : Program} (h : fn.results = #[.cell p ty, .tmp u]) (tmps : Array Value) (w : World) (g : Nat) (v : Value)
    (hp : tmps.getD p undef = .pointer (some ⟨g, 0, none⟩)) (hl : (loadVar ty ⟨g, 0, none⟩).run P w = .ok v w) :
    (results fn tmps).run P w = .ok (.tuple #[v, tmps.getD u undef]) w := by
  rw [results_cell_tmp h]
  simp only [hp, asAddr, Sem.run_pure, Result.andThen_ok, hl]
theorem own_over {w w' : World} {base : Nat} {e : TypeId} {size : Nat} {v : Value} {n : Nat} {xs : List Value} {row : Option Nat} (h : w.ownsRow base e size v n xs) (hg : w.grownBy w' row) (hne : ∀ g, v.ownBlock = some g → some g ≠ row) : w'.ownsRow base e size v n xs := by
  refine ⟨h.1, ?_⟩
  rcases h.2 with h2 | ⟨g, cap, cur, hv, hb, hcur, h3⟩
  · exact .inl h2
  · refine .inr ⟨g, cap, cur, hv, hb, ?_, h3⟩
    rw [hg.block g (Array.getElem?_eq_some_iff.1 hcur).1 (hne g (by rw [hv]; rfl))]; exact hcur
theorem own_types {w : World} {base base' : Nat} {e e' : TypeId} {size size' : Nat} {v v' : Value} {n n' : Nat} {xs xs' : List Value} (h : w.ownsRow base e size v n xs) (h' : w.ownsRow base' e' size' v' n' xs') (hne : e ≠ e') : ∀ g, v.ownBlock = some g → some g ≠ v'.ownBlock := by
  intro g hg he
  rcases h.2 with ⟨rfl, _⟩ | ⟨q, cap, cur, rfl, _, hcur, _⟩
  · simp [Value.ownBlock] at hg
  · simp only [Value.ownBlock, Option.some.injEq] at hg
    subst hg
    rcases h'.2 with ⟨rfl, _⟩ | ⟨q', cap', cur', rfl, _, hcur', _⟩
    · simp [Value.ownBlock] at he
    · simp only [Value.ownBlock, Option.some.injEq] at he
      subst he
      rw [hcur] at hcur'
      simp only [Option.some.injEq, Obj.cells.injEq] at hcur'
      exact hne hcur'.2.1
end Go.Proofs.YtnmplnemnfonfaaDoor
namespace Go.Proofs.YtnmplnemnfonfaaDoor
open Go.RowKit
theorem own_keep {w w' : World} {base : Nat} {e : TypeId} {size : Nat} {v : Value} {n : Nat} {xs : List Value} (h : w.ownsRow base e size v n xs) (hb : Below w.heap.size w w') : w'.ownsRow base e size v n xs := by
  refine ⟨h.1, ?_⟩
  rcases h.2 with h2 | ⟨g, cap, cur, hv, hg, hcur, h3⟩
  · exact .inl h2
  · exact .inr ⟨g, cap, cur, hv, hg, by rw [hb.block g (Array.getElem?_eq_some_iff.1 hcur).1]; exact hcur, h3⟩
end Go.Proofs.YtnmplnemnfonfaaDoor
namespace Go.Proofs.YtnmplnemnfonfaaDoor
open Go
section
variable {P : Program} {md : Region.Mode} {ops : Array Oper} {Q : Exit → Act → World → Prop} {S : World → Prop}
theorem rg_one {fuel : Nat} {listed : Array Bool} {a : Act} {w : World} (i : Nat) (o : Oper) (hr : Region.ready md ops listed = [i]) (ho : ops[i]? = some o)
    (h : ∀ K' : Act → World → Prop, Shut (∀ a w, S w → (S w → wpAnyH P md ops Q S fuel (listed.setIfInBounds i true) a w) → K' a w) → if Region.wanted o (yielded ops a.tmps) = true then Oper.wp P o a w K' Q else K' (a.put o.dst undef) w) :
    wpAnyH P md ops Q S (fuel + 1) listed a w :=
  wpAnyH_ready hr (by simp) (AllReadyH.cons ho h AllReadyH.nil)
def RgQuiet (P : Program) (ops : Array Oper) (Q : Exit → Act → World → Prop) (S : World → Prop) (o : Oper) (a : Act) (v : Value) : Prop :=
  ∀ w, S w → ∀ K' : Act → World → Prop, Shut (∀ w', S w' → K' (a.put o.dst v) w') → if Region.wanted o (yielded ops a.tmps) = true then Oper.wp P o a w K' Q else K' (a.put o.dst undef) w
theorem rg_two {fuel : Nat} {listed : Array Bool} {a : Act} {w : World} (i j : Nat) (oi oj : Oper) (vi vj : Value)
    (hr : Region.ready md ops listed = [i, j]) (hri : Region.ready md ops (listed.setIfInBounds i true) = [j]) (hrj : Region.ready md ops (listed.setIfInBounds j true) = [i])
    (hoi : ops[i]? = some oi) (hoj : ops[j]? = some oj) (hS : S w)
    (hi : RgQuiet P ops Q S oi a vi) (hj : RgQuiet P ops Q S oj (a.put oi.dst vi) vj)
    (hj2 : RgQuiet P ops Q S oj a vj) (hi2 : RgQuiet P ops Q S oi (a.put oj.dst vj) vi)
    (hc : (a.put oj.dst vj).put oi.dst vi = (a.put oi.dst vi).put oj.dst vj)
    (h : ∀ w', S w' → wpAnyH P md ops Q S fuel ((listed.setIfInBounds i true).setIfInBounds j true) ((a.put oi.dst vi).put oj.dst vj) w') :
    wpAnyH P md ops Q S (fuel + 2) listed a w := by
  have hne : i ≠ j := fun e => by subst e; have h1 := hri; rw [← hrj] at h1; have := congrArg List.length (hr); have h3 : i ∈ Region.ready md ops (listed.setIfInBounds i true) := by rw [hri]; simp
                                  simp [Region.ready] at h3
  refine wpAnyH_ready hr (by simp) (AllReadyH.cons hoi (fun K hK => hi w hS K fun w1 h1 => hK _ _ h1 fun _ => ?_) (AllReadyH.cons hoj (fun K hK => hj2 w hS K fun w1 h1 => hK _ _ h1 fun _ => ?_) AllReadyH.nil))
  · exact wpAnyH_ready hri (by simp) (AllReadyH.cons hoj (fun K hK => hj w1 h1 K fun w2 h2 => hK _ _ h2 fun _ => h w2 h2) AllReadyH.nil)
  · refine wpAnyH_ready hrj (by simp) (AllReadyH.cons hoi (fun K hK => hi2 w1 h1 K fun w2 h2 => hK _ _ h2 fun _ => ?_) AllReadyH.nil)
    rw [hc, Array.setIfInBounds_comm _ _ (Ne.symm hne)]
    exact h w2 h2
theorem rg_both {fuel : Nat} {listed : Array Bool} {a : Act} {w : World} (i j : Nat) (oi oj : Oper) (hr : Region.ready md ops listed = [i, j]) (hoi : ops[i]? = some oi) (hoj : ops[j]? = some oj)
    (hi : ∀ K' : Act → World → Prop, Shut (∀ a w, S w → (S w → wpAnyH P md ops Q S fuel (listed.setIfInBounds i true) a w) → K' a w) → if Region.wanted oi (yielded ops a.tmps) = true then Oper.wp P oi a w K' Q else K' (a.put oi.dst undef) w)
    (hj : ∀ K' : Act → World → Prop, Shut (∀ a w, S w → (S w → wpAnyH P md ops Q S fuel (listed.setIfInBounds j true) a w) → K' a w) → if Region.wanted oj (yielded ops a.tmps) = true then Oper.wp P oj a w K' Q else K' (a.put oj.dst undef) w) :
    wpAnyH P md ops Q S (fuel + 1) listed a w :=
  wpAnyH_ready hr (by simp) (AllReadyH.cons hoi hi (AllReadyH.cons hoj hj AllReadyH.nil))
theorem rg_three {fuel : Nat} {listed : Array Bool} {a : Act} {w : World} (i j k : Nat) (oi oj ok : Oper) (hr : Region.ready md ops listed = [i, j, k]) (hoi : ops[i]? = some oi) (hoj : ops[j]? = some oj) (hok : ops[k]? = some ok)
    (hi : ∀ K' : Act → World → Prop, Shut (∀ a w, S w → (S w → wpAnyH P md ops Q S fuel (listed.setIfInBounds i true) a w) → K' a w) → if Region.wanted oi (yielded ops a.tmps) = true then Oper.wp P oi a w K' Q else K' (a.put oi.dst undef) w)
    (hj : ∀ K' : Act → World → Prop, Shut (∀ a w, S w → (S w → wpAnyH P md ops Q S fuel (listed.setIfInBounds j true) a w) → K' a w) → if Region.wanted oj (yielded ops a.tmps) = true then Oper.wp P oj a w K' Q else K' (a.put oj.dst undef) w)
    (hk : ∀ K' : Act → World → Prop, Shut (∀ a w, S w → (S w → wpAnyH P md ops Q S fuel (listed.setIfInBounds k true) a w) → K' a w) → if Region.wanted ok (yielded ops a.tmps) = true then Oper.wp P ok a w K' Q else K' (a.put ok.dst undef) w) :
    wpAnyH P md ops Q S (fuel + 1) listed a w :=
  wpAnyH_ready hr (by simp) (AllReadyH.cons hoi hi (AllReadyH.cons hoj hj (AllReadyH.cons hok hk AllReadyH.nil)))
theorem rg_strong {S' : World → Prop} (hs : ∀ w, S' w → S w) : ∀ (fuel : Nat) (listed : Array Bool) (a : Act) (w : World), wpAnyH P md ops Q S' fuel listed a w → wpAnyH P md ops Q S fuel listed a w
  | 0, _, _, _, h => h
  | fuel + 1, _, _, _, h => ⟨h.1, fun i hi => wpOp_mono (fun a' w' h' => ⟨hs w' h'.1, rg_strong hs fuel _ a' w' h'.2⟩) (h.2 i hi)⟩
theorem rgt {v : Value} {fuel : Nat} {listed : Array Bool} {a : Act} {w : World} (i : Nat) {oi : Oper} (hi : ops[i]? = some oi) (hy : YieldsIf P ops S oi v a) (hS : S w)
    (h : wpAnyH P md ops Q S fuel (listed.setIfInBounds i true) (a.put oi.dst v) w) (hs : Region.noSelect ops = true := by kernel_rfl) (hf : Region.free md ops listed i = true := by kernel_rfl)
    (hr : (Region.ready md ops listed).contains i = true := by kernel_rfl) (hQ : ∀ c a w, Q (.panic c) (a.put oi.dst v) w → Q (.panic c) a w := by intro _ _ _ h; exact h) : wpAnyH P md ops Q S (fuel + 1) listed a w :=
  wpAnyH_take hi hs hf hr hQ hy hS h
theorem rgp : (∀ (a : Act) (d : Tmp) (v : Value), a.put (some d) v = { a with tmps := a.tmps.setIfInBounds d v }) ∧ (∀ (a : Act) (v : Value), a.put none v = a) ∧
    (∀ (l : List Value) (i : Nat) (x : Value), l.toArray.setIfInBounds i x = (l.set i x).toArray) ∧ (∀ (x y : Value) (l : List Value), (x :: l).set 0 y = y :: l) ∧ (∀ (x y : Value) (l : List Value) (n : Nat), (x :: l).set (n + 1) y = x :: l.set n y) :=
  ⟨fun _ _ _ => rfl, fun _ _ => rfl, fun _ _ _ => by simp, fun _ _ _ => rfl, fun _ _ _ _ => rfl⟩
theorem rgw {v : Value} {fuel : Nat} {listed : Array Bool} {a : Act} {a' : Act} {w : World} (i : Nat) (oi : Oper) (hS : S w)
    (h : wpAnyH P md ops Q S fuel (listed.setIfInBounds i true) a' w) (hi : ops[i]? = some oi := by rfl) (hw : Region.wanted oi (yielded ops a.tmps) = true := by rfl)
    (hy : ∀ w, S w → (execOp a.eval oi).run P w = .ok (.value v) w := by intro w hSw; (try dsimp only at hSw); go_simp; try with_reducible rfl)
    (ha : a.put oi.dst v = a' := by (try simp only [rgp]); rfl)
    (hs : Region.noSelect ops = true := by kernel_rfl) (hf : Region.free md ops listed i = true := by kernel_rfl)
    (hr : (Region.ready md ops listed).contains i = true := by kernel_rfl) (hQ : ∀ c a w, Q (.panic c) (a.put oi.dst v) w → Q (.panic c) a w := by intro _ _ _ h; exact h) : wpAnyH P md ops Q S (fuel + 1) listed a w :=
  wpAnyH_take hi hs hf hr hQ (.inl ⟨hw, hy⟩) hS (by rw [ha]; exact h)
end
end Go.Proofs.YtnmplnemnfonfaaDoor
namespace Go.Proofs.YtnmplnemnfonfaaDoor
open Go.RowKit
abbrev fA (k e : Int) (v : Value) : Array Value := #[.int .i64 k, .int .u32 e, v]
theorem fr_info (c : Array Value) (h : c.size = 3) : (Tryd.prog.info? 43).map (·.size) = some c.size := by rw [h]; kernel_rfl
theorem fr_one (k e : Int) (a : Option Addr) (n m : Nat) : (fA k e (.slice a n m)).all (·.oneCell') = true := by simp [fA, Value.oneCell']
def FO (w : World) (b : Nat) (k e : Int) (v : Value) : Prop := w.heap[b]? = some (.cells (fA k e v) 43 (0, 0))
section
variable {w w' : World} {b b' : Nat} {k e : Int} {v : Value}
theorem FO.lt (h : FO w b k e v) : b < w.heap.size := (Array.getElem?_eq_some_iff.1 h).1
theorem FO.keep (h : FO w b k e v) (hb : Below w.heap.size w w') : FO w' b k e v := (hb.block b h.lt).trans h
theorem FO.keepB {g : Nat} (h : FO w b k e v) (hb : Below g w w') (hlt : b < g) : FO w' b k e v := (hb.block b hlt).trans h
theorem FO.load (h : FO w b k e v) : (loadVar 43 ⟨b, 0, none⟩).run Tryd.prog w = .ok (.agg (fA k e v)) w :=
  run_loadVar_row w b _ 43 (fA k e v) (0, 0) _ h Tryd.underlying43 rfl (fr_info _ rfl)
theorem FO.row (h : FO w b k e v) (k' e' : Int) (v' : Value) : FO (w.setRow b (fA k' e' v')) b k' e' v' := setRow_heap w b _ _ _ _ h
theorem FO.apart (h : FO w b k e v) (hne : b ≠ b') (x : Array Value) : FO (w.setRow b' x) b k e v := (setRow_other w b' b x hne).trans h
theorem FO.set2 (h : FO w b k e v) (v' : Value) : FO (w.setCell ⟨b, 2, none⟩ v') b k e v' := Joins.block_setCell h _
theorem FO.set_apart (h : FO w b k e v) (hne : b ≠ b') (j : Nat) (x : Value) : FO (w.setCell ⟨b', j, none⟩ x) b k e v := (heap_setCell_other w ⟨b', j, none⟩ b x hne).trans h
theorem FO.frozen (h : FO w b k e v) (j : Nat) : w.frozen? ⟨b, j, none⟩ = false := Joins.unfrozen_of_block h j
theorem FO.cells (h : FO w b k e v) : w.cell? ⟨b, 0, none⟩ = some (.int .i64 k) ∧ w.cell? ⟨b, 1, none⟩ = some (.int .u32 e) ∧ w.cell? ⟨b, 2, none⟩ = some v :=
  ⟨cell_of_row w b 0 _ _ _ h, cell_of_row w b 1 _ _ _ h, cell_of_row w b 2 _ _ _ h⟩
theorem FO.alloc (w : World) : FO (w.alloc (.cells (fA k e v) 43)) w.heap.size k e v := heap_alloc_last w _
theorem FO.new (x : Array Value) : FO ((w.alloc (.cells x 43)).setRow w.heap.size (fA k e v)) w.heap.size k e v := setRow_heap _ _ _ _ _ _ (heap_alloc_last w _)
theorem FO.ne_own (h : FO w b k e v) {base n : Nat} {u : Value} {xs : List Value} (ho : w.ownsRow base 5 1 u n xs) : ∀ q, u.ownBlock = some q → q ≠ b := by
  intro q hq e
  subst e
  rcases ho.2 with ⟨rfl, _⟩ | ⟨q', cap, cur, rfl, _, hcur, _⟩
  · simp [Value.ownBlock] at hq
  · simp only [Value.ownBlock, Option.some.injEq] at hq
    subst hq
    rw [h] at hcur
    simp only [Option.some.injEq, Obj.cells.injEq] at hcur
    exact absurd hcur.2.1 (by decide)
theorem FO.grown (h : FO w b k e v) {base n : Nat} {u : Value} {xs : List Value} (ho : w.ownsRow base 5 1 u n xs) (hg : w.grownBy w' u.ownBlock) : FO w' b k e v :=
  (hg.block b h.lt (fun e => h.ne_own ho b e.symm rfl)).trans h
theorem FO.row_own (h : FO w b k e v) (x : Array Value) {base n : Nat} {u : Value} {xs : List Value} (ho : w.ownsRow base 5 1 u n xs) : (w.setRow b x).ownsRow base 5 1 u n xs :=
  own_over ho ⟨rfl, rfl, rfl, by simp, fun i _ hne => setRow_other w b i x (fun e => hne (by rw [e]))⟩ (fun g hg e => h.ne_own ho g hg (Option.some.inj e))
theorem FO.set_own (h : FO w b k e v) (j : Nat) (x : Value) {base n : Nat} {u : Value} {xs : List Value} (ho : w.ownsRow base 5 1 u n xs) : (w.setCell ⟨b, j, none⟩ x).ownsRow base 5 1 u n xs :=
  own_over ho ⟨rfl, rfl, rfl, by simp, fun i _ hne => heap_setCell_other w ⟨b, j, none⟩ i x (fun e => hne (by rw [e]))⟩ (fun g hg e => h.ne_own ho g hg (Option.some.inj e))
theorem exec_load_fr {o : Oper} {a : Act} (x : Operand) (ho : o.op = .load 43 x) (hx : a.eval x = .pointer (some ⟨b, 0, none⟩)) (h : FO w b k e v) :
    (execOp a.eval o).run Tryd.prog w = .ok (.value (.agg (fA k e v))) w := by
  unfold execOp
  simp only [ho, hx, Instr.loadAt, Instr.sureAddr, Sem.run_bind, Sem.run_pure, Result.andThen_ok, h.load]
theorem wpl_load_fr {ops : Array Oper} {rest : List Oper} {o : Oper} {a : Act} {Q : Exit → Act → World → Prop} (hw : Region.wanted o (yielded ops a.tmps) = true) (x : Operand) (ho : o.op = .load 43 x) (hx : a.eval x = .pointer (some ⟨b, 0, none⟩)) (h : FO w b k e v)
    (hk : wpList Tryd.prog ops Q rest (a.put o.dst (.agg (fA k e v))) w) : wpList Tryd.prog ops Q (o :: rest) a w := by
  unfold wpList
  rw [if_pos hw]
  exact Or.inl (wp_load_row 43 x ho b hx _ (fA k e v) (0, 0) _ h Tryd.underlying43 rfl (fr_info _ rfl) hk)
end
theorem fbelow2 (w : World) (x y : Obj) : Below w.heap.size w ((w.alloc x).alloc y) := bch (balloc w x) (balloc _ y)
theorem own_fin {w : World} {base : Nat} {e : TypeId} {v : Value} {n m : Nat} {xs ys : List Int} (h : w.ownsRow base e 1 v n (il .u8 xs)) (hx : xs = ys) (hm : ys.length = m) : w.ownsRow base e 1 v m (il .u8 ys) := by
  subst hx
  have h1 := h.1
  rw [il_length] at h1
  rw [show m = n from by omega]
  exact h
end Go.Proofs.YtnmplnemnfonfaaDoor
namespace Go.Proofs.YtnmplnemnfonfaaDoor
open Go.RowKit
theorem wrap_u32' (x : Int) : IntKind.u32.wrap x = x % 4294967296 := by simp [IntKind.wrap, IntKind.signed, IntKind.bits]
section
variable {o : Oper} {a : Act} {w : World} {K : Act → World → Prop} {Q : Exit → Act → World → Prop} {ops : Array Oper} {rest : List Oper}
theorem wp_new_fr (ho : o.op = .alloc 43) (h : ∀ g w', Hid (FO w' g 0 0 (.slice none 0 0)) → Hid (w.heap.size ≤ g) → Hid (Below w.heap.size w w') → K (a.put o.dst (.pointer (some ⟨g, 0, none⟩))) w') : Oper.wp Tryd.prog o a w K Q := by
  have h1 := h w.heap.size (w.alloc (.cells (fA 0 0 (.slice none 0 0)) 43)) (FO.alloc w) (Nat.le_refl _) (balloc w _)
  unfold Oper.wp execOp
  simp [ho, go_sem]
  exact h1
theorem wp_put_fr (x y : Operand) (ho : o.op = .store 43 x y) (g : Nat) {k0 e0 : Int} {p0 : Option Addr} {n0 c0 : Nat} (hk : FO w g k0 e0 (.slice p0 n0 c0)) (k e : Int) (p : Option Addr) (n c : Nat) (hx : a.eval x = .pointer (some ⟨g, 0, none⟩)) (hy : a.eval y = .agg (fA k e (.slice p n c)))
    (h : ∀ w', Hid (FO w' g k e (.slice p n c)) → Hid (w.grownBy w' (some g)) → K (a.put o.dst undef) w') : Oper.wp Tryd.prog o a w K Q :=
  wp_store_row 43 x y ho g (fA k e (.slice p n c)) hx hy _ _ hk (fr_info _ rfl) rfl (fr_one _ _ _ _ _) (h _ (Lib.hid (hk.row k e (.slice p n c))) (Lib.hid ⟨rfl, rfl, rfl, by simp, fun i _ hne => setRow_other w g i _ (fun e => hne (by rw [e]))⟩))
theorem wpl_put_fr (hg : o.guard = none) (x y : Operand) (ho : o.op = .store 43 x y) (g : Nat) {k0 e0 : Int} {p0 : Option Addr} {n0 c0 : Nat} (hk : FO w g k0 e0 (.slice p0 n0 c0)) (k e : Int) (p : Option Addr) (n c : Nat) (hx : a.eval x = .pointer (some ⟨g, 0, none⟩)) (hy : a.eval y = .agg (fA k e (.slice p n c)))
    (h : ∀ w', Hid (FO w' g k e (.slice p n c)) → Hid (w.grownBy w' (some g)) → wpList Tryd.prog ops Q rest (a.put o.dst undef) w') : wpList Tryd.prog ops Q (o :: rest) a w :=
  wpList_plain hg fun _ hK => wp_put_fr x y ho g hk k e p n c hx hy fun w' h2 h3 => hK _ _ (h w' h2 h3)
end
theorem below_over {B : Nat} {w0 w w' : World} {g : Nat} (h : Below B w0 w) (hg : w.grownBy w' (some g)) (hB : B ≤ g) (h0 : B ≤ w.heap.size) : Below B w0 w' := h.grown hg h0 (fun q hq => by cases hq; exact hB)
theorem FO.over {w w' : World} {b g : Nat} {k e : Int} {v : Value} (h : FO w b k e v) (hg : w.grownBy w' (some g)) (hne : b ≠ g) : FO w' b k e v := (hg.block b h.lt (fun x => hne (Option.some.inj x))).trans h
end Go.Proofs.YtnmplnemnfonfaaDoor
namespace Go.Proofs.YtnmplnemnfonfaaDoor
structure FR where
  kind : Int
  epoch : Int
  data : List Int
deriving instance DecidableEq for FR
end Go.Proofs.YtnmplnemnfonfaaDoor
