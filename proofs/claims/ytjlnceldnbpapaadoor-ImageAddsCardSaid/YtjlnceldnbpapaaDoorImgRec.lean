/-
  LAYER 17 (image): a record in a block (MO), and what cutFrom answers, of any place and any bytes that lie somewhere.
-/
import Derived.Test.YtjlnceldnbpapaaDoorImgMath
import Derived.Test.YtjlnceldnbpapaaDoorCutFrags
import Derived.Test.YtjlnceldnbpapaaDoorPlanRow
namespace Go.Proofs.YtjlnceldnbpapaaDoor
open Go.RowKit
abbrev rA (d : Value) (pl : Int) (pv : Value) (bh : Int) : Array Value := #[d, .int .i64 pl, pv, .int .i64 bh]
theorem rec_info (c : Array Value) (h : c.size = 4) : (Tryd.prog.info? 48).map (·.size) = some c.size := by rw [h]; kernel_rfl
theorem rec_one (a a2 : Option Addr) (n m n2 m2 : Nat) (pl bh : Int) : (rA (.slice a n m) pl (.slice a2 n2 m2) bh).all (·.oneCell') = true := by simp [rA, Value.oneCell']
/-- the block b holds a record -/
def MO (w : World) (b : Nat) (d : Value) (pl : Int) (pv : Value) (bh : Int) : Prop := w.heap[b]? = some (.cells (rA d pl pv bh) 48 (0, 0))
section
variable {w w' : World} {b b' : Nat} {d pv : Value} {pl bh : Int}
theorem MO.lt (h : MO w b d pl pv bh) : b < w.heap.size := (Array.getElem?_eq_some_iff.1 h).1
theorem MO.keep (h : MO w b d pl pv bh) (hb : Below w.heap.size w w') : MO w' b d pl pv bh := (hb.block b h.lt).trans h
theorem MO.over (h : MO w b d pl pv bh) {g : Nat} (hg : w.grownBy w' (some g)) (hne : b ≠ g) : MO w' b d pl pv bh := (hg.block b h.lt (fun e => hne (Option.some.inj e))).trans h
theorem MO.cells (h : MO w b d pl pv bh) : w.cell? ⟨b, 0, none⟩ = some d ∧ w.cell? ⟨b, 1, none⟩ = some (.int .i64 pl) ∧ w.cell? ⟨b, 2, none⟩ = some pv ∧ w.cell? ⟨b, 3, none⟩ = some (.int .i64 bh) :=
  ⟨cell_of_row w b 0 _ _ _ h, cell_of_row w b 1 _ _ _ h, cell_of_row w b 2 _ _ _ h, cell_of_row w b 3 _ _ _ h⟩
theorem MO.alloc (w : World) : MO (w.alloc (.cells (rA d pl pv bh) 48)) w.heap.size d pl pv bh := heap_alloc_last w _
theorem MO.new (x : Array Value) : MO ((w.alloc (.cells x 48)).setRow w.heap.size (rA d pl pv bh)) w.heap.size d pl pv bh := setRow_heap _ _ _ _ _ _ (heap_alloc_last w _)
theorem MO.load (h : MO w b d pl pv bh) : (loadVar 48 ⟨b, 0, none⟩).run Tryd.prog w = .ok (.agg (rA d pl pv bh)) w :=
  run_loadVar_row w b _ 48 (rA d pl pv bh) (0, 0) _ h Tryd.underlying48 rfl (rec_info _ rfl)
theorem MO.row (h : MO w b d pl pv bh) (d' pv' : Value) (pl' bh' : Int) : MO (w.setRow b (rA d' pl' pv' bh')) b d' pl' pv' bh' := setRow_heap w b _ _ _ _ h
theorem exec_load_img {o : Oper} {a : Act} (x : Operand) (ho : o.op = .load 48 x) (hx : a.eval x = .pointer (some ⟨b, 0, none⟩)) (h : MO w b d pl pv bh) :
    (execOp a.eval o).run Tryd.prog w = .ok (.value (.agg (rA d pl pv bh))) w := by
  unfold execOp
  simp only [ho, hx, Instr.loadAt, Instr.sureAddr, Sem.run_bind, Sem.run_pure, Result.andThen_ok, h.load]
theorem wpl_load_img {ops : Array Oper} {rest : List Oper} {o : Oper} {a : Act} {Q : Exit → Act → World → Prop} (hw : Region.wanted o (yielded ops a.tmps) = true) (x : Operand) (ho : o.op = .load 48 x) (hx : a.eval x = .pointer (some ⟨b, 0, none⟩)) (h : MO w b d pl pv bh)
    (hk : wpList Tryd.prog ops Q rest (a.put o.dst (.agg (rA d pl pv bh))) w) : wpList Tryd.prog ops Q (o :: rest) a w := by
  unfold wpList
  rw [if_pos hw]
  exact Or.inl (wp_load_row 48 x ho b hx _ (rA d pl pv bh) (0, 0) _ h Tryd.underlying48 rfl (rec_info _ rfl) hk)
end
/-- what cutFrom answers -/
def CutF (x : Int) (dv : Value) (n : Nat) (w : World) (e : Ending) (w' : World) : Prop :=
  ∃ a c, e = .returned (.tuple #[.agg (rA dv (beginN (nr x) : Nat) (.slice a (pcsI x n).length c) (endI x n : Nat)), .bool (fitI x n)]) ∧
    w'.ownsRow w.heap.size 60 4 (.slice a (pcsI x n).length c) (pcsI x n).length (pF (pcsI x n)) ∧ Below w.heap.size w w'
set_option maxRecDepth 8000 in
set_option maxHeartbeats 1000000 in
theorem cutFrom_any (x : Int) (hx : I63 x) (da : Option Addr) (n dc : Nat) (w : World) :
    Calls Tryd.prog 21 #[.int .i64 x, .slice da n dc] w (CutF x (.slice da n dc) n w) := by
  have HC : Hid (∀ w, Calls Tryd.prog 32 #[.int .i64 x, .int .i64 (n : Int)] w fun e w' =>
    ∃ v, e = .returned (.tuple #[v, .int .i64 (endI x n : Int), .bool (fitI x n)]) ∧ w'.ownsRow w.heap.size 60 4 v (pcsI x n).length (pF (pcsI x n)) ∧ Below w.heap.size w w') := fun w => cut_any x n hx w
  have HB : Hid (∀ w, Calls Tryd.prog 33 #[.int .i64 x] w fun e w' => e = .returned (.int .i64 (beginN (nr x) : Int)) ∧ Below w.heap.size w w') := fun w => begin_any x hx w
  unfold CutF
  generalize pcsI x n = ps at *
  generalize endI x n = en at *
  generalize fitI x n = fit at *
  generalize beginN (nr x) = bg at *
  clear hx
  go_enter Tryd.func21, Tryd.ntmps21
  go_wp2_with (first
    | (go_at_call 32; go_loud ((with_reducible refine (HC.out _).mono ?_); rintro e w1 ⟨v1, rfl, ho, hb⟩; obtain ⟨a1, c1, rfl⟩ := own_form ho; have HO1 := Lib.hid ho; have HB1 := Lib.hid (bch (balloc w _) hb); have HR1 := Lib.hid ((MO.alloc (d := .slice none 0 0) (pl := 0) (pv := .slice none 0 0) (bh := 0) w).keep hb); clear ho hb))
    | (go_at_call 33; (with_reducible refine (HB.out _).mono ?_); rintro e w2 ⟨rfl, hb⟩; have HO2 := Lib.hid (own_keep HO1.out hb); have HB2 := Lib.hid (bch HB1.out hb); have HR2 := Lib.hid (HR1.out.keep hb); clear hb)
    | (refine wpList_store_row rfl 48 _ _ rfl w.heap.size (rA (.slice da n dc) bg (.slice a1 ps.length c1) en) rfl rfl _ _ HR2.out (rec_info _ rfl) rfl (rec_one _ _ _ _ _ _ _ _) ?_))
  refine bodyPost_ret_by (results_row_tmp rfl _ _ w.heap.size (.agg (rA (.slice da n dc) bg (.slice a1 ps.length c1) en)) rfl (HR2.out.row (.slice da n dc) (.slice a1 ps.length c1) bg en).load) rfl ?_
  exact ⟨a1, c1, rfl, own_over (own_mono HO2.out (by simp)) (grown_row _ w.heap.size _) (fun g hg e => by have := (HO2.out.lt g hg).1; have := Option.some.inj e; simp at *; omega), brow HB2.out (Nat.le_refl _) (Nat.le_refl _) _⟩
end Go.Proofs.YtjlnceldnbpapaaDoor
