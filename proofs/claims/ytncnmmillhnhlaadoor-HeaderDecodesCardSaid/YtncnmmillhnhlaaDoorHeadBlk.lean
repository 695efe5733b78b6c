/-
  A HEADER IN A BLOCK: its cells, what stays and what changes, loads, stores, '=='. Nothing here speaks of the program's functions. No condition.
-/
import Derived.Test.YtncnmmillhnhlaaDoorHeadMath
import Derived.Test.YtncnmmillhnhlaaDoorInfo
import Derived.Test.YtncnmmillhnhlaaDoorBelow
import Derived.Test.YtncnmmillhnhlaaDoorKeep
import Derived.Test.YtncnmmillhnhlaaDoorRegion
namespace Go.Proofs.YtncnmmillhnhlaaDoor
open Go.RowKit
/-- a header, as a value -/
def hv (h : Hdr) : Array Value := (Value.int .u64 h.e :: Value.int .i64 h.s :: Value.int .i64 h.f :: il .i64 h.l).toArray
/-- its heads, as one -/
def lv (l : List Int) : Array Value := (il .i64 l).toArray
theorem hv_size {h : Hdr} (hn : h.l.length = 4) : (hv h).size = 7 := by simp [hv, il_length, hn]
theorem hv_one (h : Hdr) : (hv h).all (·.oneCell') = true := all_oneCell_toArray (fun u hu => by
  simp only [List.mem_cons] at hu
  rcases hu with rfl | rfl | rfl | hu
  · rfl
  · rfl
  · rfl
  · exact il_one _ _ u hu)
theorem hd_info (c : Array Value) (h : c.size = 7) : (Tryd.prog.info? 25).map (·.size) = some c.size := by rw [h]; kernel_rfl
theorem hv_info {h : Hdr} (hn : h.l.length = 4) : (Tryd.prog.info? 25).map (·.size) = some (hv h).size := hd_info _ (hv_size hn)
theorem hv_get {h : Hdr} (i : Nat) (hi : i < h.l.length) : (hv h)[3 + i]? = some (.int .i64 (h.l.getD i 0)) := by
  have := il_get .i64 h.l i hi
  rw [Nat.add_comm]
  simpa [hv] using this
theorem noH_cells : hv noH = #[.int .u64 0, .int .i64 0, .int .i64 0, .int .i64 0, .int .i64 0, .int .i64 0, .int .i64 0] := rfl
/-- the block b holds the header h -/
def HB (w : World) (b : Nat) (h : Hdr) : Prop := w.heap[b]? = some (.cells (hv h) 25 (0, 0)) ∧ h.l.length = 4
section
variable {w w' : World} {b b' : Nat} {h h' : Hdr}
theorem HB.lt (k : HB w b h) : b < w.heap.size := (Array.getElem?_eq_some_iff.1 k.1).1
theorem HB.keep (k : HB w b h) (hb : Below w.heap.size w w') : HB w' b h := ⟨(hb.block b k.lt).trans k.1, k.2⟩
theorem HB.keepB {g : Nat} (k : HB w b h) (hb : Below g w w') (hlt : b < g) : HB w' b h := ⟨(hb.block b hlt).trans k.1, k.2⟩
theorem HB.load (k : HB w b h) : (loadVar 25 ⟨b, 0, none⟩).run Tryd.prog w = .ok (.agg (hv h)) w :=
  run_loadVar_row w b _ 25 (hv h) (0, 0) _ k.1 Tryd.underlying25 rfl (hv_info k.2)
theorem HB.new (w : World) (h : Hdr) (hn : h.l.length = 4) : HB (w.alloc (.cells (hv h) 25)) w.heap.size h := ⟨heap_alloc_last w _, hn⟩
theorem HB.row (k : HB w b h) (hn : h'.l.length = 4) : HB (w.setRow b (hv h')) b h' := ⟨setRow_heap w b _ _ _ _ k.1, hn⟩
theorem HB.apart (k : HB w b h) (hne : b ≠ b') (x : Array Value) : HB (w.setRow b' x) b h := ⟨(setRow_other w b' b x hne).trans k.1, k.2⟩
theorem HB.set_apart (k : HB w b h) (hne : b ≠ b') (j : Nat) (x : Value) : HB (w.setCell ⟨b', j, none⟩ x) b h := ⟨(heap_setCell_other w ⟨b', j, none⟩ b x hne).trans k.1, k.2⟩
theorem HB.frozen (k : HB w b h) (j : Nat) : w.frozen? ⟨b, j, none⟩ = false := Joins.unfrozen_of_block k.1 j
theorem HB.cells (k : HB w b h) : w.cell? ⟨b, 0, none⟩ = some (.int .u64 h.e) ∧ w.cell? ⟨b, 1, none⟩ = some (.int .i64 h.s) ∧ w.cell? ⟨b, 2, none⟩ = some (.int .i64 h.f) :=
  ⟨cell_of_row w b 0 _ _ _ k.1, cell_of_row w b 1 _ _ _ k.1, cell_of_row w b 2 _ _ _ k.1⟩
theorem HB.head (k : HB w b h) (i : Nat) (hi : i < 4) : w.cell? ⟨b, 3 + i, none⟩ = some (.int .i64 (h.l.getD i 0)) := by
  rw [cell_of_row w b (3 + i) _ _ _ k.1, hv_get i (by rw [k.2]; exact hi)]
theorem hv_set (h : Hdr) (i : Nat) (x : Int) : (hv h).setIfInBounds (3 + i) (.int .i64 x) = hv ⟨h.e, h.s, h.f, h.l.set i x⟩ := by
  unfold hv
  rw [← il_set, Nat.add_comm]
  simp
theorem HB.stored (k : HB w b h) (i : Nat) (x : Int) : HB (w.setCell ⟨b, 3 + i, none⟩ (.int .i64 x)) b ⟨h.e, h.s, h.f, h.l.set i x⟩ :=
  ⟨by rw [← hv_set]; exact Joins.block_setCell k.1 _, by simpa using k.2⟩
theorem HB.load4 (k : HB w b h) : (loadVar 23 ⟨b, 3, none⟩).run Tryd.prog w = .ok (.agg (lv h.l)) w := by
  have hl : (loadCells ⟨b, 3, none⟩ (il .i64 h.l).length).run Tryd.prog w = .ok (il .i64 h.l).toArray w :=
    run_loadCells_list (P := Tryd.prog) w ⟨b, 3, none⟩ (il .i64 h.l) (fun j v hv => by
      have hadd : (⟨b, 3, none⟩ : Addr).add j = ⟨b, 3 + j, none⟩ := by unfold Addr.add; split <;> simp_all
      have hj : j < h.l.length := by have := (List.getElem?_eq_some_iff.1 hv).1; rwa [il_length] at this
      rw [il_get _ _ _ hj] at hv
      rw [hadd, k.head j (by rw [← k.2]; exact hj)]
      exact hv)
  have hi : (Tryd.prog.info? 23).map (·.size) = some 4 := by kernel_rfl
  cases hq : Tryd.prog.info? 23 with
  | none => simp [hq] at hi
  | some i =>
    have hs : i.size = 4 := by simpa [hq] using hi
    have hagg : (isAgg 23).run Tryd.prog w = .ok true w := by
      unfold isAgg
      rw [Sem.run_bind, run_underlying Tryd.underlying23 w]
      rfl
    rw [il_length, k.2] at hl
    simp [loadVar, Sem.run_bind, hagg, sizeOf, typeInfo, hq, hs, hl, lv]
section
variable {o : Oper} {a : Act} {ops : Array Oper} {rest : List Oper} {Q : Exit → Act → World → Prop}
theorem exec_load_hd (x : Operand) (ho : o.op = .load 25 x) (hx : a.eval x = .pointer (some ⟨b, 0, none⟩)) (k : HB w b h) :
    (execOp a.eval o).run Tryd.prog w = .ok (.value (.agg (hv h))) w := by
  unfold execOp
  simp only [ho, hx, Instr.loadAt, Instr.sureAddr, Sem.run_bind, Sem.run_pure, Result.andThen_ok, k.load]
theorem exec_load_l4 (x : Operand) (ho : o.op = .load 23 x) (hx : a.eval x = .pointer (some ⟨b, 3, none⟩)) (k : HB w b h) :
    (execOp a.eval o).run Tryd.prog w = .ok (.value (.agg (lv h.l))) w := by
  unfold execOp
  simp only [ho, hx, Instr.loadAt, Instr.sureAddr, Sem.run_bind, Sem.run_pure, Result.andThen_ok, k.load4]
/-- a header is loaded, guarded or not -/
theorem wpl_load_hd (hw : Region.wanted o (yielded ops a.tmps) = true) (x : Operand) (ho : o.op = .load 25 x) (hx : a.eval x = .pointer (some ⟨b, 0, none⟩)) (k : HB w b h)
    (hk : wpList Tryd.prog ops Q rest (a.put o.dst (.agg (hv h))) w) : wpList Tryd.prog ops Q (o :: rest) a w := by
  unfold wpList
  rw [if_pos hw]
  exact Or.inl (wp_load_row 25 x ho b hx _ (hv h) (0, 0) _ k.1 Tryd.underlying25 rfl (hv_info k.2) hk)
theorem wpl_valh (hw : o.guard = none) {v : Value} (he : (execOp a.eval o).run Tryd.prog w = .ok (.value v) w) (hk : wpList Tryd.prog ops Q rest (a.put o.dst v) w) : wpList Tryd.prog ops Q (o :: rest) a w := by
  refine wpList_plain hw fun K hK => ?_
  unfold Oper.wp
  rw [he]
  simp only [Oper.upon]
  exact hK _ _ hk
/-- its heads are -/
theorem wpl_load_l4 (hg : o.guard = none) (x : Operand) (ho : o.op = .load 23 x) (hx : a.eval x = .pointer (some ⟨b, 3, none⟩)) (k : HB w b h)
    (hk : wpList Tryd.prog ops Q rest (a.put o.dst (.agg (lv h.l))) w) : wpList Tryd.prog ops Q (o :: rest) a w :=
  wpl_valh hg (exec_load_l4 x ho hx k) hk
theorem index_l4 (l : List Int) (hn : l.length = 4) (i : Nat) (hi : i < 4) (w : World) : (Instr.index 23 (.agg (lv l)) (.int .i64 i)).run Tryd.prog w = .ok (.int .i64 (l.getD i 0)) w := by
  have hg : (lv l)[i]? = some (.int .i64 (l.getD i 0)) := by have := il_get .i64 l i (by omega); simpa [lv] using this
  have hp := run_part_plain (P := Tryd.prog) (w := w) (e := 3) (by kernel_rfl) hg
  have hk : (0 : Int) ≤ i ∧ (i : Int) < (4 : Nat) := by omega
  have hs : (sizeOf 3).run Tryd.prog w = .ok 1 w := by
    have : (Tryd.prog.info? 3).map (·.size) = some 1 := by kernel_rfl
    cases hq : Tryd.prog.info? 3 with
    | none => simp [hq] at this
    | some i => simp [hq] at this; simp [sizeOf, typeInfo, hq, this]
  simp [Instr.index, run_underlying Tryd.underlying23, asIntOf, hk, Sem.run_bind, hs, hp]
  omega
end
end
theorem run_items4 {w : World} (a b : List Int) (ha : a.length = 4) (hb : b.length = 4) : ∀ is : List Nat, (∀ i ∈ is, i < 4) →
    (Op.eqItems 9998 3 1 (lv a) (lv b) is).run Tryd.prog w = .ok (is.all fun i => a.getD i 0 == b.getD i 0) w
  | [], _ => by simp [Op.eqItems]
  | i :: is, h => by
    have hi : i < 4 := h i (by simp)
    have g : ∀ l : List Int, l.length = 4 → (lv l)[i * 1]? = some (.int .i64 (l.getD i 0)) := fun l hl => by have := il_get .i64 l i (by omega); rw [Nat.mul_one]; simpa [lv] using this
    have p1 := run_part_plain (P := Tryd.prog) (w := w) (e := 3) (by kernel_rfl) (g a ha)
    have p2 := run_part_plain (P := Tryd.prog) (w := w) (e := 3) (by kernel_rfl) (g b hb)
    have p3 := run_equalIn_int (P := Tryd.prog) w 9997 3 .i64 .i64 (a.getD i 0) (b.getD i 0) Tryd.underlying3
    have p4 := run_items4 (w := w) a b ha hb is (fun j hj => h j (List.mem_cons_of_mem _ hj))
    simp only [Op.eqItems, Sem.run_bind, p1, p2, Result.andThen_ok, List.all_cons]
    rw [p3]
    simp only [Result.andThen_ok]
    cases hc : (a.getD i 0 == b.getD i 0)
    · simp
    · simpa using p4
theorem run_eq_l4 (a b : List Int) (ha : a.length = 4) (hb : b.length = 4) (w : World) : (Op.equalIn 9999 23 (.agg (lv a)) (.agg (lv b))).run Tryd.prog w = .ok (decide (a = b)) w := by
  obtain ⟨i, hi⟩ : ∃ i, Tryd.prog.info? 3 = some i := info_of_underlying Tryd.underlying3
  have hc : Tryd.prog.cellsOf 3 = 1 := by kernel_rfl
  have h1 := run_equalIn_array w (P := Tryd.prog) 9998 (lv a) (lv b) Tryd.underlying23 hi
  rw [hc, run_items4 a b ha hb _ (fun i hi => List.mem_range.1 hi)] at h1
  rw [h1]
  refine congrArg (fun x => Result.ok x w) ?_
  rw [Bool.eq_iff_iff, List.all_eq_true, decide_eq_true_eq]
  constructor
  · intro h
    refine List.ext_getElem (by omega) fun j h1 h2 => ?_
    have := h j (List.mem_range.2 (by omega))
    simpa [List.getD, h1, h2] using this
  · rintro rfl j _
    simp
theorem part_l4 {h : Hdr} (hn : h.l.length = 4) (w : World) : (part 23 (hv h) 3).run Tryd.prog w = .ok (.agg (lv h.l)) w := by
  have hi : (Tryd.prog.info? 23).map (·.size) = some 4 := by kernel_rfl
  cases hq : Tryd.prog.info? 23 with
  | none => simp [hq] at hi
  | some i =>
    have hs : i.size = 4 := by simpa [hq] using hi
    have hagg : (isAgg 23).run Tryd.prog w = .ok true w := by
      unfold isAgg
      rw [Sem.run_bind, run_underlying Tryd.underlying23 w]
      rfl
    have he : (hv h).extract 3 7 = lv h.l := by
      apply Array.ext'
      simp [hv, lv, il]
      exact List.take_of_length_le (by simp [hn])
    simp [part, Sem.run_bind, hagg, sizeOf, typeInfo, hq, hs, he]
theorem run_eq_hd (x y : Hdr) (hx : x.l.length = 4) (hy : y.l.length = 4) (w : World) : (Op.equalIn 10000 25 (.agg (hv x)) (.agg (hv y))).run Tryd.prog w = .ok (decide (x = y)) w := by
  have hp : Tryd.prog.stoodInHeld 25 = false := by kernel_rfl
  rw [run_equalIn_struct w 9999 25 _ _ (by simp only [Program.fieldsOf, Tryd.underlying25]) hp]
  simp only [Program.fieldsOf, Tryd.underlying25]
  have p0 := fun (h : Hdr) => run_part_plain (P := Tryd.prog) (w := w) (e := 22) (by kernel_rfl) (xs := hv h) (off := 0) (v := .int .u64 h.e) rfl
  have p1 := fun (h : Hdr) => run_part_plain (P := Tryd.prog) (w := w) (e := 3) (by kernel_rfl) (xs := hv h) (off := 1) (v := .int .i64 h.s) rfl
  have p2 := fun (h : Hdr) => run_part_plain (P := Tryd.prog) (w := w) (e := 3) (by kernel_rfl) (xs := hv h) (off := 2) (v := .int .i64 h.f) rfl
  have q0 := run_equalIn_int (P := Tryd.prog) w 9998 22 .u64 .u64 x.e y.e Tryd.underlying22
  have q1 := run_equalIn_int (P := Tryd.prog) w 9998 3 .i64 .i64 x.s y.s Tryd.underlying3
  have q2 := run_equalIn_int (P := Tryd.prog) w 9998 3 .i64 .i64 x.f y.f Tryd.underlying3
  have q3 := run_eq_l4 x.l y.l hx hy w
  have p3 := part_l4 hx w
  have p4 := part_l4 hy w
  have e : decide (x = y) = ((x.e == y.e) && ((x.s == y.s) && ((x.f == y.f) && decide (x.l = y.l)))) := by
    obtain ⟨a, b, c, d⟩ := x
    obtain ⟨a', b', c', d'⟩ := y
    rw [Bool.eq_iff_iff]; simp [Hdr.mk.injEq]
  rw [e]
  simp only [Op.eqFields, Sem.run_bind, Sem.run_ite, p0, p1, p2, p3, p4, q0, q1, q2, q3, Result.andThen_ok]
  cases (x.e == y.e) <;> cases (x.s == y.s) <;> cases (x.f == y.f) <;> cases decide (x.l = y.l) <;> simp
theorem run_eql_hd (x y : Hdr) (hx : x.l.length = 4) (hy : y.l.length = 4) (w : World) : (binOp .eql 25 (.agg (hv x)) (.agg (hv y))).run Tryd.prog w = .ok (.bool (decide (x = y))) w := by
  rw [run_eql_struct, run_eq_hd x y hx hy]; rfl
theorem run_neq_hd (x y : Hdr) (hx : x.l.length = 4) (hy : y.l.length = 4) (w : World) : (binOp .neq 25 (.agg (hv x)) (.agg (hv y))).run Tryd.prog w = .ok (.bool (!decide (x = y))) w := by
  rw [run_neq_struct, run_eq_hd x y hx hy]; rfl
theorem hd_guard : Tryd.prog.eqGuardType Tryd.prog.depth 25 = false := by kernel_rfl
theorem exec_eq_hd {a : Act} {o : Oper} {w : World} {c d : Hdr} (hc : c.l.length = 4) (hd : d.l.length = 4) (x y : Operand) (u : TypeId) (ho : o.op = .binOp .eql 25 x y u) (hx : a.eval x = .agg (hv c)) (hy : a.eval y = .agg (hv d)) :
    (execOp a.eval o).run Tryd.prog w = .ok (.value (.bool (decide (c = d)))) w := by
  unfold execOp
  simp only [ho, hx, hy, Sem.run_bind, run_eqGuard_agg w .eql 25 x y _ _ hd_guard, Result.andThen_ok, run_eql_hd c d hc hd, Sem.run_pure]
theorem exec_neq_hd {a : Act} {o : Oper} {w : World} {c d : Hdr} (hc : c.l.length = 4) (hd : d.l.length = 4) (x y : Operand) (u : TypeId) (ho : o.op = .binOp .neq 25 x y u) (hx : a.eval x = .agg (hv c)) (hy : a.eval y = .agg (hv d)) :
    (execOp a.eval o).run Tryd.prog w = .ok (.value (.bool (!decide (c = d)))) w := by
  unfold execOp
  simp only [ho, hx, hy, Sem.run_bind, run_eqGuard_agg w .neq 25 x y _ _ hd_guard, Result.andThen_ok, run_neq_hd c d hc hd, Sem.run_pure]
end Go.Proofs.YtncnmmillhnhlaaDoor
