/-
  STEPS OF THE WALK for sectors and headers: zeros that are built, '==', what stands behind a header's fields as an array of its own. Nothing here speaks of the program's functions. No condition.
-/
import Derived.Test.YtncnmmillhnhlaaDoorHeadOps
namespace Go.Proofs.YtncnmmillhnhlaaDoor
open Go.RowKit
section
variable {o : Oper} {a : Act} {w : World} {Q : Exit → Act → World → Prop} {ops : Array Oper} {rest : List Oper}
theorem wpl_valw (hw : Region.wanted o (yielded ops a.tmps) = true) {v : Value} (he : (execOp a.eval o).run Tryd.prog w = .ok (.value v) w) (hk : wpList Tryd.prog ops Q rest (a.put o.dst v) w) : wpList Tryd.prog ops Q (o :: rest) a w := by
  unfold wpList
  rw [if_pos hw]
  refine Or.inl ?_
  unfold Oper.wp
  rw [he]
  simp only [Oper.upon]
  exact hk
theorem sec_zero : (Tryd.prog.info? 27).bind (·.zero) = some (.agg (sv z64)) := by kernel_rfl
theorem exec_build_sec (ho : o.op = .build 27 #[]) : (execOp a.eval o).run Tryd.prog w = .ok (.value (.agg (sv z64))) w := by
  unfold execOp
  simp only [ho]
  have h : (Instr.build 27 #[]).run Tryd.prog w = .ok (.agg (sv z64)) w := by kernel_rfl
  simp [h, Result.andThen]
theorem exec_eq_sec (zs ys : List Int) (hz : zs.length = 64) (hy : ys.length = 64) (x y : Operand) (u : TypeId) (ho : o.op = .binOp .eql 27 x y u) (hx : a.eval x = .agg (sv zs)) (hye : a.eval y = .agg (sv ys)) :
    (execOp a.eval o).run Tryd.prog w = .ok (.value (.bool (decide (zs = ys)))) w := by
  unfold execOp
  have hg : Tryd.prog.eqGuardType Tryd.prog.depth 27 = false := by kernel_rfl
  have he : (binOp .eql 27 (.agg (sv zs)) (.agg (sv ys))).run Tryd.prog w = .ok (.bool (decide (zs = ys))) w := by
    rw [run_eql_struct, run_eq_sec zs ys hz hy]; rfl
  simp only [ho, hx, hye, Sem.run_bind, run_eqGuard_agg w .eql 27 x y _ _ hg, Result.andThen_ok, he, Sem.run_pure]
end
/-- what stands behind a header's fields, as a value -/
def z23 : List Int := List.replicate 23 0
theorem z23_length : z23.length = 23 := by simp [z23]
theorem rest_info (zs : List Int) (h : zs.length = 23) : (Tryd.prog.info? 44).map (·.size) = some (sv zs).size := by
  rw [sv_size, h]; kernel_rfl
theorem run_items23 {w : World} (a b : List Int) (ha : a.length = 23) (hb : b.length = 23) : ∀ is : List Nat, (∀ i ∈ is, i < 23) →
    (Op.eqItems 9999 5 1 (sv a) (sv b) is).run Tryd.prog w = .ok (is.all fun i => a.getD i 0 == b.getD i 0) w
  | [], _ => by simp [Op.eqItems]
  | i :: is, h => by
    have hi : i < 23 := h i (by simp)
    have p1 := run_part_plain (P := Tryd.prog) (w := w) (e := 5) (by kernel_rfl) (xs := sv a) (off := i * 1) (v := .int .u8 (a.getD i 0)) (by rw [Nat.mul_one]; exact sv_get a i (by omega))
    have p2 := run_part_plain (P := Tryd.prog) (w := w) (e := 5) (by kernel_rfl) (xs := sv b) (off := i * 1) (v := .int .u8 (b.getD i 0)) (by rw [Nat.mul_one]; exact sv_get b i (by omega))
    have p3 := run_equalIn_int (P := Tryd.prog) w 9998 5 .u8 .u8 (a.getD i 0) (b.getD i 0) Tryd.underlying5
    have p4 := run_items23 (w := w) a b ha hb is (fun j hj => h j (List.mem_cons_of_mem _ hj))
    simp only [Op.eqItems, Sem.run_bind, p1, p2, Result.andThen_ok, List.all_cons]
    rw [p3]
    simp only [Result.andThen_ok]
    cases hc : (a.getD i 0 == b.getD i 0)
    · simp
    · simpa using p4
theorem run_eq_rest (a b : List Int) (ha : a.length = 23) (hb : b.length = 23) (w : World) : (Op.equalIn 10000 44 (.agg (sv a)) (.agg (sv b))).run Tryd.prog w = .ok (decide (a = b)) w := by
  obtain ⟨i, hi⟩ : ∃ i, Tryd.prog.info? 5 = some i := info_of_underlying Tryd.underlying5
  have hc : Tryd.prog.cellsOf 5 = 1 := by kernel_rfl
  have h1 := run_equalIn_array w (P := Tryd.prog) 9999 (sv a) (sv b) Tryd.underlying44 hi
  rw [hc, run_items23 a b ha hb _ (fun i hi => List.mem_range.1 hi)] at h1
  rw [h1]
  refine congrArg (fun x => Result.ok x w) ?_
  rw [Bool.eq_iff_iff, List.all_eq_true, decide_eq_true_eq]
  constructor
  · intro h
    refine List.ext_getElem (by omega) fun j h1 h2 => ?_
    have := h j (List.mem_range.2 (by omega))
    simpa [List.getD, h1, h2] using this
  · rintro rfl j _
    simp
theorem run_load_rest {w : World} {b : Nat} {zs : List Int} (h : Blk w b zs) : (loadVar 44 ⟨b, 41, none⟩).run Tryd.prog w = .ok (.agg (sv (zs.drop 41))) w := by
  have hl23 : (zs.drop 41).length = 23 := by simp [h.2]
  have hl : (loadCells ⟨b, 41, none⟩ (il .u8 (zs.drop 41)).length).run Tryd.prog w = .ok (il .u8 (zs.drop 41)).toArray w :=
    run_loadCells_list (P := Tryd.prog) w ⟨b, 41, none⟩ (il .u8 (zs.drop 41)) (fun j v hv => by
      have hadd : (⟨b, 41, none⟩ : Addr).add j = ⟨b, 41 + j, none⟩ := by unfold Addr.add; split <;> simp_all
      have hj : j < (zs.drop 41).length := by have := (List.getElem?_eq_some_iff.1 hv).1; rwa [il_length] at this
      rw [il_get _ _ _ hj] at hv
      rw [hadd, h.cell (41 + j) (by omega), ← hv]
      simp [List.getD])
  have hi := rest_info (zs.drop 41) hl23
  cases hq : Tryd.prog.info? 44 with
  | none => simp [hq] at hi
  | some i =>
    have hs : i.size = 23 := by simpa [hq, sv_size, hl23] using hi
    have hagg : (isAgg 44).run Tryd.prog w = .ok true w := by
      unfold isAgg
      rw [Sem.run_bind, run_underlying Tryd.underlying44 w]
      rfl
    rw [il_length, hl23] at hl
    simp [loadVar, Sem.run_bind, hagg, sizeOf, typeInfo, hq, hs, hl, sv]
section
variable {o : Oper} {a : Act} {w : World}
theorem exec_load_rest {b : Nat} {zs : List Int} (x : Operand) (ho : o.op = .load 44 x) (hx : a.eval x = .pointer (some ⟨b, 41, none⟩)) (h : Blk w b zs) :
    (execOp a.eval o).run Tryd.prog w = .ok (.value (.agg (sv (zs.drop 41)))) w := by
  unfold execOp
  simp only [ho, hx, Instr.loadAt, Instr.sureAddr, Sem.run_bind, Sem.run_pure, Result.andThen_ok, run_load_rest h]
theorem exec_ptr_rest (x : Operand) (ho : o.op = .sliceToArrayPointer 44 x) (p : Option Addr) (n c : Nat) (hx : a.eval x = .slice p n c) (h : 23 ≤ n) :
    (execOp a.eval o).run Tryd.prog w = .ok (.value (.pointer p)) w := by
  have hn : ¬ n < 23 := by omega
  unfold execOp
  simp only [ho, hx, Instr.arrayAt, Sem.run_bind, run_underlying Tryd.underlying44, Result.andThen_ok]
  simp [hn, Result.andThen]
theorem exec_build_rest (ho : o.op = .build 44 #[]) : (execOp a.eval o).run Tryd.prog w = .ok (.value (.agg (sv z23))) w := by
  unfold execOp
  simp only [ho]
  have h : (Instr.build 44 #[]).run Tryd.prog w = .ok (.agg (sv z23)) w := by kernel_rfl
  simp [h, Result.andThen]
theorem exec_neq_rest (zs ys : List Int) (hz : zs.length = 23) (hy : ys.length = 23) (x y : Operand) (u : TypeId) (ho : o.op = .binOp .neq 44 x y u) (hx : a.eval x = .agg (sv zs)) (hye : a.eval y = .agg (sv ys)) :
    (execOp a.eval o).run Tryd.prog w = .ok (.value (.bool (!decide (zs = ys)))) w := by
  unfold execOp
  have hg : Tryd.prog.eqGuardType Tryd.prog.depth 44 = false := by kernel_rfl
  have he : (binOp .neq 44 (.agg (sv zs)) (.agg (sv ys))).run Tryd.prog w = .ok (.bool (!decide (zs = ys))) w := by
    rw [run_neq_struct, run_eq_rest zs ys hz hy]; rfl
  simp only [ho, hx, hye, Sem.run_bind, run_eqGuard_agg w .neq 44 x y _ _ hg, Result.andThen_ok, he, Sem.run_pure]
end
section
variable {o : Oper} {a : Act} {w : World} {Q : Exit → Act → World → Prop} {ops : Array Oper} {rest : List Oper}
/-! the same as steps: what the operation is comes first, so that a step that isn't meant fails at once -/
theorem wpl_build_sec (ho : o.op = .build 27 #[]) (hw : Region.wanted o (yielded ops a.tmps) = true) (hk : wpList Tryd.prog ops Q rest (a.put o.dst (.agg (sv z64))) w) : wpList Tryd.prog ops Q (o :: rest) a w :=
  wpl_valw hw (exec_build_sec ho) hk
theorem wpl_eq_sec (x y : Operand) (u : TypeId) (ho : o.op = .binOp .eql 27 x y u) (zs ys : List Int) (hz : zs.length = 64) (hy : ys.length = 64) (hx : a.eval x = .agg (sv zs)) (hye : a.eval y = .agg (sv ys)) (hw : Region.wanted o (yielded ops a.tmps) = true)
    (hk : wpList Tryd.prog ops Q rest (a.put o.dst (.bool (decide (zs = ys)))) w) : wpList Tryd.prog ops Q (o :: rest) a w := wpl_valw hw (exec_eq_sec zs ys hz hy x y u ho hx hye) hk
theorem wpl_neq_hd (x y : Operand) (u : TypeId) (ho : o.op = .binOp .neq 25 x y u) {c d : Hdr} (hc : c.l.length = 4) (hd : d.l.length = 4) (hx : a.eval x = .agg (hv c)) (hye : a.eval y = .agg (hv d)) (hw : Region.wanted o (yielded ops a.tmps) = true)
    (hk : wpList Tryd.prog ops Q rest (a.put o.dst (.bool (!decide (c = d)))) w) : wpList Tryd.prog ops Q (o :: rest) a w := wpl_valw hw (exec_neq_hd hc hd x y u ho hx hye) hk
theorem wpl_load_rest (x : Operand) (ho : o.op = .load 44 x) {b : Nat} {zs : List Int} (hx : a.eval x = .pointer (some ⟨b, 41, none⟩)) (h : Blk w b zs) (hw : Region.wanted o (yielded ops a.tmps) = true)
    (hk : wpList Tryd.prog ops Q rest (a.put o.dst (.agg (sv (zs.drop 41)))) w) : wpList Tryd.prog ops Q (o :: rest) a w := wpl_valw hw (exec_load_rest x ho hx h) hk
theorem wpl_ptr_rest (x : Operand) (ho : o.op = .sliceToArrayPointer 44 x) (p : Option Addr) (n c : Nat) (hx : a.eval x = .slice p n c) (h : 23 ≤ n) (hw : Region.wanted o (yielded ops a.tmps) = true)
    (hk : wpList Tryd.prog ops Q rest (a.put o.dst (.pointer p)) w) : wpList Tryd.prog ops Q (o :: rest) a w := wpl_valw hw (exec_ptr_rest x ho p n c hx h) hk
theorem wpl_build_rest (ho : o.op = .build 44 #[]) (hw : Region.wanted o (yielded ops a.tmps) = true) (hk : wpList Tryd.prog ops Q rest (a.put o.dst (.agg (sv z23))) w) : wpList Tryd.prog ops Q (o :: rest) a w :=
  wpl_valw hw (exec_build_rest ho) hk
theorem wpl_neq_rest (x y : Operand) (u : TypeId) (ho : o.op = .binOp .neq 44 x y u) (zs ys : List Int) (hz : zs.length = 23) (hy : ys.length = 23) (hx : a.eval x = .agg (sv zs)) (hye : a.eval y = .agg (sv ys)) (hw : Region.wanted o (yielded ops a.tmps) = true)
    (hk : wpList Tryd.prog ops Q rest (a.put o.dst (.bool (!decide (zs = ys)))) w) : wpList Tryd.prog ops Q (o :: rest) a w := wpl_valw hw (exec_neq_rest zs ys hz hy x y u ho hx hye) hk
end
end Go.Proofs.YtncnmmillhnhlaaDoor
