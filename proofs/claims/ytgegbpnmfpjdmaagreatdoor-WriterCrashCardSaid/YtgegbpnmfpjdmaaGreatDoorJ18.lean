/-
  TEXTS JOINED: HeadOps, HeadArm, SegArm, HeadFd, PutGet, HeadGet, HeadLay. Each one's own words stand at its head.
-/
import Derived.Test.YtgegbpnmfpjdmaaGreatDoorJ17
import Derived.Test.YtgegbpnmfpjdmaaGreatDoorJ15
import Derived.Great.BuildSlice
import Derived.Test.YtgegbpnmfpjdmaaGreatDoorJ16
namespace Go.Proofs.YtgegbpnmfpjdmaaGreatDoor
open Go.RowKit
section
variable {o : Oper} {a : Act} {w : World} {K : Act → World → Prop} {Q : Exit → Act → World → Prop} {ops : Array Oper} {rest : List Oper}
theorem wp_new_hd (ho : o.op = .alloc 30) (h : ∀ g w', Hid (HB w' g noH) → Hid (w.heap.size ≤ g) → Hid (Below w.heap.size w w') → K (a.put o.dst (.pointer (some ⟨g, 0, none⟩))) w') : Oper.wp Tryz.prog o a w K Q := by
  have h1 := h w.heap.size (w.alloc (.cells (hv noH) 30)) (HB.new w noH rfl) (Nat.le_refl _) (balloc w _)
  unfold Oper.wp execOp
  simp [ho, go_sem]
  exact h1
theorem wp_put_hd (x y : Operand) (ho : o.op = .store 30 x y) (g : Nat) (h0 h1 : Hdr) (hk : HB w g h0) (hn : h1.l.length = 4) (hx : a.eval x = .pointer (some ⟨g, 0, none⟩)) (hy : a.eval y = .agg (hv h1))
    (h : ∀ w', Hid (HB w' g h1) → Hid (w.grownBy w' (some g)) → K (a.put o.dst undef) w') : Oper.wp Tryz.prog o a w K Q :=
  wp_store_row 30 x y ho g (hv h1) hx hy _ (hv h0) hk.1 (hv_info hn) (by rw [hv_size hk.2, hv_size hn]) (hv_one _) (h _ (Lib.hid (hk.row hn)) (Lib.hid (hgrown_row _ _ _)))
theorem wpl_put_hd (hg : o.guard = none) (x y : Operand) (ho : o.op = .store 30 x y) (g : Nat) (h0 h1 : Hdr) (hk : HB w g h0) (hn : h1.l.length = 4) (hx : a.eval x = .pointer (some ⟨g, 0, none⟩)) (hy : a.eval y = .agg (hv h1))
    (h : ∀ w', Hid (HB w' g h1) → Hid (w.grownBy w' (some g)) → wpList Tryz.prog ops Q rest (a.put o.dst undef) w') : wpList Tryz.prog ops Q (o :: rest) a w :=
  wpList_plain hg fun _ hK => wp_put_hd x y ho g h0 h1 hk hn hx hy fun w' h2 h3 => hK _ _ (h w' h2 h3)
theorem wpl_put_sec (hg : o.guard = none) (x y : Operand) (ho : o.op = .store 60 x y) (g : Nat) (l0 l1 : List Int) (hk : Blk w g l0) (hn : l1.length = 64) (hx : a.eval x = .pointer (some ⟨g, 0, none⟩)) (hy : a.eval y = .agg (sv l1))
    (h : ∀ w', Hid (Blk w' g l1) → Hid (w.grownBy w' (some g)) → wpList Tryz.prog ops Q rest (a.put o.dst undef) w') : wpList Tryz.prog ops Q (o :: rest) a w :=
  wpList_store_row hg 60 x y ho g (sv l1) hx hy _ (sv l0) hk.1 (sv_info _ hn) (by rw [sv_size, sv_size, hk.2, hn]) (sv_one _) (h _ (Lib.hid (hk.row hn)) (Lib.hid (hgrown_row _ _ _)))
end
theorem HB.over {w w' : World} {b g : Nat} {h : Hdr} (k : HB w b h) (hg : w.grownBy w' (some g)) (hne : b ≠ g) : HB w' b h := ⟨(hg.block b k.lt (fun e => hne (Option.some.inj e))).trans k.1, k.2⟩
theorem Blk.over {w w' : World} {b g : Nat} {l : List Int} (k : Blk w b l) (hg : w.grownBy w' (some g)) (hne : b ≠ g) : Blk w' b l :=
  ⟨(hg.block b (Array.getElem?_eq_some_iff.1 k.1).1 (fun e => hne (Option.some.inj e))).trans k.1, k.2⟩
theorem hbelow_grown {w0 w w' : World} {B g : Nat} (h : Below B w0 w) (hg : w.grownBy w' (some g)) (hB : B ≤ g) (h0 : B ≤ w.heap.size) : Below B w0 w' :=
  h.grown hg h0 (fun q hq => by obtain rfl := Option.some.inj hq; exact hB)
end Go.Proofs.YtgegbpnmfpjdmaaGreatDoor
namespace Go.Proofs.YtgegbpnmfpjdmaaGreatDoor
open Go.RowKit
section
variable {o : Oper} {a : Act} {w : World} {Q : Exit → Act → World → Prop} {ops : Array Oper} {rest : List Oper}
theorem wpl_valw (hw : Region.wanted o (yielded ops a.tmps) = true) {v : Value} (he : (execOp a.eval o).run Tryz.prog w = .ok (.value v) w) (hk : wpList Tryz.prog ops Q rest (a.put o.dst v) w) : wpList Tryz.prog ops Q (o :: rest) a w := by
  unfold wpList
  rw [if_pos hw]
  refine Or.inl ?_
  unfold Oper.wp
  rw [he]
  simp only [Oper.upon]
  exact hk
theorem exec_build_sec (ho : o.op = .build 60 #[]) : (execOp a.eval o).run Tryz.prog w = .ok (.value (.agg (sv z64))) w := by
  unfold execOp
  simp only [ho]
  have h : (Instr.build 60 #[]).run Tryz.prog w = .ok (.agg (sv z64)) w := by kernel_rfl
  simp [h, Result.andThen]
theorem exec_eq_sec (zs ys : List Int) (hz : zs.length = 64) (hy : ys.length = 64) (x y : Operand) (u : TypeId) (ho : o.op = .binOp .eql 60 x y u) (hx : a.eval x = .agg (sv zs)) (hye : a.eval y = .agg (sv ys)) :
    (execOp a.eval o).run Tryz.prog w = .ok (.value (.bool (decide (zs = ys)))) w := by
  unfold execOp
  have hg : Tryz.prog.eqGuardType Tryz.prog.depth 60 = false := by kernel_rfl
  have he : (binOp .eql 60 (.agg (sv zs)) (.agg (sv ys))).run Tryz.prog w = .ok (.bool (decide (zs = ys))) w := by
    rw [run_eql_struct, run_eq_sec zs ys hz hy]; rfl
  simp only [ho, hx, hye, Sem.run_bind, run_eqGuard_agg w .eql 60 x y _ _ hg, Result.andThen_ok, he, Sem.run_pure]
end
def z23 : List Int := List.replicate 23 0
theorem z23_length : z23.length = 23 := by simp [z23]
theorem rest_info (zs : List Int) (h : zs.length = 23) : (Tryz.prog.info? 151).map (·.size) = some (sv zs).size := by
  rw [sv_size, h]; kernel_rfl
theorem run_items23 {w : World} (a b : List Int) (ha : a.length = 23) (hb : b.length = 23) : ∀ is : List Nat, (∀ i ∈ is, i < 23) →
    (Op.eqItems 9999 5 1 (sv a) (sv b) is).run Tryz.prog w = .ok (is.all fun i => a.getD i 0 == b.getD i 0) w
  | [], _ => by simp [Op.eqItems]
  | i :: is, h => by
    have hi : i < 23 := h i (by simp)
    have p1 := run_part_plain (P := Tryz.prog) (w := w) (e := 5) (by kernel_rfl) (xs := sv a) (off := i * 1) (v := .int .u8 (a.getD i 0)) (by rw [Nat.mul_one]; exact sv_get a i (by omega))
    have p2 := run_part_plain (P := Tryz.prog) (w := w) (e := 5) (by kernel_rfl) (xs := sv b) (off := i * 1) (v := .int .u8 (b.getD i 0)) (by rw [Nat.mul_one]; exact sv_get b i (by omega))
    have p3 := run_equalIn_int (P := Tryz.prog) w 9998 5 .u8 .u8 (a.getD i 0) (b.getD i 0) Tryz.underlying5
    have p4 := run_items23 (w := w) a b ha hb is (fun j hj => h j (List.mem_cons_of_mem _ hj))
    simp only [Op.eqItems, Sem.run_bind, p1, p2, Result.andThen_ok, List.all_cons]
    rw [p3]
    simp only [Result.andThen_ok]
    cases hc : (a.getD i 0 == b.getD i 0)
    · simp
    · simpa using p4
theorem run_eq_rest (a b : List Int) (ha : a.length = 23) (hb : b.length = 23) (w : World) : (Op.equalIn 10000 151 (.agg (sv a)) (.agg (sv b))).run Tryz.prog w = .ok (decide (a = b)) w := by
  obtain ⟨i, hi⟩ : ∃ i, Tryz.prog.info? 5 = some i := info_of_underlying Tryz.underlying5
  have hc : Tryz.prog.cellsOf 5 = 1 := by kernel_rfl
  have h1 := run_equalIn_array w (P := Tryz.prog) 9999 (sv a) (sv b) Tryz.underlying151 hi
  rw [hc, run_items23 a b ha hb _ (fun i hi => List.mem_range.1 hi)] at h1
  rw [h1]
  refine congrArg (fun x => Result.ok x w) ?_
  rw [Bool.eq_iff_iff, List.all_eq_true, decide_eq_true_eq]
  constructor
  · intro h
    refine List.ext_getElem (by omega) fun j h1 h2 => ?_
    have := h j (List.mem_range.2 (by omega))
    simpa [List.getD, h1, h2] using this
  · rintro rfl j _
    simp
theorem run_load_rest {w : World} {b : Nat} {zs : List Int} (h : Blk w b zs) : (loadVar 151 ⟨b, 41, none⟩).run Tryz.prog w = .ok (.agg (sv (zs.drop 41))) w := by
  have hl23 : (zs.drop 41).length = 23 := by simp [h.2]
  have hl : (loadCells ⟨b, 41, none⟩ (il .u8 (zs.drop 41)).length).run Tryz.prog w = .ok (il .u8 (zs.drop 41)).toArray w :=
    run_loadCells_list (P := Tryz.prog) w ⟨b, 41, none⟩ (il .u8 (zs.drop 41)) (fun j v hv => by
      have hadd : (⟨b, 41, none⟩ : Addr).add j = ⟨b, 41 + j, none⟩ := by unfold Addr.add; split <;> simp_all
      have hj : j < (zs.drop 41).length := by have := (List.getElem?_eq_some_iff.1 hv).1; rwa [il_length] at this
      rw [il_get _ _ _ hj] at hv
      rw [hadd, h.cell (41 + j) (by omega), ← hv]
      simp [List.getD])
  have hi := rest_info (zs.drop 41) hl23
  cases hq : Tryz.prog.info? 151 with
  | none => simp [hq] at hi
  | some i =>
    have hs : i.size = 23 := by simpa [hq, sv_size, hl23] using hi
    have hagg : (isAgg 151).run Tryz.prog w = .ok true w := by
      unfold isAgg
      rw [Sem.run_bind, run_underlying Tryz.underlying151 w]
      rfl
    rw [il_length, hl23] at hl
    simp [loadVar, Sem.run_bind, hagg, sizeOf, typeInfo, hq, hs, hl, sv]
section
variable {o : Oper} {a : Act} {w : World}
theorem exec_load_rest {b : Nat} {zs : List Int} (x : Operand) (ho : o.op = .load 151 x) (hx : a.eval x = .pointer (some ⟨b, 41, none⟩)) (h : Blk w b zs) :
    (execOp a.eval o).run Tryz.prog w = .ok (.value (.agg (sv (zs.drop 41)))) w := by
  unfold execOp
  simp only [ho, hx, Instr.loadAt, Instr.sureAddr, Sem.run_bind, Sem.run_pure, Result.andThen_ok, run_load_rest h]
theorem exec_ptr_rest (x : Operand) (ho : o.op = .sliceToArrayPointer 151 x) (p : Option Addr) (n c : Nat) (hx : a.eval x = .slice p n c) (h : 23 ≤ n) :
    (execOp a.eval o).run Tryz.prog w = .ok (.value (.pointer p)) w := by
  have hn : ¬ n < 23 := by omega
  unfold execOp
  simp only [ho, hx, Instr.arrayAt, Sem.run_bind, run_underlying Tryz.underlying151, Result.andThen_ok]
  simp [hn, Result.andThen]
theorem exec_build_rest (ho : o.op = .build 151 #[]) : (execOp a.eval o).run Tryz.prog w = .ok (.value (.agg (sv z23))) w := by
  unfold execOp
  simp only [ho]
  have h : (Instr.build 151 #[]).run Tryz.prog w = .ok (.agg (sv z23)) w := by kernel_rfl
  simp [h, Result.andThen]
theorem exec_neq_rest (zs ys : List Int) (hz : zs.length = 23) (hy : ys.length = 23) (x y : Operand) (u : TypeId) (ho : o.op = .binOp .neq 151 x y u) (hx : a.eval x = .agg (sv zs)) (hye : a.eval y = .agg (sv ys)) :
    (execOp a.eval o).run Tryz.prog w = .ok (.value (.bool (!decide (zs = ys)))) w := by
  unfold execOp
  have hg : Tryz.prog.eqGuardType Tryz.prog.depth 151 = false := by kernel_rfl
  have he : (binOp .neq 151 (.agg (sv zs)) (.agg (sv ys))).run Tryz.prog w = .ok (.bool (!decide (zs = ys))) w := by
    rw [run_neq_struct, run_eq_rest zs ys hz hy]; rfl
  simp only [ho, hx, hye, Sem.run_bind, run_eqGuard_agg w .neq 151 x y _ _ hg, Result.andThen_ok, he, Sem.run_pure]
end
section
variable {o : Oper} {a : Act} {w : World} {Q : Exit → Act → World → Prop} {ops : Array Oper} {rest : List Oper}
theorem wpl_build_z (ho : o.op = .build 60 #[]) (hw : Region.wanted o (yielded ops a.tmps) = true) (hk : wpList Tryz.prog ops Q rest (a.put o.dst (.agg (sv z64))) w) : wpList Tryz.prog ops Q (o :: rest) a w :=
  wpl_valw hw (exec_build_sec ho) hk
theorem wpl_eq_sec (x y : Operand) (u : TypeId) (ho : o.op = .binOp .eql 60 x y u) (zs ys : List Int) (hz : zs.length = 64) (hy : ys.length = 64) (hx : a.eval x = .agg (sv zs)) (hye : a.eval y = .agg (sv ys)) (hw : Region.wanted o (yielded ops a.tmps) = true)
    (hk : wpList Tryz.prog ops Q rest (a.put o.dst (.bool (decide (zs = ys)))) w) : wpList Tryz.prog ops Q (o :: rest) a w := wpl_valw hw (exec_eq_sec zs ys hz hy x y u ho hx hye) hk
theorem wpl_load_rest (x : Operand) (ho : o.op = .load 151 x) {b : Nat} {zs : List Int} (hx : a.eval x = .pointer (some ⟨b, 41, none⟩)) (h : Blk w b zs) (hw : Region.wanted o (yielded ops a.tmps) = true)
    (hk : wpList Tryz.prog ops Q rest (a.put o.dst (.agg (sv (zs.drop 41)))) w) : wpList Tryz.prog ops Q (o :: rest) a w := wpl_valw hw (exec_load_rest x ho hx h) hk
theorem wpl_ptr_rest (x : Operand) (ho : o.op = .sliceToArrayPointer 151 x) (p : Option Addr) (n c : Nat) (hx : a.eval x = .slice p n c) (h : 23 ≤ n) (hw : Region.wanted o (yielded ops a.tmps) = true)
    (hk : wpList Tryz.prog ops Q rest (a.put o.dst (.pointer p)) w) : wpList Tryz.prog ops Q (o :: rest) a w := wpl_valw hw (exec_ptr_rest x ho p n c hx h) hk
theorem wpl_build_rest (ho : o.op = .build 151 #[]) (hw : Region.wanted o (yielded ops a.tmps) = true) (hk : wpList Tryz.prog ops Q rest (a.put o.dst (.agg (sv z23))) w) : wpList Tryz.prog ops Q (o :: rest) a w :=
  wpl_valw hw (exec_build_rest ho) hk
theorem wpl_neq_rest (x y : Operand) (u : TypeId) (ho : o.op = .binOp .neq 151 x y u) (zs ys : List Int) (hz : zs.length = 23) (hy : ys.length = 23) (hx : a.eval x = .agg (sv zs)) (hye : a.eval y = .agg (sv ys)) (hw : Region.wanted o (yielded ops a.tmps) = true)
    (hk : wpList Tryz.prog ops Q rest (a.put o.dst (.bool (!decide (zs = ys)))) w) : wpList Tryz.prog ops Q (o :: rest) a w := wpl_valw hw (exec_neq_rest zs ys hz hy x y u ho hx hye) hk
end
end Go.Proofs.YtgegbpnmfpjdmaaGreatDoor
namespace Go.Proofs.YtgegbpnmfpjdmaaGreatDoor
open Go.RowKit
section
variable {o : Oper} {a : Act} {w : World} {Q : Exit → Act → World → Prop} {ops : Array Oper} {rest : List Oper}
theorem wpl_store_newH {w1 : World} (hgd : o.guard = none) (x y : Operand) (ho : o.op = .store 30 x y) (hw : w = w1.alloc (.cells (hv noH) 30)) (g : Nat) (hg : w1.heap.size = g) (h1 : Hdr) (hn : h1.l.length = 4)
    (hx : a.eval x = .pointer (some ⟨g, 0, none⟩)) (hy : a.eval y = .agg (hv h1)) (h : ∀ w', Hid (HB w' g h1) → Hid (Below w1.heap.size w1 w') → wpList Tryz.prog ops Q rest (a.put o.dst undef) w') : wpList Tryz.prog ops Q (o :: rest) a w := by
  subst hw; subst hg
  refine wpl_put_hd hgd x y ho w1.heap.size noH h1 (HB.new w1 noH rfl) hn hx hy fun w' k1 k2 => h w' k1 (Lib.hid ?_)
  exact hbelow_grown (balloc w1 _) k2.out (Nat.le_refl _) (by rw [alloc_size]; omega)
theorem wpl_load_hs {b : Nat} {h : Hdr} (hw : Region.wanted o (yielded ops a.tmps) = true) (x : Operand) (ho : o.op = .load 3 x) (hx : a.eval x = .pointer (some ⟨b, 1, none⟩)) (k : HB w b h)
    (hk : wpList Tryz.prog ops Q rest (a.put o.dst (.int .i64 h.s)) w) : wpList Tryz.prog ops Q (o :: rest) a w := by
  refine wpl_valw hw ?_ hk
  unfold execOp
  have := k.cells.2.1
  simp only [ho, hx]
  simp [go_sem, this]
theorem wpl_copy_rowAt (hgd : o.guard = none) (d s : Operand)
    (ho : o.op = .call { callee := .builtin .copy, args := #[d, s], argTypes := #[48, 48] }) (g at_ dLen dCap : Nat) (cur : List Int) (hblk : RW w g cur) (hcur : cur.length = at_ + dLen * 64)
    (hd : a.eval d = .slice (some ⟨g, at_, none⟩) dLen dCap) (v : Value) (n : Nat) (fs : List Int) (hs : a.eval s = v) (hfs : FS w v n fs) (hnd : n ≤ dLen)
    (h : ∀ w', Hid (RW w' g (splice cur at_ fs)) → Hid (w.grownBy w' (some g)) → wpList Tryz.prog ops Q rest (a.put o.dst (goInt (n : Int))) w') : wpList Tryz.prog ops Q (o :: rest) a w := by
  obtain ⟨sp, sCap, rfl, hl, _, _, _, hc⟩ := hfs
  have hcl : (il .u8 fs).length = n * 64 := by rw [il_length, hl]
  have hmin : Nat.min n dLen = n := Nat.min_eq_left hnd
  have hsz : (Tryz.prog.info? 60).map (·.size) = some 64 := by kernel_rfl
  obtain ⟨i, hi, hi64⟩ := Option.map_eq_some_iff.1 hsz
  refine wpList_plain hgd fun K hK => ?_
  by_cases h0 : n = 0
  · subst h0
    obtain rfl : fs = [] := List.eq_nil_of_length_eq_zero (by simpa using hl)
    have hrun : (Builtin.copy_ #[48, 48] o.type #[.slice (some ⟨g, at_, none⟩) dLen dCap, .slice sp 0 sCap]).run Tryz.prog w = .ok (goInt 0) w := by
      cases sp <;> simp [Builtin.copy_, run_underlying Tryz.underlying48, Builtin.lenOf, Builtin.firstCells, loadCells, loadCellsFrom, sizeOf, typeInfo, hi, storeCells]
    unfold Oper.wp
    simp [execOp, ho, resolve, invoke, builtin, hd, hs, hrun, Result.andThen]
    exact hK _ _ (h w (Lib.hid (by simpa [splice] using hblk)) (grown_refl _ _))
  · obtain ⟨b, of2, rfl, hcell⟩ := hc (by omega)
    have hsrc : ∀ j u, (il .u8 fs)[j]? = some u → w.cell? ((⟨b, of2, none⟩ : Addr).add j) = some u := by
      intro j u hj
      have hjl : j < fs.length := by have := (List.getElem?_eq_some_iff.1 hj).1; rwa [il_length] at this
      rw [il_get _ _ _ hjl] at hj
      rw [Addr.add_mid, hcell j (by omega)]; exact hj
    have hle : n * 64 ≤ dLen * 64 := Nat.mul_le_mul_right _ hnd
    have hld := run_loadCells_list (P := Tryz.prog) w ⟨b, of2, none⟩ (il .u8 fs) hsrc
    have hst := run_storeCells_at (P := Tryz.prog) g at_ 60 (il .u8 fs) 0 (il .u8 cur).toArray w hblk (by rw [hcl]; simp [il_length, hcur]; omega) (il_one _ _)
    rw [hcl] at hld
    have hrun : (Builtin.copy_ #[48, 48] o.type #[.slice (some ⟨g, at_, none⟩) dLen dCap, .slice (some ⟨b, of2, none⟩) n sCap]).run Tryz.prog w = .ok (goInt (n : Int)) (w.setRow g (splice (il .u8 cur) at_ (il .u8 fs)).toArray) := by
      simp [Builtin.copy_, run_underlying Tryz.underlying48, Builtin.lenOf, Builtin.firstCells, sizeOf, typeInfo, hi, hi64, hmin, hld, hst, splice]
    unfold Oper.wp
    simp [execOp, ho, resolve, invoke, builtin, hd, hs, hrun, Result.andThen]
    refine hK _ _ (h _ (Lib.hid ?_) (Lib.hid (grown_row _ _ _)))
    rw [il_splice]
    exact setRow_at hblk _
end
end Go.Proofs.YtgegbpnmfpjdmaaGreatDoor
namespace Go.Proofs.YtgegbpnmfpjdmaaGreatDoor
open Go.RowKit
def FD (w : World) (base : Nat) (v : Value) (l : List Int) : Prop := ∃ p, v = .slice (some ⟨p, 0, none⟩) l.length l.length ∧ base ≤ p ∧ RI .u8 w v l.length l
theorem FD.keep {w w' : World} {base : Nat} {v : Value} {l : List Int} (h : FD w base v l) (hb : Below w.heap.size w w') : FD w' base v l := by
  obtain ⟨p, e, h1, h2⟩ := h; exact ⟨p, e, h1, h2.keep hb⟩
theorem FD.over {w w' : World} {base g : Nat} {v : Value} {l : List Int} (h : FD w base v l) (hg : w.grownBy w' (some g)) (hlt : g < base) : FD w' base v l := by
  obtain ⟨p, rfl, h1, h2⟩ := h
  refine ⟨p, rfl, h1, h2.over _ hg fun _ q hq e => ?_⟩
  have hq' : some p = some q := hq
  have := Option.some.inj hq'
  have := Option.some.inj e
  omega
theorem FD.same {w w' : World} {base : Nat} {v : Value} {l : List Int} (h : FD w base v l) (hs : ∀ a, w'.cell? a = w.cell? a) : FD w' base v l := by
  obtain ⟨p, e, h1, a, cap, e2, k1, k2, k3, k4, hc⟩ := h
  refine ⟨p, e, h1, a, cap, e2, k1, k2, k3, k4, fun h0 => ?_⟩
  obtain ⟨b, off, ha, hcell⟩ := hc h0
  exact ⟨b, off, ha, fun j hj => (hs _).trans (hcell j hj)⟩
theorem FD.ri {w : World} {base : Nat} {v : Value} {l : List Int} (h : FD w base v l) : RI .u8 w v l.length l := by
  obtain ⟨p, _, _, ho⟩ := h; exact ho
theorem FD.of {w : World} {base base' p n : Nat} {l : List Int} (ho : w.ownsRow base' 5 1 (.slice (some ⟨p, 0, none⟩) n n) n (il .u8 l)) (hb : base ≤ base') : FD w base (.slice (some ⟨p, 0, none⟩) n n) l := by
  have hl : l.length = n := by have := ho.1; rw [il_length] at this; omega
  subst hl
  exact ⟨p, rfl, Nat.le_trans hb (ho.lt p rfl).1, RI.own ho⟩
def MK (w : World) (g : Nat) : Prop := w.heap[g]? = some (.cells (il .u8 mark).toArray 5 (0, 0))
theorem MK.keep {w w' : World} {g : Nat} (h : MK w g) (hb : Below w.heap.size w w') : MK w' g := (hb.block g (Array.getElem?_eq_some_iff.1 h).1).trans h
theorem rl_lit {w : World} {g gl base n : Nat} {vs : List Value} {ls : List (List Int)} (hb : w.heap[gl]? = some (.cells vs.toArray 43 (0, 0))) (hg : g < base) (hgl : base ≤ gl) (hv : vs.length = n) (hl : ls.length = n) (hn : n ≤ 1000)
    (hf : ∀ (j : Nat) (v : Value) (l : List Int), vs[j]? = some v → ls[j]? = some l → FD w base v l) : ∀ w', w.grownBy w' (some g) → RL .u8 w' (.slice (some ⟨gl, 0, none⟩) n n) n ls := by
  intro w' hw
  have hb' : w'.heap[gl]? = some (.cells vs.toArray 43 (0, 0)) := (hw.block gl (Array.getElem?_eq_some_iff.1 hb).1 (fun e => by have := Option.some.inj e; omega)).trans hb
  refine ⟨vs, ⟨_, n, rfl, hv, Nat.le_refl _, by omega, fun h => by simp at h, fun _ => ⟨gl, 0, rfl, fun j hj => ?_⟩⟩, hl, fun j e l he hl2 => ((hf j e l he hl2).over hw hg).ri⟩
  rw [Nat.zero_add, cell_of_row w' gl j _ _ _ hb']
  simp
theorem info_bs : (Tryz.prog.info? 43).map (fun i => (i.zero, i.size, i.bytes)) = some (some (.slice none 0 0), 1, 24) := by kernel_rfl
section
variable {o : Oper} {a : Act} {w : World} {K : Act → World → Prop} {Q : Exit → Act → World → Prop} {ops : Array Oper} {rest : List Oper}
theorem wp_lit4 (x0 x1 x2 x3 : Operand) (ho : o.op = .buildSlice 23 4 #[(0, x0), (1, x1), (2, x2), (3, x3)]) (p0 p1 p2 p3 : Option Addr) (n0 n1 n2 n3 c0 c1 c2 c3 : Nat)
    (h0 : a.eval x0 = .slice p0 n0 c0) (h1 : a.eval x1 = .slice p1 n1 c1) (h2 : a.eval x2 = .slice p2 n2 c2) (h3 : a.eval x3 = .slice p3 n3 c3)
    (h : ∀ gl w', Hid (w'.heap[gl]? = some (.cells [Value.slice p0 n0 c0, .slice p1 n1 c1, .slice p2 n2 c2, .slice p3 n3 c3].toArray 43 (0, 0))) → Hid (w.heap.size ≤ gl) → Hid (Below w.heap.size w w') → K (a.put o.dst (.slice (some ⟨gl, 0, none⟩) 4 4)) w') : Oper.wp Tryz.prog o a w K Q := by
  obtain ⟨i, hi, hz0, hz1, hz2⟩ := info_parts info_bs
  refine wp_buildSlice 23 43 4 _ ho [Value.slice p0 n0 c0, .slice p1 n1 c1, .slice p2 n2 c2, .slice p3 n3 c3].toArray i (.slice none 0 0) Tryz.underlying23 hi hz0 (by rw [hz1]; omega) (by rw [hz1]; omega) ?_ (h w.heap.size _ (heap_alloc_last w _) (Nat.le_refl _) (balloc w _))
  rw [hz1]
  simp only [List.map_toArray, List.map_cons, List.map_nil, h0, h1, h2, h3]
  exact Great.fill_flat [Value.slice p0 n0 c0, .slice p1 n1 c1, .slice p2 n2 c2, .slice p3 n3 c3] _ (fun v hv => by simp only [List.mem_cons, List.not_mem_nil, or_false] at hv; rcases hv with rfl | rfl | rfl | rfl <;> rfl) (by simp)
theorem wp_lit1 (x0 : Operand) (ho : o.op = .buildSlice 23 1 #[(0, x0)]) (p0 : Option Addr) (n0 c0 : Nat) (h0 : a.eval x0 = .slice p0 n0 c0)
    (h : ∀ gl w', Hid (w'.heap[gl]? = some (.cells [Value.slice p0 n0 c0].toArray 43 (0, 0))) → Hid (w.heap.size ≤ gl) → Hid (Below w.heap.size w w') → K (a.put o.dst (.slice (some ⟨gl, 0, none⟩) 1 1)) w') : Oper.wp Tryz.prog o a w K Q := by
  obtain ⟨i, hi, hz0, hz1, hz2⟩ := info_parts info_bs
  refine wp_buildSlice 23 43 1 _ ho [Value.slice p0 n0 c0].toArray i (.slice none 0 0) Tryz.underlying23 hi hz0 (by rw [hz1]; omega) (by rw [hz1]; omega) ?_ (h w.heap.size _ (heap_alloc_last w _) (Nat.le_refl _) (balloc w _))
  rw [hz1]
  simp only [List.map_toArray, List.map_cons, List.map_nil, h0]
  exact Great.fill_flat [Value.slice p0 n0 c0] _ (fun v hv => by simp only [List.mem_cons, List.not_mem_nil, or_false] at hv; subst hv; rfl) (by simp)
theorem wpl_lit1 (hg : o.guard = none) (x0 : Operand) (ho : o.op = .buildSlice 23 1 #[(0, x0)]) (p0 : Option Addr) (n0 c0 : Nat) (h0 : a.eval x0 = .slice p0 n0 c0)
    (h : ∀ gl w', Hid (w'.heap[gl]? = some (.cells [Value.slice p0 n0 c0].toArray 43 (0, 0))) → Hid (w.heap.size ≤ gl) → Hid (Below w.heap.size w w') → wpList Tryz.prog ops Q rest (a.put o.dst (.slice (some ⟨gl, 0, none⟩) 1 1)) w') : wpList Tryz.prog ops Q (o :: rest) a w :=
  wpList_plain hg fun _ hK => wp_lit1 x0 ho p0 n0 c0 h0 fun gl w' h1 h2 h3 => hK _ _ (h gl w' h1 h2 h3)
theorem wp_mark (ho : o.op = .buildSlice 43 5 #[(0, .const (.int .u8 115)), (1, .const (.int .u8 116)), (2, .const (.int .u8 114)), (3, .const (.int .u8 100)), (4, .const (.int .u8 1))])
    (h : ∀ g w', Hid (MK w' g) → Hid (w.heap.size ≤ g) → Hid (Below w.heap.size w w') → K (a.put o.dst (.slice (some ⟨g, 0, none⟩) 5 5)) w') : Oper.wp Tryz.prog o a w K Q := by
  obtain ⟨i, hi, hz0, hz1, hz2⟩ := info_parts Tryz.info_u8
  refine wp_buildSlice 43 5 5 _ ho (il .u8 mark).toArray i (.int .u8 0) Tryz.underlying43 hi hz0 (by rw [hz1]; omega) (by rw [hz1]; omega) ?_ (h w.heap.size _ (Lib.hid (heap_alloc_last w _)) (Nat.le_refl _) (balloc w _))
  rw [hz1]
  rw [parts_eval a #[(0, .const (.int .u8 115)), (1, .const (.int .u8 116)), (2, .const (.int .u8 114)), (3, .const (.int .u8 100)), (4, .const (.int .u8 1))] .u8 mark rfl]
  exact Great.fill_flat (il .u8 mark) _ (fun v hv => by obtain ⟨x, _, rfl⟩ := List.mem_map.1 hv; rfl) (by simp [il, mark])
theorem freeze_cell (w : World) (p : Addr) (n : Nat) (b : Addr) : (w.freeze p n).cell? b = w.cell? b := by
  unfold World.freeze
  by_cases hn : n = 0
  · rw [if_pos hn]
  · rw [if_neg hn]
    unfold World.cell?
    simp only [Array.getElem?_modify]
    by_cases hp : p.block = b.block
    · rw [if_pos hp]
      cases w.heap[b.block]? with
      | none => rfl
      | some x => cases x <;> rfl
    · rw [if_neg hp]
theorem freeze_grown (w : World) (p : Addr) (n : Nat) : w.grownBy (w.freeze p n) (some p.block) := by
  unfold World.freeze
  split
  · exact hgrown_refl _ _
  · exact ⟨rfl, rfl, rfl, by simp, fun i hi hne => by simp only [Array.getElem?_modify]; rw [if_neg (fun e => hne (by rw [e]))]⟩
theorem wp_conv_mark (x : Operand) (ho : o.op = .convert 43 43 x) (g : Nat) (hx : a.eval x = .slice (some ⟨g, 0, none⟩) 5 5) (hk : MK w g)
    (h : ∀ w', Hid (∀ b, w'.cell? b = w.cell? b) → Hid (w.grownBy w' (some g)) → K (a.put o.dst (.slice (some ⟨g, 0, none⟩) 5 5)) w') : Oper.wp Tryz.prog o a w K Q := by
  have hsh : w.shape? g = some (5, 5) := by unfold World.shape?; rw [hk]; rfl
  have hrun : (convert 43 43 (.slice (some ⟨g, 0, none⟩) 5 5)).run Tryz.prog w = .ok (.slice (some ⟨g, 0, none⟩) 5 5) (w.freeze ⟨g, 5, none⟩ 1) := by
    simp [convert, run_underlying Tryz.underlying43, run_underlying Tryz.underlying5, markStringish, hsh]
  unfold Oper.wp execOp
  simp only [ho, hx, Sem.run_bind, hrun, Result.andThen_ok, Sem.run_pure, Oper.upon]
  exact h _ (Lib.hid fun b => freeze_cell _ _ _ b) (Lib.hid (freeze_grown w ⟨g, 5, none⟩ 1))
theorem fd_mark {w : World} {g base : Nat} (hk : MK w g) (hb : base ≤ g) : FD w base (.slice (some ⟨g, 0, none⟩) 5 5) mark :=
  ⟨g, rfl, hb, _, 5, rfl, rfl, Nat.le_refl _, by omega, fun h => by simp at h, fun _ => ⟨g, 0, rfl, fun j hj => by
    rw [Nat.zero_add, cell_of_row w g j _ _ _ hk]
    simpa using il_get .u8 mark j hj⟩⟩
end
end Go.Proofs.YtgegbpnmfpjdmaaGreatDoor
namespace Go.Proofs.YtgegbpnmfpjdmaaGreatDoor
open Go.RowKit
set_option maxHeartbeats 400000 in
theorem get_some (b off len cap : Nat) (zs : List Int) (w : World) (hz : Bytes zs) (hlen : 0 < len) (hmax : len ≤ 9223372036854775807)
    (hc : ∀ j, j < len → w.cell? ⟨b, off + j, none⟩ = some (.int .u8 (zs.getD j 0))) :
    Calls Tryz.prog 120 #[.slice (some ⟨b, off, none⟩) len cap] w fun e w' => e = .returned (.int .u64 (getI zs (min len 8))) ∧ w = w' := by
  obtain ⟨m, hm, hm1, hm2, hm3⟩ : ∃ m : Nat, min len 8 = m ∧ m ≤ len ∧ m ≤ 8 ∧ (m = len ∨ m = 8) := ⟨_, rfl, by omega, by omega, by omega⟩
  rw [hm]
  have HM := Lib.hid hm; clear hm
  go_enter Tryz.func120, Tryz.ntmps120
  rcases (by have := HM.out; omega : (len : Int) ≤ 8 ∧ len ≤ m ∨ 8 < (len : Int) ∧ 8 ≤ m) with ⟨h8, hl⟩ | ⟨h8, hl⟩
  all_goals
    go_wp2
    go_loop [3, 8] (fun n i => ∃ k : Nat, k ≤ m ∧ i = .int .i64 k ∧ n = .int .u64 (getI zs k)) (fun _ i => m - (intOf i).toNat)
    case atStart => exact ⟨0, by omega, rfl, rfl⟩
    case round =>
      obtain ⟨k, hk, rfl, rfl⟩ := hrel
      have hb : 0 ≤ zs[k]?.getD 0 ∧ zs[k]?.getD 0 ≤ 255 := hz k
      by_cases hlt : k < m
      · have hcell : w.cell? ⟨b, off + k, none⟩ = some (.int .u8 (zs.getD k 0)) := hc k (by omega)
        have HG := Lib.hid (getI_or zs hz k (by omega))
        go_wp2
        go_round
        case rel => exact ⟨k + 1, by omega, by go_num, by rw [← HG.out]; rfl⟩
        case measure => simp [intOf]; omega
      · go_wp2
        go_ret
        exact ⟨ret_int (by congr 1; omega), rfl⟩
end Go.Proofs.YtgegbpnmfpjdmaaGreatDoor
namespace Go.Proofs.YtgegbpnmfpjdmaaGreatDoor
open Go.RowKit
theorem hword_put (x : Int) (n : Nat) (hn : n ≤ 8) (w : World) :
    Calls Tryz.prog 115 #[.int .u64 x, .int .i64 n] w fun e w' => e = .returned (.slice (some ⟨w.heap.size, 0, none⟩) n n) ∧ w'.ownsRow w.heap.size 5 1 (.slice (some ⟨w.heap.size, 0, none⟩) n n) n (il .u8 (putL x n)) ∧ Below w.heap.size w w' :=
  (put_any x n n (by unfold I63; omega) (by unfold clampI; omega) w).mono fun _ _ ⟨he, ho, hb⟩ => ⟨he, ho, hb⟩
theorem hword_get (b off len cap : Nat) (zs : List Int) (w : World) (hr : RI .u8 w (.slice (some ⟨b, off, none⟩) len cap) len zs) (hz : Bytes zs) (h0 : 0 < len) :
    Calls Tryz.prog 120 #[.slice (some ⟨b, off, none⟩) len cap] w fun e w' => e = .returned (.int .u64 (getI zs (min len 8))) ∧ w = w' := by
  obtain ⟨b2, off2, c2, e, _, _, hcell⟩ := hr.open_ h0
  simp only [Value.slice.injEq, Option.some.injEq, Addr.mk.injEq, and_true, true_and] at e
  obtain ⟨⟨rfl, rfl⟩, rfl⟩ := e
  exact get_some b off len cap zs w hz h0 hr.le hcell
theorem sec_get (g p n : Nat) (zs : List Int) (w : World) (hk : Blk w g zs) (hb : isB zs) (hp : p + n ≤ 64) (h0 : 0 < n) (h8 : n ≤ 8) {m : Int} (hm : num zs p n = m) :
    Calls Tryz.prog 120 #[.slice (some ⟨g, p, none⟩) n (64 - p)] w fun e w' => e = .returned (.int .u64 m) ∧ w = w' := by
  have h := hword_get g p n (64 - p) ((zs.drop p).take n) w (hk.ri p n (64 - p) hp (by omega) (by omega)) (bytes_of_mem ((hb.drop p).take n)) h0
  rw [Nat.min_eq_left h8, getI_take _ n n (Nat.le_refl _)] at h
  rw [← hm]; exact h
theorem number_any (n : Int) (h0 : 0 ≤ n) (h1 : n ≤ 2147483647) (w : World) :
    Calls Tryz.prog 128 #[.int .i64 n] w fun e w' => e = .returned (.slice (some ⟨w.heap.size, 0, none⟩) 4 4) ∧ w'.ownsRow w.heap.size 5 1 (.slice (some ⟨w.heap.size, 0, none⟩) 4 4) 4 (il .u8 (putL n 4)) ∧ Below w.heap.size w w' := by
  have HP : Hid (Calls Tryz.prog 115 #[.int .u64 n, .int .i64 4] w fun e w' => e = .returned (.slice (some ⟨w.heap.size, 0, none⟩) 4 4) ∧ w'.ownsRow w.heap.size 5 1 (.slice (some ⟨w.heap.size, 0, none⟩) 4 4) 4 (il .u8 (putL n 4)) ∧ Below w.heap.size w w') := Lib.hid (hword_put n 4 (by omega) w)
  go_enter Tryz.func128, Tryz.ntmps128
  go_wp2_with (first
    | (go_at_call 115; (with_reducible refine (HP.out).mono ?_); rintro e w1 ⟨rfl, ho, hb⟩; have HO := Lib.hid ho; have HB := Lib.hid hb; clear ho hb))
  go_ret
  exact ⟨rfl, HO.out, HB.out⟩
set_option maxRecDepth 8000 in
set_option maxHeartbeats 1000000 in
theorem hget_any (zs : List Int) (hl : zs.length = 64) (hb : isB zs) (p : Nat) (hp : p + 4 ≤ 64) (w : World) {m : Int} (hm : num zs p 4 = m) :
    Calls Tryz.prog 121 #[.agg (sv zs), .int .i64 p] w fun e w' => e = .returned (.int .i64 m) ∧ Below w.heap.size w w' := by
  have hbd := num_bd hb p 4
  rw [hm] at hbd
  have hbd1 : 0 ≤ m ∧ m < 4294967296 := by omega
  obtain ⟨w0, hw0⟩ : ∃ q, w.alloc (.cells (sv zs) 60) = q := ⟨_, rfl⟩
  have hk0 : Blk w0 w.heap.size zs := by rw [← hw0]; exact Blk.new w zs hl
  have HW := Lib.hid (show Below w.heap.size w w0 from by rw [← hw0]; exact below_alloc w _)
  have HG := Lib.hid (sec_get w.heap.size p 4 zs w0 hk0 hb hp (by omega) (by omega) hm)
  obtain ⟨q, hq⟩ : ∃ q, 64 - p = q := ⟨_, rfl⟩
  rw [hq] at HG
  have hp2 : (p : Int) ≤ 60 := by omega
  obtain ⟨t, ht⟩ : ∃ t : Nat, (p : Int) + 4 = (t : Int) := ⟨p + 4, by omega⟩
  have hp3 : (t : Int) ≤ 64 := by omega
  have hp4 : (p : Int) ≤ (t : Int) := by omega
  have hp5 : t - p = 4 := by omega
  have hp6 : ¬ 64 = p := by omega
  clear hbd hb hl hm hk0
  go_enter Tryz.func121, Tryz.ntmps121
  go_wp2_with (first
    | (go_at_call 120; (with_reducible refine (HG.out).mono ?_); rintro e w' ⟨rfl, rfl⟩))
  go_ret
  exact ⟨rfl, HW.out⟩
theorem hsum_any {w : World} (hT : Tab w) (zs : List Int) (hl : zs.length = 64) (hb : isB zs) {m : Nat} (hm : maskS (ofS (zs.take 37)) = m) :
    Calls Tryz.prog 101 #[.agg (sv zs)] w fun e w' => ∃ p, e = .returned (.slice (some ⟨p, 0, none⟩) 4 4) ∧ w'.ownsRow w.heap.size 5 1 (.slice (some ⟨p, 0, none⟩) 4 4) 4 (il .u8 (putL m 4)) ∧ Below w.heap.size w w' := by
  obtain ⟨w0, hw0⟩ : ∃ q, w.alloc (.cells (sv zs) 60) = q := ⟨_, rfl⟩
  have hk0 : Blk w0 w.heap.size zs := by rw [← hw0]; exact Blk.new w zs hl
  have hb0 : Below w.heap.size w w0 := by rw [← hw0]; exact below_alloc w _
  have HW := Lib.hid hb0
  obtain ⟨o, ho⟩ : ∃ o, ofS (zs.take 37) = o := ⟨_, rfl⟩
  rw [ho] at hm
  have hr := hk0.ri 0 37 64 (by omega) (by omega) (by omega)
  rw [List.drop_zero] at hr
  have HO : Hid (Calls Tryz.prog 119 #[.slice (some ⟨w.heap.size, 0, none⟩) 37 64] w0 fun e w' => e = .returned (.int .u32 o) ∧ w0 = w') := Lib.hid (of_any (hT.keep hb0) hr (hb.take 37) ho)
  have HK : Hid (∀ w, Calls Tryz.prog 118 #[.int .u32 o] w fun e w' => e = .returned (.int .u32 m) ∧ w = w') := Lib.hid fun w => mask_any o m (by rw [← ho]; exact ofS_lt _) hm w
  have hm9 : (m : Int) ≤ 4294967295 := by have := maskS_lt o; omega
  have HP : Hid (∀ w, Calls Tryz.prog 115 #[.int .u64 m, .int .i64 4] w fun e w' => e = .returned (.slice (some ⟨w.heap.size, 0, none⟩) 4 4) ∧ w'.ownsRow w.heap.size 5 1 (.slice (some ⟨w.heap.size, 0, none⟩) 4 4) 4 (il .u8 (putL m 4)) ∧ Below w.heap.size w w') := Lib.hid (hword_put m 4 (by omega))
  clear hT hb hl hm ho hr hk0 hb0
  go_enter Tryz.func101, Tryz.ntmps101
  go_wp2_with (first
    | (go_at_call 119; (with_reducible refine (HO.out).mono ?_); rintro e w' ⟨rfl, rfl⟩)
    | (go_at_call 118; (with_reducible refine (HK.out _).mono ?_); rintro e w' ⟨rfl, rfl⟩)
    | (go_at_call 115; (with_reducible refine (HP.out _).mono ?_); rintro e w2 ⟨rfl, ho2, hb2⟩; have HO2 := Lib.hid ho2; have HB2 := Lib.hid hb2; clear ho2 hb2))
  go_ret
  exact ⟨_, rfl, own_mono HO2.out HW.out.size, bch HW.out HB2.out⟩
end Go.Proofs.YtgegbpnmfpjdmaaGreatDoor
namespace Go.Proofs.YtgegbpnmfpjdmaaGreatDoor
open Go.RowKit
def p0 (e s f : Int) : List Int := mark ++ putL e 8 ++ putL s 4 ++ putL f 4
theorem p0_length (e s f : Int) : (p0 e s f).length = 21 := by simp [p0, putL_length, mark_length]
theorem p0_flat (e s f : Int) : [mark, putL e 8, putL s 4, putL f 4].flatten = p0 e s f := by simp [p0]
theorem put4_take (l : List Int) (i : Nat) (hi : i < l.length) : put4 (l.take i) ++ putL (l.getD i 0) 4 = put4 (l.take (i + 1)) := by
  rw [List.take_succ_eq_append_getElem hi, put4_snoc]
  simp [List.getD, hi]
theorem fd_one {w : World} {base : Nat} {v : Value} {l : List Int} (h : FD w base v l) : ∀ (j : Nat) (x : Value) (k : List Int), [v][j]? = some x → [l][j]? = some k → FD w base x k := by
  intro j x k hx hk
  match j with
  | 0 => simp at hx hk; subst hx; subst hk; exact h
  | j + 1 => simp at hx
theorem fd_four {w : World} {base : Nat} {v0 v1 v2 v3 : Value} {l0 l1 l2 l3 : List Int} (h0 : FD w base v0 l0) (h1 : FD w base v1 l1) (h2 : FD w base v2 l2) (h3 : FD w base v3 l3) :
    ∀ (j : Nat) (x : Value) (k : List Int), [v0, v1, v2, v3][j]? = some x → [l0, l1, l2, l3][j]? = some k → FD w base x k := by
  intro j x k hx hk
  match j with
  | 0 => simp at hx hk; subst hx; subst hk; exact h0
  | 1 => simp at hx hk; subst hx; subst hk; exact h1
  | 2 => simp at hx hk; subst hx; subst hk; exact h2
  | 3 => simp at hx hk; subst hx; subst hk; exact h3
  | j + 4 => simp at hx
theorem lay_done (h : Hdr) (hn : h.l.length = 4) : isB (splice z64 0 (headP h)) ∧ (splice z64 0 (headP h)).take 37 = headP h ∧ splice (splice z64 0 (headP h)) 37 (putL (headS h) 4) = secH h := by
  have hl := headP_length hn
  have e0 : splice z64 0 (headP h) = headP h ++ z64.drop 37 := by unfold splice; rw [List.take_zero, List.nil_append, hl]
  refine ⟨by rw [e0]; exact (headP_bytes h).append ((zeros_bytes 64).drop 37), by rw [e0, List.take_left' hl], ?_⟩
  have h2 := splice_more z64 0 (headP h) (putL (headS h) 4) (by rw [hl, z64_length]; omega)
  rw [hl, Nat.zero_add] at h2
  rw [h2]
  unfold splice secH headB
  rw [List.take_zero, List.nil_append, List.length_append, hl, putL_length]
  rfl
structure LS (W : World) (h : Hdr) (w : World) : Prop where
  below : Below W.heap.size W w
  sz : W.heap.size + 3 ≤ w.heap.size
  hb : HB w W.heap.size h
  old : Blk w (W.heap.size + 1) z64
theorem LS.next {W w w' : World} {h : Hdr} (k : LS W h w) (hb : Below w.heap.size w w') : LS W h w' := ⟨bch k.below hb, Nat.le_trans k.sz hb.size, k.hb.keep hb, k.old.keep hb⟩
theorem LS.over {W w w' : World} {h : Hdr} (k : LS W h w) (hg : w.grownBy w' (some (W.heap.size + 2))) : LS W h w' :=
  ⟨hbelow_grown k.below hg (by omega) k.below.size, Nat.le_trans k.sz hg.size, k.hb.over hg (by omega), k.old.over hg (by omega)⟩
theorem LS.overq {W w w' : World} {h : Hdr} {q : Nat} (k : LS W h w) (hg : w.grownBy w' (some q)) (hq : W.heap.size + 3 ≤ q) : LS W h w' :=
  ⟨hbelow_grown k.below hg (by omega) k.below.size, Nat.le_trans k.sz hg.size, k.hb.over hg (by omega), k.old.over hg (by omega)⟩
theorem LS.all {W w : World} {e s f : Int} {l : List Int} (k : LS W ⟨e, s, f, l⟩ w) : w.cell? ⟨W.heap.size, 0, none⟩ = some (.int .u64 e) ∧ w.cell? ⟨W.heap.size, 1, none⟩ = some (.int .i64 s) ∧ w.cell? ⟨W.heap.size, 2, none⟩ = some (.int .i64 f) ∧ LS W ⟨e, s, f, l⟩ w :=
  ⟨k.hb.cells.1, k.hb.cells.2.1, k.hb.cells.2.2, k⟩
set_option maxRecDepth 8000 in
set_option maxHeartbeats 4000000 in
theorem hlay_any (h : Hdr) (ht : HdT h) (hk : hdOk h = true) (w : World) (hT : Tab w) :
    Calls Tryz.prog 107 #[.agg (hv h)] w fun e w' => e = .returned (.agg (sv (secH h))) ∧ Below w.heap.size w w' := by
  have hok := hdOk_parts hk
  obtain ⟨w0, hw0⟩ : ∃ q, ((w.alloc (.cells (hv h) 30)).alloc (.cells (sv z64) 60)).alloc (.cells (sv z64) 60) = q := ⟨_, rfl⟩
  have hs1 : (w.alloc (.cells (hv h) 30)).heap.size = w.heap.size + 1 := alloc_size w _
  have hs2 : ((w.alloc (.cells (hv h) 30)).alloc (.cells (sv z64) 60)).heap.size = w.heap.size + 2 := by rw [alloc_size, hs1]
  have HN0 := Lib.hid (show Blk w0 (w.heap.size + 2) z64 from by rw [← hw0, ← hs2]; exact Blk.new _ z64 z64_length)
  have HLS0 : Hid (LS w h w0) := Lib.hid ⟨by rw [← hw0]; exact bch (bch (balloc w _) (balloc _ _)) (balloc _ _), by rw [← hw0, alloc_size, hs2]; omega, by rw [← hw0]; exact ((HB.new w h ht.n).keep (balloc _ _)).keep (balloc _ _), by rw [← hw0]; exact Blk.keep (by rw [← hs1]; exact Blk.new _ z64 z64_length) (balloc _ _)⟩
  have HLN := Lib.hid ht.n
  have HT := Lib.hid hT
  have HLB := Lib.hid (show ∀ x ∈ h.l, 0 ≤ x ∧ x ≤ 2147483647 from fun x hx => by have := hok.2.2.2 x hx; have := hok.2.2.1; omega)
  have hZ := z64_cells
  have HZ := Lib.hid hZ
  have he : 0 ≤ h.e ∧ h.e ≤ 18446744073709551615 := ht.e
  have hs := hok.2.1
  have hf := hok.2.2.1
  obtain ⟨e, s, f, l⟩ := h
  dsimp only at *
  have HP8 : Hid (∀ w, Calls Tryz.prog 115 #[.int .u64 e, .int .i64 8] w fun r w' => r = .returned (.slice (some ⟨w.heap.size, 0, none⟩) 8 8) ∧ w'.ownsRow w.heap.size 5 1 (.slice (some ⟨w.heap.size, 0, none⟩) 8 8) 8 (il .u8 (putL e 8)) ∧ Below w.heap.size w w') := Lib.hid (hword_put e 8 (by omega))
  have HPS : Hid (∀ w, Calls Tryz.prog 128 #[.int .i64 s] w fun r w' => r = .returned (.slice (some ⟨w.heap.size, 0, none⟩) 4 4) ∧ w'.ownsRow w.heap.size 5 1 (.slice (some ⟨w.heap.size, 0, none⟩) 4 4) 4 (il .u8 (putL s 4)) ∧ Below w.heap.size w w') := Lib.hid (number_any s (by omega) hs.2)
  have HPF : Hid (∀ w, Calls Tryz.prog 128 #[.int .i64 f] w fun r w' => r = .returned (.slice (some ⟨w.heap.size, 0, none⟩) 4 4) ∧ w'.ownsRow w.heap.size 5 1 (.slice (some ⟨w.heap.size, 0, none⟩) 4 4) 4 (il .u8 (putL f 4)) ∧ Below w.heap.size w w') := Lib.hid (number_any f (by omega) hf.2)
  clear hok hk ht hT hZ hs1 hs2
  go_enter Tryz.func107, Tryz.ntmps107
  go_wp2_with fail
  rw [← HZ.out, hw0]
  have HN : Hid (Blk w0.drew (w.heap.size + 2) z64) := Lib.hid (HN0.out.keep (Below.refl _ _).drew)
  refine wp_region_held_drew (S := (fun w' => w'.cell? ⟨w.heap.size, 0, none⟩ = some (.int .u64 e) ∧ w'.cell? ⟨w.heap.size, 1, none⟩ = some (.int .i64 s) ∧ w'.cell? ⟨w.heap.size, 2, none⟩ = some (.int .i64 f) ∧ LS w ⟨e, s, f, l⟩ w')) (by kernel_rfl) (LS.all (HLS0.out.next (Below.refl _ _).drew)) (fun hS => ?_)
  refine rgw 2 ⟨some 8, .fieldAddr 30 (.tmp 1) 0, 0, _, _, none⟩ hS ?_
  refine rgw 3 ⟨some 9, .load 22 (.tmp 8), 22, _, _, none⟩ hS ?_
  refine rgw 5 ⟨some 11, .fieldAddr 30 (.tmp 1) 1, 0, _, _, none⟩ hS ?_
  refine rgw 6 ⟨some 12, .load 3 (.tmp 11), 3, _, _, none⟩ hS ?_
  refine rgw 8 ⟨some 14, .fieldAddr 30 (.tmp 1) 2, 0, _, _, none⟩ hS ?_
  refine rgw 9 ⟨some 15, .load 3 (.tmp 14), 3, _, _, none⟩ hS ?_
  refine rg_both 0 4 ⟨some 6, .buildSlice 43 5 #[(0, .const (.int .u8 115)), (1, .const (.int .u8 116)), (2, .const (.int .u8 114)), (3, .const (.int .u8 100)), (4, .const (.int .u8 1))], 43, _, _, none⟩ ⟨some 10, .call { callee := .value (.func 115), args := #[.tmp 9, .const (.int .i64 8)], argTypes := #[22, 3] }, 43, _, _, none⟩ (by kernel_rfl) rfl rfl (fun K hK => ?_) (fun K hK => ?_)
  focus
    rw [if_pos (by rfl)]; refine wp_mark rfl ?_; intro gm w5 hm hgm5 hb5; have hb := hb5.out; (try (have q := Lib.hid (HGM.out.keep hb); clear HGM; have HGM := q; clear q)); (try (have q := Lib.hid (HM.out.keep hb); clear HM; have HM := q; clear q)); (try (have q := Lib.hid (H8.out.keep hb); clear H8; have H8 := q; clear q)); (try (have q := Lib.hid (HS4.out.keep hb); clear HS4; have HS4 := q; clear q)); (try (have q := Lib.hid (HF4.out.keep hb); clear HF4; have HF4 := q; clear q)); (try (have q := Lib.hid (HN.out.keep hb); clear HN; have HN := q; clear q)); have HGM := hm; have HGE := Lib.hid (Nat.le_trans hS.2.2.2.sz hgm5.out); clear hm hb5 hgm5
    refine hK.out _ _ ?_ (fun hS1 => ?_)
    · (first | exact hS | exact hN | exact LS.all (hS.2.2.2.next hb))
    clear hK K hS; have hS := hS1; clear hS1
    (try simp only [rgp])
    refine rg_both 1 4 ⟨some 7, .convert 43 43 (.tmp 6), 43, _, _, none⟩ ⟨some 10, .call { callee := .value (.func 115), args := #[.tmp 9, .const (.int .i64 8)], argTypes := #[22, 3] }, 43, _, _, none⟩ (by kernel_rfl) rfl rfl (fun K hK => ?_) (fun K hK => ?_)
    focus
      rw [if_pos (by rfl)]; refine wp_conv_mark (.tmp 6) rfl gm rfl HGM.out ?_; intro w5b hsm hg5; have hN := LS.all (hS.2.2.2.overq hg5.out HGE.out); (try (have q := Lib.hid (H8.out.same hsm.out); clear H8; have H8 := q; clear q)); (try (have q := Lib.hid (HS4.out.same hsm.out); clear HS4; have HS4 := q; clear q)); (try (have q := Lib.hid (HF4.out.same hsm.out); clear HF4; have HF4 := q; clear q)); have HM := Lib.hid ((fd_mark (base := w.heap.size + 3) HGM.out HGE.out).same hsm.out); (have q := Lib.hid (HN.out.over hg5.out (by have := HGE.out; omega)); clear HN; have HN := q; clear q); clear HGM hsm hg5
      refine hK.out _ _ ?_ (fun hS1 => ?_)
      · (first | exact hS | exact hN | exact LS.all (hS.2.2.2.next hb))
      clear hK K hS; have hS := hS1; clear hS1
      (try simp only [rgp])
      refine rg_one 4 ⟨some 10, .call { callee := .value (.func 115), args := #[.tmp 9, .const (.int .i64 8)], argTypes := #[22, 3] }, 43, _, _, none⟩ (by kernel_rfl) rfl (fun K hK => ?_)
      go_simp
      (go_at_call 115; (refine (HP8.out _).mono ?_); rintro r w4 ⟨rfl, ho, hb⟩; (try (have q := Lib.hid (HGM.out.keep hb); clear HGM; have HGM := q; clear q)); (try (have q := Lib.hid (HM.out.keep hb); clear HM; have HM := q; clear q)); (try (have q := Lib.hid (H8.out.keep hb); clear H8; have H8 := q; clear q)); (try (have q := Lib.hid (HS4.out.keep hb); clear HS4; have HS4 := q; clear q)); (try (have q := Lib.hid (HF4.out.keep hb); clear HF4; have HF4 := q; clear q)); (try (have q := Lib.hid (HN.out.keep hb); clear HN; have HN := q; clear q)); have H8 := Lib.hid (FD.of (base := w.heap.size + 3) ho hS.2.2.2.sz); clear ho)
      refine hK.out _ _ ?_ (fun hS1 => ?_)
      · (first | exact hS | exact hN | exact LS.all (hS.2.2.2.next hb))
      clear hK K hS; have hS := hS1; clear hS1
      (try simp only [rgp])
      refine rg_one 7 ⟨some 13, .call { callee := .value (.func 128), args := #[.tmp 12], argTypes := #[3] }, 43, _, _, none⟩ (by kernel_rfl) rfl (fun K hK => ?_)
      go_simp
      (go_at_call 128; (refine (HPS.out _).mono ?_); rintro r w6 ⟨rfl, ho, hb⟩; (try (have q := Lib.hid (HGM.out.keep hb); clear HGM; have HGM := q; clear q)); (try (have q := Lib.hid (HM.out.keep hb); clear HM; have HM := q; clear q)); (try (have q := Lib.hid (H8.out.keep hb); clear H8; have H8 := q; clear q)); (try (have q := Lib.hid (HS4.out.keep hb); clear HS4; have HS4 := q; clear q)); (try (have q := Lib.hid (HF4.out.keep hb); clear HF4; have HF4 := q; clear q)); (try (have q := Lib.hid (HN.out.keep hb); clear HN; have HN := q; clear q)); have HS4 := Lib.hid (FD.of (base := w.heap.size + 3) ho hS.2.2.2.sz); clear ho)
      refine hK.out _ _ ?_ (fun hS1 => ?_)
      · (first | exact hS | exact hN | exact LS.all (hS.2.2.2.next hb))
      clear hK K hS; have hS := hS1; clear hS1
      (try simp only [rgp])
      refine rg_one 10 ⟨some 16, .call { callee := .value (.func 128), args := #[.tmp 15], argTypes := #[3] }, 43, _, _, none⟩ (by kernel_rfl) rfl (fun K hK => ?_)
      go_simp
      (go_at_call 128; (refine (HPF.out _).mono ?_); rintro r w7 ⟨rfl, ho, hb⟩; (try (have q := Lib.hid (HGM.out.keep hb); clear HGM; have HGM := q; clear q)); (try (have q := Lib.hid (HM.out.keep hb); clear HM; have HM := q; clear q)); (try (have q := Lib.hid (H8.out.keep hb); clear H8; have H8 := q; clear q)); (try (have q := Lib.hid (HS4.out.keep hb); clear HS4; have HS4 := q; clear q)); (try (have q := Lib.hid (HF4.out.keep hb); clear HF4; have HF4 := q; clear q)); (try (have q := Lib.hid (HN.out.keep hb); clear HN; have HN := q; clear q)); have HF4 := Lib.hid (FD.of (base := w.heap.size + 3) ho hS.2.2.2.sz); clear ho)
    rotate_left
    focus
      go_simp
      (go_at_call 115; (refine (HP8.out _).mono ?_); rintro r w4 ⟨rfl, ho, hb⟩; (try (have q := Lib.hid (HGM.out.keep hb); clear HGM; have HGM := q; clear q)); (try (have q := Lib.hid (HM.out.keep hb); clear HM; have HM := q; clear q)); (try (have q := Lib.hid (H8.out.keep hb); clear H8; have H8 := q; clear q)); (try (have q := Lib.hid (HS4.out.keep hb); clear HS4; have HS4 := q; clear q)); (try (have q := Lib.hid (HF4.out.keep hb); clear HF4; have HF4 := q; clear q)); (try (have q := Lib.hid (HN.out.keep hb); clear HN; have HN := q; clear q)); have H8 := Lib.hid (FD.of (base := w.heap.size + 3) ho hS.2.2.2.sz); clear ho)
      refine hK.out _ _ ?_ (fun hS1 => ?_)
      · (first | exact hS | exact hN | exact LS.all (hS.2.2.2.next hb))
      clear hK K hS; have hS := hS1; clear hS1
      (try simp only [rgp])
      refine rg_both 1 7 ⟨some 7, .convert 43 43 (.tmp 6), 43, _, _, none⟩ ⟨some 13, .call { callee := .value (.func 128), args := #[.tmp 12], argTypes := #[3] }, 43, _, _, none⟩ (by kernel_rfl) rfl rfl (fun K hK => ?_) (fun K hK => ?_)
      focus
        rw [if_pos (by rfl)]; refine wp_conv_mark (.tmp 6) rfl gm rfl HGM.out ?_; intro w5b hsm hg5; have hN := LS.all (hS.2.2.2.overq hg5.out HGE.out); (try (have q := Lib.hid (H8.out.same hsm.out); clear H8; have H8 := q; clear q)); (try (have q := Lib.hid (HS4.out.same hsm.out); clear HS4; have HS4 := q; clear q)); (try (have q := Lib.hid (HF4.out.same hsm.out); clear HF4; have HF4 := q; clear q)); have HM := Lib.hid ((fd_mark (base := w.heap.size + 3) HGM.out HGE.out).same hsm.out); (have q := Lib.hid (HN.out.over hg5.out (by have := HGE.out; omega)); clear HN; have HN := q; clear q); clear HGM hsm hg5
        refine hK.out _ _ ?_ (fun hS1 => ?_)
        · (first | exact hS | exact hN | exact LS.all (hS.2.2.2.next hb))
        clear hK K hS; have hS := hS1; clear hS1
        (try simp only [rgp])
        refine rg_one 7 ⟨some 13, .call { callee := .value (.func 128), args := #[.tmp 12], argTypes := #[3] }, 43, _, _, none⟩ (by kernel_rfl) rfl (fun K hK => ?_)
        go_simp
        (go_at_call 128; (refine (HPS.out _).mono ?_); rintro r w6 ⟨rfl, ho, hb⟩; (try (have q := Lib.hid (HGM.out.keep hb); clear HGM; have HGM := q; clear q)); (try (have q := Lib.hid (HM.out.keep hb); clear HM; have HM := q; clear q)); (try (have q := Lib.hid (H8.out.keep hb); clear H8; have H8 := q; clear q)); (try (have q := Lib.hid (HS4.out.keep hb); clear HS4; have HS4 := q; clear q)); (try (have q := Lib.hid (HF4.out.keep hb); clear HF4; have HF4 := q; clear q)); (try (have q := Lib.hid (HN.out.keep hb); clear HN; have HN := q; clear q)); have HS4 := Lib.hid (FD.of (base := w.heap.size + 3) ho hS.2.2.2.sz); clear ho)
        refine hK.out _ _ ?_ (fun hS1 => ?_)
        · (first | exact hS | exact hN | exact LS.all (hS.2.2.2.next hb))
        clear hK K hS; have hS := hS1; clear hS1
        (try simp only [rgp])
        refine rg_one 10 ⟨some 16, .call { callee := .value (.func 128), args := #[.tmp 15], argTypes := #[3] }, 43, _, _, none⟩ (by kernel_rfl) rfl (fun K hK => ?_)
        go_simp
        (go_at_call 128; (refine (HPF.out _).mono ?_); rintro r w7 ⟨rfl, ho, hb⟩; (try (have q := Lib.hid (HGM.out.keep hb); clear HGM; have HGM := q; clear q)); (try (have q := Lib.hid (HM.out.keep hb); clear HM; have HM := q; clear q)); (try (have q := Lib.hid (H8.out.keep hb); clear H8; have H8 := q; clear q)); (try (have q := Lib.hid (HS4.out.keep hb); clear HS4; have HS4 := q; clear q)); (try (have q := Lib.hid (HF4.out.keep hb); clear HF4; have HF4 := q; clear q)); (try (have q := Lib.hid (HN.out.keep hb); clear HN; have HN := q; clear q)); have HF4 := Lib.hid (FD.of (base := w.heap.size + 3) ho hS.2.2.2.sz); clear ho)
      rotate_left
      focus
        go_simp
        (go_at_call 128; (refine (HPS.out _).mono ?_); rintro r w6 ⟨rfl, ho, hb⟩; (try (have q := Lib.hid (HGM.out.keep hb); clear HGM; have HGM := q; clear q)); (try (have q := Lib.hid (HM.out.keep hb); clear HM; have HM := q; clear q)); (try (have q := Lib.hid (H8.out.keep hb); clear H8; have H8 := q; clear q)); (try (have q := Lib.hid (HS4.out.keep hb); clear HS4; have HS4 := q; clear q)); (try (have q := Lib.hid (HF4.out.keep hb); clear HF4; have HF4 := q; clear q)); (try (have q := Lib.hid (HN.out.keep hb); clear HN; have HN := q; clear q)); have HS4 := Lib.hid (FD.of (base := w.heap.size + 3) ho hS.2.2.2.sz); clear ho)
        refine hK.out _ _ ?_ (fun hS1 => ?_)
        · (first | exact hS | exact hN | exact LS.all (hS.2.2.2.next hb))
        clear hK K hS; have hS := hS1; clear hS1
        (try simp only [rgp])
        refine rg_both 1 10 ⟨some 7, .convert 43 43 (.tmp 6), 43, _, _, none⟩ ⟨some 16, .call { callee := .value (.func 128), args := #[.tmp 15], argTypes := #[3] }, 43, _, _, none⟩ (by kernel_rfl) rfl rfl (fun K hK => ?_) (fun K hK => ?_)
        focus
          rw [if_pos (by rfl)]; refine wp_conv_mark (.tmp 6) rfl gm rfl HGM.out ?_; intro w5b hsm hg5; have hN := LS.all (hS.2.2.2.overq hg5.out HGE.out); (try (have q := Lib.hid (H8.out.same hsm.out); clear H8; have H8 := q; clear q)); (try (have q := Lib.hid (HS4.out.same hsm.out); clear HS4; have HS4 := q; clear q)); (try (have q := Lib.hid (HF4.out.same hsm.out); clear HF4; have HF4 := q; clear q)); have HM := Lib.hid ((fd_mark (base := w.heap.size + 3) HGM.out HGE.out).same hsm.out); (have q := Lib.hid (HN.out.over hg5.out (by have := HGE.out; omega)); clear HN; have HN := q; clear q); clear HGM hsm hg5
          refine hK.out _ _ ?_ (fun hS1 => ?_)
          · (first | exact hS | exact hN | exact LS.all (hS.2.2.2.next hb))
          clear hK K hS; have hS := hS1; clear hS1
          (try simp only [rgp])
          refine rg_one 10 ⟨some 16, .call { callee := .value (.func 128), args := #[.tmp 15], argTypes := #[3] }, 43, _, _, none⟩ (by kernel_rfl) rfl (fun K hK => ?_)
          go_simp
          (go_at_call 128; (refine (HPF.out _).mono ?_); rintro r w7 ⟨rfl, ho, hb⟩; (try (have q := Lib.hid (HGM.out.keep hb); clear HGM; have HGM := q; clear q)); (try (have q := Lib.hid (HM.out.keep hb); clear HM; have HM := q; clear q)); (try (have q := Lib.hid (H8.out.keep hb); clear H8; have H8 := q; clear q)); (try (have q := Lib.hid (HS4.out.keep hb); clear HS4; have HS4 := q; clear q)); (try (have q := Lib.hid (HF4.out.keep hb); clear HF4; have HF4 := q; clear q)); (try (have q := Lib.hid (HN.out.keep hb); clear HN; have HN := q; clear q)); have HF4 := Lib.hid (FD.of (base := w.heap.size + 3) ho hS.2.2.2.sz); clear ho)
        rotate_left
        focus
          go_simp
          (go_at_call 128; (refine (HPF.out _).mono ?_); rintro r w7 ⟨rfl, ho, hb⟩; (try (have q := Lib.hid (HGM.out.keep hb); clear HGM; have HGM := q; clear q)); (try (have q := Lib.hid (HM.out.keep hb); clear HM; have HM := q; clear q)); (try (have q := Lib.hid (H8.out.keep hb); clear H8; have H8 := q; clear q)); (try (have q := Lib.hid (HS4.out.keep hb); clear HS4; have HS4 := q; clear q)); (try (have q := Lib.hid (HF4.out.keep hb); clear HF4; have HF4 := q; clear q)); (try (have q := Lib.hid (HN.out.keep hb); clear HN; have HN := q; clear q)); have HF4 := Lib.hid (FD.of (base := w.heap.size + 3) ho hS.2.2.2.sz); clear ho)
          refine hK.out _ _ ?_ (fun hS1 => ?_)
          · (first | exact hS | exact hN | exact LS.all (hS.2.2.2.next hb))
          clear hK K hS; have hS := hS1; clear hS1
          (try simp only [rgp])
          refine rg_one 1 ⟨some 7, .convert 43 43 (.tmp 6), 43, _, _, none⟩ (by kernel_rfl) rfl (fun K hK => ?_)
          rw [if_pos (by rfl)]; refine wp_conv_mark (.tmp 6) rfl gm rfl HGM.out ?_; intro w5b hsm hg5; have hN := LS.all (hS.2.2.2.overq hg5.out HGE.out); (try (have q := Lib.hid (H8.out.same hsm.out); clear H8; have H8 := q; clear q)); (try (have q := Lib.hid (HS4.out.same hsm.out); clear HS4; have HS4 := q; clear q)); (try (have q := Lib.hid (HF4.out.same hsm.out); clear HF4; have HF4 := q; clear q)); have HM := Lib.hid ((fd_mark (base := w.heap.size + 3) HGM.out HGE.out).same hsm.out); (have q := Lib.hid (HN.out.over hg5.out (by have := HGE.out; omega)); clear HN; have HN := q; clear q); clear HGM hsm hg5
        rotate_left
      rotate_left 2
    rotate_left 3
  rotate_left 4
  focus
    go_simp
    (go_at_call 115; (refine (HP8.out _).mono ?_); rintro r w4 ⟨rfl, ho, hb⟩; (try (have q := Lib.hid (HGM.out.keep hb); clear HGM; have HGM := q; clear q)); (try (have q := Lib.hid (HM.out.keep hb); clear HM; have HM := q; clear q)); (try (have q := Lib.hid (H8.out.keep hb); clear H8; have H8 := q; clear q)); (try (have q := Lib.hid (HS4.out.keep hb); clear HS4; have HS4 := q; clear q)); (try (have q := Lib.hid (HF4.out.keep hb); clear HF4; have HF4 := q; clear q)); (try (have q := Lib.hid (HN.out.keep hb); clear HN; have HN := q; clear q)); have H8 := Lib.hid (FD.of (base := w.heap.size + 3) ho hS.2.2.2.sz); clear ho)
    refine hK.out _ _ ?_ (fun hS1 => ?_)
    · (first | exact hS | exact hN | exact LS.all (hS.2.2.2.next hb))
    clear hK K hS; have hS := hS1; clear hS1
    (try simp only [rgp])
    refine rg_both 0 7 ⟨some 6, .buildSlice 43 5 #[(0, .const (.int .u8 115)), (1, .const (.int .u8 116)), (2, .const (.int .u8 114)), (3, .const (.int .u8 100)), (4, .const (.int .u8 1))], 43, _, _, none⟩ ⟨some 13, .call { callee := .value (.func 128), args := #[.tmp 12], argTypes := #[3] }, 43, _, _, none⟩ (by kernel_rfl) rfl rfl (fun K hK => ?_) (fun K hK => ?_)
    focus
      rw [if_pos (by rfl)]; refine wp_mark rfl ?_; intro gm w5 hm hgm5 hb5; have hb := hb5.out; (try (have q := Lib.hid (HGM.out.keep hb); clear HGM; have HGM := q; clear q)); (try (have q := Lib.hid (HM.out.keep hb); clear HM; have HM := q; clear q)); (try (have q := Lib.hid (H8.out.keep hb); clear H8; have H8 := q; clear q)); (try (have q := Lib.hid (HS4.out.keep hb); clear HS4; have HS4 := q; clear q)); (try (have q := Lib.hid (HF4.out.keep hb); clear HF4; have HF4 := q; clear q)); (try (have q := Lib.hid (HN.out.keep hb); clear HN; have HN := q; clear q)); have HGM := hm; have HGE := Lib.hid (Nat.le_trans hS.2.2.2.sz hgm5.out); clear hm hb5 hgm5
      refine hK.out _ _ ?_ (fun hS1 => ?_)
      · (first | exact hS | exact hN | exact LS.all (hS.2.2.2.next hb))
      clear hK K hS; have hS := hS1; clear hS1
      (try simp only [rgp])
      refine rg_both 1 7 ⟨some 7, .convert 43 43 (.tmp 6), 43, _, _, none⟩ ⟨some 13, .call { callee := .value (.func 128), args := #[.tmp 12], argTypes := #[3] }, 43, _, _, none⟩ (by kernel_rfl) rfl rfl (fun K hK => ?_) (fun K hK => ?_)
      focus
        rw [if_pos (by rfl)]; refine wp_conv_mark (.tmp 6) rfl gm rfl HGM.out ?_; intro w5b hsm hg5; have hN := LS.all (hS.2.2.2.overq hg5.out HGE.out); (try (have q := Lib.hid (H8.out.same hsm.out); clear H8; have H8 := q; clear q)); (try (have q := Lib.hid (HS4.out.same hsm.out); clear HS4; have HS4 := q; clear q)); (try (have q := Lib.hid (HF4.out.same hsm.out); clear HF4; have HF4 := q; clear q)); have HM := Lib.hid ((fd_mark (base := w.heap.size + 3) HGM.out HGE.out).same hsm.out); (have q := Lib.hid (HN.out.over hg5.out (by have := HGE.out; omega)); clear HN; have HN := q; clear q); clear HGM hsm hg5
        refine hK.out _ _ ?_ (fun hS1 => ?_)
        · (first | exact hS | exact hN | exact LS.all (hS.2.2.2.next hb))
        clear hK K hS; have hS := hS1; clear hS1
        (try simp only [rgp])
        refine rg_one 7 ⟨some 13, .call { callee := .value (.func 128), args := #[.tmp 12], argTypes := #[3] }, 43, _, _, none⟩ (by kernel_rfl) rfl (fun K hK => ?_)
        go_simp
        (go_at_call 128; (refine (HPS.out _).mono ?_); rintro r w6 ⟨rfl, ho, hb⟩; (try (have q := Lib.hid (HGM.out.keep hb); clear HGM; have HGM := q; clear q)); (try (have q := Lib.hid (HM.out.keep hb); clear HM; have HM := q; clear q)); (try (have q := Lib.hid (H8.out.keep hb); clear H8; have H8 := q; clear q)); (try (have q := Lib.hid (HS4.out.keep hb); clear HS4; have HS4 := q; clear q)); (try (have q := Lib.hid (HF4.out.keep hb); clear HF4; have HF4 := q; clear q)); (try (have q := Lib.hid (HN.out.keep hb); clear HN; have HN := q; clear q)); have HS4 := Lib.hid (FD.of (base := w.heap.size + 3) ho hS.2.2.2.sz); clear ho)
        refine hK.out _ _ ?_ (fun hS1 => ?_)
        · (first | exact hS | exact hN | exact LS.all (hS.2.2.2.next hb))
        clear hK K hS; have hS := hS1; clear hS1
        (try simp only [rgp])
        refine rg_one 10 ⟨some 16, .call { callee := .value (.func 128), args := #[.tmp 15], argTypes := #[3] }, 43, _, _, none⟩ (by kernel_rfl) rfl (fun K hK => ?_)
        go_simp
        (go_at_call 128; (refine (HPF.out _).mono ?_); rintro r w7 ⟨rfl, ho, hb⟩; (try (have q := Lib.hid (HGM.out.keep hb); clear HGM; have HGM := q; clear q)); (try (have q := Lib.hid (HM.out.keep hb); clear HM; have HM := q; clear q)); (try (have q := Lib.hid (H8.out.keep hb); clear H8; have H8 := q; clear q)); (try (have q := Lib.hid (HS4.out.keep hb); clear HS4; have HS4 := q; clear q)); (try (have q := Lib.hid (HF4.out.keep hb); clear HF4; have HF4 := q; clear q)); (try (have q := Lib.hid (HN.out.keep hb); clear HN; have HN := q; clear q)); have HF4 := Lib.hid (FD.of (base := w.heap.size + 3) ho hS.2.2.2.sz); clear ho)
      rotate_left
      focus
        go_simp
        (go_at_call 128; (refine (HPS.out _).mono ?_); rintro r w6 ⟨rfl, ho, hb⟩; (try (have q := Lib.hid (HGM.out.keep hb); clear HGM; have HGM := q; clear q)); (try (have q := Lib.hid (HM.out.keep hb); clear HM; have HM := q; clear q)); (try (have q := Lib.hid (H8.out.keep hb); clear H8; have H8 := q; clear q)); (try (have q := Lib.hid (HS4.out.keep hb); clear HS4; have HS4 := q; clear q)); (try (have q := Lib.hid (HF4.out.keep hb); clear HF4; have HF4 := q; clear q)); (try (have q := Lib.hid (HN.out.keep hb); clear HN; have HN := q; clear q)); have HS4 := Lib.hid (FD.of (base := w.heap.size + 3) ho hS.2.2.2.sz); clear ho)
        refine hK.out _ _ ?_ (fun hS1 => ?_)
        · (first | exact hS | exact hN | exact LS.all (hS.2.2.2.next hb))
        clear hK K hS; have hS := hS1; clear hS1
        (try simp only [rgp])
        refine rg_both 1 10 ⟨some 7, .convert 43 43 (.tmp 6), 43, _, _, none⟩ ⟨some 16, .call { callee := .value (.func 128), args := #[.tmp 15], argTypes := #[3] }, 43, _, _, none⟩ (by kernel_rfl) rfl rfl (fun K hK => ?_) (fun K hK => ?_)
        focus
          rw [if_pos (by rfl)]; refine wp_conv_mark (.tmp 6) rfl gm rfl HGM.out ?_; intro w5b hsm hg5; have hN := LS.all (hS.2.2.2.overq hg5.out HGE.out); (try (have q := Lib.hid (H8.out.same hsm.out); clear H8; have H8 := q; clear q)); (try (have q := Lib.hid (HS4.out.same hsm.out); clear HS4; have HS4 := q; clear q)); (try (have q := Lib.hid (HF4.out.same hsm.out); clear HF4; have HF4 := q; clear q)); have HM := Lib.hid ((fd_mark (base := w.heap.size + 3) HGM.out HGE.out).same hsm.out); (have q := Lib.hid (HN.out.over hg5.out (by have := HGE.out; omega)); clear HN; have HN := q; clear q); clear HGM hsm hg5
          refine hK.out _ _ ?_ (fun hS1 => ?_)
          · (first | exact hS | exact hN | exact LS.all (hS.2.2.2.next hb))
          clear hK K hS; have hS := hS1; clear hS1
          (try simp only [rgp])
          refine rg_one 10 ⟨some 16, .call { callee := .value (.func 128), args := #[.tmp 15], argTypes := #[3] }, 43, _, _, none⟩ (by kernel_rfl) rfl (fun K hK => ?_)
          go_simp
          (go_at_call 128; (refine (HPF.out _).mono ?_); rintro r w7 ⟨rfl, ho, hb⟩; (try (have q := Lib.hid (HGM.out.keep hb); clear HGM; have HGM := q; clear q)); (try (have q := Lib.hid (HM.out.keep hb); clear HM; have HM := q; clear q)); (try (have q := Lib.hid (H8.out.keep hb); clear H8; have H8 := q; clear q)); (try (have q := Lib.hid (HS4.out.keep hb); clear HS4; have HS4 := q; clear q)); (try (have q := Lib.hid (HF4.out.keep hb); clear HF4; have HF4 := q; clear q)); (try (have q := Lib.hid (HN.out.keep hb); clear HN; have HN := q; clear q)); have HF4 := Lib.hid (FD.of (base := w.heap.size + 3) ho hS.2.2.2.sz); clear ho)
        rotate_left
        focus
          go_simp
          (go_at_call 128; (refine (HPF.out _).mono ?_); rintro r w7 ⟨rfl, ho, hb⟩; (try (have q := Lib.hid (HGM.out.keep hb); clear HGM; have HGM := q; clear q)); (try (have q := Lib.hid (HM.out.keep hb); clear HM; have HM := q; clear q)); (try (have q := Lib.hid (H8.out.keep hb); clear H8; have H8 := q; clear q)); (try (have q := Lib.hid (HS4.out.keep hb); clear HS4; have HS4 := q; clear q)); (try (have q := Lib.hid (HF4.out.keep hb); clear HF4; have HF4 := q; clear q)); (try (have q := Lib.hid (HN.out.keep hb); clear HN; have HN := q; clear q)); have HF4 := Lib.hid (FD.of (base := w.heap.size + 3) ho hS.2.2.2.sz); clear ho)
          refine hK.out _ _ ?_ (fun hS1 => ?_)
          · (first | exact hS | exact hN | exact LS.all (hS.2.2.2.next hb))
          clear hK K hS; have hS := hS1; clear hS1
          (try simp only [rgp])
          refine rg_one 1 ⟨some 7, .convert 43 43 (.tmp 6), 43, _, _, none⟩ (by kernel_rfl) rfl (fun K hK => ?_)
          rw [if_pos (by rfl)]; refine wp_conv_mark (.tmp 6) rfl gm rfl HGM.out ?_; intro w5b hsm hg5; have hN := LS.all (hS.2.2.2.overq hg5.out HGE.out); (try (have q := Lib.hid (H8.out.same hsm.out); clear H8; have H8 := q; clear q)); (try (have q := Lib.hid (HS4.out.same hsm.out); clear HS4; have HS4 := q; clear q)); (try (have q := Lib.hid (HF4.out.same hsm.out); clear HF4; have HF4 := q; clear q)); have HM := Lib.hid ((fd_mark (base := w.heap.size + 3) HGM.out HGE.out).same hsm.out); (have q := Lib.hid (HN.out.over hg5.out (by have := HGE.out; omega)); clear HN; have HN := q; clear q); clear HGM hsm hg5
        rotate_left
      rotate_left 2
    rotate_left 3
    focus
      go_simp
      (go_at_call 128; (refine (HPS.out _).mono ?_); rintro r w6 ⟨rfl, ho, hb⟩; (try (have q := Lib.hid (HGM.out.keep hb); clear HGM; have HGM := q; clear q)); (try (have q := Lib.hid (HM.out.keep hb); clear HM; have HM := q; clear q)); (try (have q := Lib.hid (H8.out.keep hb); clear H8; have H8 := q; clear q)); (try (have q := Lib.hid (HS4.out.keep hb); clear HS4; have HS4 := q; clear q)); (try (have q := Lib.hid (HF4.out.keep hb); clear HF4; have HF4 := q; clear q)); (try (have q := Lib.hid (HN.out.keep hb); clear HN; have HN := q; clear q)); have HS4 := Lib.hid (FD.of (base := w.heap.size + 3) ho hS.2.2.2.sz); clear ho)
      refine hK.out _ _ ?_ (fun hS1 => ?_)
      · (first | exact hS | exact hN | exact LS.all (hS.2.2.2.next hb))
      clear hK K hS; have hS := hS1; clear hS1
      (try simp only [rgp])
      refine rg_both 0 10 ⟨some 6, .buildSlice 43 5 #[(0, .const (.int .u8 115)), (1, .const (.int .u8 116)), (2, .const (.int .u8 114)), (3, .const (.int .u8 100)), (4, .const (.int .u8 1))], 43, _, _, none⟩ ⟨some 16, .call { callee := .value (.func 128), args := #[.tmp 15], argTypes := #[3] }, 43, _, _, none⟩ (by kernel_rfl) rfl rfl (fun K hK => ?_) (fun K hK => ?_)
      focus
        rw [if_pos (by rfl)]; refine wp_mark rfl ?_; intro gm w5 hm hgm5 hb5; have hb := hb5.out; (try (have q := Lib.hid (HGM.out.keep hb); clear HGM; have HGM := q; clear q)); (try (have q := Lib.hid (HM.out.keep hb); clear HM; have HM := q; clear q)); (try (have q := Lib.hid (H8.out.keep hb); clear H8; have H8 := q; clear q)); (try (have q := Lib.hid (HS4.out.keep hb); clear HS4; have HS4 := q; clear q)); (try (have q := Lib.hid (HF4.out.keep hb); clear HF4; have HF4 := q; clear q)); (try (have q := Lib.hid (HN.out.keep hb); clear HN; have HN := q; clear q)); have HGM := hm; have HGE := Lib.hid (Nat.le_trans hS.2.2.2.sz hgm5.out); clear hm hb5 hgm5
        refine hK.out _ _ ?_ (fun hS1 => ?_)
        · (first | exact hS | exact hN | exact LS.all (hS.2.2.2.next hb))
        clear hK K hS; have hS := hS1; clear hS1
        (try simp only [rgp])
        refine rg_both 1 10 ⟨some 7, .convert 43 43 (.tmp 6), 43, _, _, none⟩ ⟨some 16, .call { callee := .value (.func 128), args := #[.tmp 15], argTypes := #[3] }, 43, _, _, none⟩ (by kernel_rfl) rfl rfl (fun K hK => ?_) (fun K hK => ?_)
        focus
          rw [if_pos (by rfl)]; refine wp_conv_mark (.tmp 6) rfl gm rfl HGM.out ?_; intro w5b hsm hg5; have hN := LS.all (hS.2.2.2.overq hg5.out HGE.out); (try (have q := Lib.hid (H8.out.same hsm.out); clear H8; have H8 := q; clear q)); (try (have q := Lib.hid (HS4.out.same hsm.out); clear HS4; have HS4 := q; clear q)); (try (have q := Lib.hid (HF4.out.same hsm.out); clear HF4; have HF4 := q; clear q)); have HM := Lib.hid ((fd_mark (base := w.heap.size + 3) HGM.out HGE.out).same hsm.out); (have q := Lib.hid (HN.out.over hg5.out (by have := HGE.out; omega)); clear HN; have HN := q; clear q); clear HGM hsm hg5
          refine hK.out _ _ ?_ (fun hS1 => ?_)
          · (first | exact hS | exact hN | exact LS.all (hS.2.2.2.next hb))
          clear hK K hS; have hS := hS1; clear hS1
          (try simp only [rgp])
          refine rg_one 10 ⟨some 16, .call { callee := .value (.func 128), args := #[.tmp 15], argTypes := #[3] }, 43, _, _, none⟩ (by kernel_rfl) rfl (fun K hK => ?_)
          go_simp
          (go_at_call 128; (refine (HPF.out _).mono ?_); rintro r w7 ⟨rfl, ho, hb⟩; (try (have q := Lib.hid (HGM.out.keep hb); clear HGM; have HGM := q; clear q)); (try (have q := Lib.hid (HM.out.keep hb); clear HM; have HM := q; clear q)); (try (have q := Lib.hid (H8.out.keep hb); clear H8; have H8 := q; clear q)); (try (have q := Lib.hid (HS4.out.keep hb); clear HS4; have HS4 := q; clear q)); (try (have q := Lib.hid (HF4.out.keep hb); clear HF4; have HF4 := q; clear q)); (try (have q := Lib.hid (HN.out.keep hb); clear HN; have HN := q; clear q)); have HF4 := Lib.hid (FD.of (base := w.heap.size + 3) ho hS.2.2.2.sz); clear ho)
        rotate_left
        focus
          go_simp
          (go_at_call 128; (refine (HPF.out _).mono ?_); rintro r w7 ⟨rfl, ho, hb⟩; (try (have q := Lib.hid (HGM.out.keep hb); clear HGM; have HGM := q; clear q)); (try (have q := Lib.hid (HM.out.keep hb); clear HM; have HM := q; clear q)); (try (have q := Lib.hid (H8.out.keep hb); clear H8; have H8 := q; clear q)); (try (have q := Lib.hid (HS4.out.keep hb); clear HS4; have HS4 := q; clear q)); (try (have q := Lib.hid (HF4.out.keep hb); clear HF4; have HF4 := q; clear q)); (try (have q := Lib.hid (HN.out.keep hb); clear HN; have HN := q; clear q)); have HF4 := Lib.hid (FD.of (base := w.heap.size + 3) ho hS.2.2.2.sz); clear ho)
          refine hK.out _ _ ?_ (fun hS1 => ?_)
          · (first | exact hS | exact hN | exact LS.all (hS.2.2.2.next hb))
          clear hK K hS; have hS := hS1; clear hS1
          (try simp only [rgp])
          refine rg_one 1 ⟨some 7, .convert 43 43 (.tmp 6), 43, _, _, none⟩ (by kernel_rfl) rfl (fun K hK => ?_)
          rw [if_pos (by rfl)]; refine wp_conv_mark (.tmp 6) rfl gm rfl HGM.out ?_; intro w5b hsm hg5; have hN := LS.all (hS.2.2.2.overq hg5.out HGE.out); (try (have q := Lib.hid (H8.out.same hsm.out); clear H8; have H8 := q; clear q)); (try (have q := Lib.hid (HS4.out.same hsm.out); clear HS4; have HS4 := q; clear q)); (try (have q := Lib.hid (HF4.out.same hsm.out); clear HF4; have HF4 := q; clear q)); have HM := Lib.hid ((fd_mark (base := w.heap.size + 3) HGM.out HGE.out).same hsm.out); (have q := Lib.hid (HN.out.over hg5.out (by have := HGE.out; omega)); clear HN; have HN := q; clear q); clear HGM hsm hg5
        rotate_left
      rotate_left 2
      focus
        go_simp
        (go_at_call 128; (refine (HPF.out _).mono ?_); rintro r w7 ⟨rfl, ho, hb⟩; (try (have q := Lib.hid (HGM.out.keep hb); clear HGM; have HGM := q; clear q)); (try (have q := Lib.hid (HM.out.keep hb); clear HM; have HM := q; clear q)); (try (have q := Lib.hid (H8.out.keep hb); clear H8; have H8 := q; clear q)); (try (have q := Lib.hid (HS4.out.keep hb); clear HS4; have HS4 := q; clear q)); (try (have q := Lib.hid (HF4.out.keep hb); clear HF4; have HF4 := q; clear q)); (try (have q := Lib.hid (HN.out.keep hb); clear HN; have HN := q; clear q)); have HF4 := Lib.hid (FD.of (base := w.heap.size + 3) ho hS.2.2.2.sz); clear ho)
        refine hK.out _ _ ?_ (fun hS1 => ?_)
        · (first | exact hS | exact hN | exact LS.all (hS.2.2.2.next hb))
        clear hK K hS; have hS := hS1; clear hS1
        (try simp only [rgp])
        refine rg_one 0 ⟨some 6, .buildSlice 43 5 #[(0, .const (.int .u8 115)), (1, .const (.int .u8 116)), (2, .const (.int .u8 114)), (3, .const (.int .u8 100)), (4, .const (.int .u8 1))], 43, _, _, none⟩ (by kernel_rfl) rfl (fun K hK => ?_)
        rw [if_pos (by rfl)]; refine wp_mark rfl ?_; intro gm w5 hm hgm5 hb5; have hb := hb5.out; (try (have q := Lib.hid (HGM.out.keep hb); clear HGM; have HGM := q; clear q)); (try (have q := Lib.hid (HM.out.keep hb); clear HM; have HM := q; clear q)); (try (have q := Lib.hid (H8.out.keep hb); clear H8; have H8 := q; clear q)); (try (have q := Lib.hid (HS4.out.keep hb); clear HS4; have HS4 := q; clear q)); (try (have q := Lib.hid (HF4.out.keep hb); clear HF4; have HF4 := q; clear q)); (try (have q := Lib.hid (HN.out.keep hb); clear HN; have HN := q; clear q)); have HGM := hm; have HGE := Lib.hid (Nat.le_trans hS.2.2.2.sz hgm5.out); clear hm hb5 hgm5
        refine hK.out _ _ ?_ (fun hS1 => ?_)
        · (first | exact hS | exact hN | exact LS.all (hS.2.2.2.next hb))
        clear hK K hS; have hS := hS1; clear hS1
        (try simp only [rgp])
        refine rg_one 1 ⟨some 7, .convert 43 43 (.tmp 6), 43, _, _, none⟩ (by kernel_rfl) rfl (fun K hK => ?_)
        rw [if_pos (by rfl)]; refine wp_conv_mark (.tmp 6) rfl gm rfl HGM.out ?_; intro w5b hsm hg5; have hN := LS.all (hS.2.2.2.overq hg5.out HGE.out); (try (have q := Lib.hid (H8.out.same hsm.out); clear H8; have H8 := q; clear q)); (try (have q := Lib.hid (HS4.out.same hsm.out); clear HS4; have HS4 := q; clear q)); (try (have q := Lib.hid (HF4.out.same hsm.out); clear HF4; have HF4 := q; clear q)); have HM := Lib.hid ((fd_mark (base := w.heap.size + 3) HGM.out HGE.out).same hsm.out); (have q := Lib.hid (HN.out.over hg5.out (by have := HGE.out; omega)); clear HN; have HN := q; clear q); clear HGM hsm hg5
      rotate_left
    rotate_left 3
  rotate_left 6
  all_goals
    refine hK.out _ _ ?_ (fun hS1 => ?_)
    · (first | exact hS | exact hN | exact LS.all (hS.2.2.2.next hb))
    clear hK K hS; have hS := hS1; clear hS1
    (try simp only [rgp])
    refine rg_one 11 ⟨some 17, .buildSlice 23 4 #[(0, .tmp 7), (1, .tmp 10), (2, .tmp 13), (3, .tmp 16)], 23, _, _, none⟩ (by kernel_rfl) rfl (fun K hK => ?_)
    rw [if_pos (by rfl)]; refine wp_lit4 (.tmp 7) (.tmp 10) (.tmp 13) (.tmp 16) rfl _ _ _ _ _ _ _ _ _ _ _ _ rfl rfl rfl rfl ?_; intro gl w8 hl hgl hb8; have hb := hb8.out; (try (have q := Lib.hid (HGM.out.keep hb); clear HGM; have HGM := q; clear q)); (try (have q := Lib.hid (HM.out.keep hb); clear HM; have HM := q; clear q)); (try (have q := Lib.hid (H8.out.keep hb); clear H8; have H8 := q; clear q)); (try (have q := Lib.hid (HS4.out.keep hb); clear HS4; have HS4 := q; clear q)); (try (have q := Lib.hid (HF4.out.keep hb); clear HF4; have HF4 := q; clear q)); (try (have q := Lib.hid (HN.out.keep hb); clear HN; have HN := q; clear q)); have HRL := Lib.hid (rl_lit (g := w.heap.size + 2) (base := w.heap.size + 3) (n := 4) (ls := [mark, putL e 8, putL s 4, putL f 4]) hl.out (by omega) (Nat.le_trans hS.2.2.2.sz hgl.out) rfl rfl (by omega) (fd_four HM.out H8.out HS4.out HF4.out)); clear hl hgl hb8
    refine hK.out _ _ ?_ (fun hS1 => ?_)
    · (first | exact hS | exact hN | exact LS.all (hS.2.2.2.next hb))
    clear hK K hS; have hS := hS1; clear hS1
    (try simp only [rgp])
    refine rg_one 12 ⟨some 18, .call { callee := .value (.func 127), args := #[.tmp 3, .const (.int .i64 0), .tmp 17], argTypes := #[176, 3, 23] }, 0, _, _, none⟩ (by kernel_rfl) rfl (fun K hK => ?_)
    go_simp
    (go_at_call 127; (refine (hput_any (w.heap.size + 2) 0 4 z64 [mark, putL e 8, putL s 4, putL f 4] _ _ HN.out HRL.out (by intro y hy; simp only [List.mem_cons, List.not_mem_nil, or_false] at hy; rcases hy with rfl | rfl | rfl | rfl <;> simp [putL_length, mark_length]) (by rw [p0_flat, p0_length]; omega)).mono ?_); rintro r w9 ⟨rfl, hk9, hg9⟩; have hN := LS.all (hS.2.2.2.over hg9); clear HN; have HN := Lib.hid hk9; clear hk9 hg9)
    refine hK.out _ _ ?_ (fun hS1 => ?_)
    · (first | exact hS | exact hN | exact LS.all (hS.2.2.2.next hb))
    clear hK K hS; have hS := hS1; clear hS1
    (try simp only [rgp])
    refine wpAnyH_done (by kernel_rfl) ?_ _
    have HLS := Lib.hid hS.2.2.2
    have HN7 := Lib.hid HN.out
    clear hS HN HRL
    (try clear hN hb)
    (try clear HM H8 HS4 HF4 HGE)
    go_wp2_with (first
      | (refine wpl_load_l4 rfl (.tmp 19) rfl rfl HLS.out.hb ?_))
    go_loopw [21] (fun v wr => ∃ i : Nat, v = .int .i64 i ∧ i ≤ 4 ∧ Hid (LS w ⟨e, s, f, l⟩ wr) ∧ Hid (Blk wr (w.heap.size + 2) (splice z64 0 (p0 e s f ++ put4 (l.take i))))) (fun v _ => 4 - (intOf v).toNat)
    case atStart => exact ⟨0, rfl, by omega, HLS, Lib.hid (by have h1 := HN7.out; rw [p0_flat] at h1; simpa [put4] using h1)⟩
    case round =>
      obtain ⟨i, rfl, hi, HR, HNR⟩ := hrel
      by_cases hlt : i < 4
      · have hix := index_l4 l HLN.out i hlt
        obtain ⟨x, hx⟩ : ∃ x, l.getD i 0 = x := ⟨_, rfl⟩
        rw [hx] at hix
        have HXB := Lib.hid (show 0 ≤ x ∧ x ≤ 2147483647 from by rw [← hx]; exact HLB.out _ (getD_memH (by rw [HLN.out]; exact hlt)))
        have HPS := Lib.hid (put4_take l i (by rw [HLN.out]; exact hlt))
        rw [hx] at HPS
        have HNU : Hid (∀ w, Calls Tryz.prog 128 #[.int .i64 x] w fun r w' => r = .returned (.slice (some ⟨w.heap.size, 0, none⟩) 4 4) ∧ w'.ownsRow w.heap.size 5 1 (.slice (some ⟨w.heap.size, 0, none⟩) 4 4) 4 (il .u8 (putL x 4)) ∧ Below w.heap.size w w') := Lib.hid (number_any x HXB.out.1 HXB.out.2)
        obtain ⟨p, hp⟩ : ∃ p : Nat, 21 + 4 * i = p := ⟨_, rfl⟩
        have hp2 : (21 : Int) + 4 * (i : Int) = (p : Int) := by omega
        have hlt2 : (i : Int) < 4 := by omega
        have hpb : (p : Int) ≤ 33 := by omega
        have HPL := Lib.hid (show (p0 e s f ++ put4 (l.take i)).length = p from by rw [List.length_append, p0_length, put4_length, List.length_take, HLN.out]; omega)
        clear hx hp
        go_wp2_with (first
          | (go_at_call 128; (with_reducible refine (HNU.out _).mono ?_); rintro r w7 ⟨rfl, ho7, hb7⟩; have HF7 := Lib.hid (FD.of ho7 HR.out.sz); have HR7 := Lib.hid (HR.out.next hb7); have HN7 := Lib.hid (HNR.out.keep hb7); clear ho7 hb7)
          | (refine wpl_lit1 rfl (.tmp 29) rfl _ _ _ rfl ?_; intro gl w8 hl8 hgl8 hb8; have HR8 := Lib.hid (HR7.out.next hb8.out); have HN8 := Lib.hid (HN7.out.keep hb8.out); have HRL8 := Lib.hid (rl_lit (g := w.heap.size + 2) (base := w.heap.size + 3) (n := 1) (ls := [putL x 4]) hl8.out (by omega) (Nat.le_trans HR7.out.sz hgl8.out) rfl rfl (by omega) (fd_one (HF7.out.keep hb8.out))); clear hl8 hgl8 hb8)
          | (go_at_call 127; (refine (hput_any (w.heap.size + 2) p 1 _ [putL x 4] _ _ HN8.out HRL8.out (by intro y hy; simp only [List.mem_cons, List.not_mem_nil, or_false] at hy; subst hy; rw [putL_length]; omega) (by simp [putL_length]; omega)).mono ?_); rintro r w9 ⟨rfl, hk9, hg9⟩; have HR9 := Lib.hid (HR8.out.over hg9); have HN9 := Lib.hid hk9; clear hk9 hg9))
        go_roundw
        case rel =>
          refine ⟨i + 1, by go_num, by omega, HR9, Lib.hid ?_⟩
          have h1 := HN9.out
          simp only [List.flatten_cons, List.flatten_nil, List.append_nil] at h1
          have h2 := splice_more z64 0 (p0 e s f ++ put4 (l.take i)) (putL x 4) (by rw [HPL.out, z64_length]; omega)
          rw [HPL.out, Nat.zero_add] at h2
          rw [h2, List.append_assoc, HPS.out] at h1
          exact h1
        case measure => simp [intOf]; omega
      · obtain rfl : i = 4 := by omega
        have HNF := Lib.hid (show Blk wr (w.heap.size + 2) (splice z64 0 (headP ⟨e, s, f, l⟩)) from by have h1 := HNR.out; rwa [List.take_of_length_le (by rw [HLN.out]; omega)] at h1)
        have HFIN := Lib.hid (lay_done ⟨e, s, f, l⟩ HLN.out)
        obtain ⟨L, hL⟩ : ∃ L, splice z64 0 (headP ⟨e, s, f, l⟩) = L := ⟨_, rfl⟩
        rw [hL] at HNF HFIN
        obtain ⟨m, hm⟩ : ∃ m, headS ⟨e, s, f, l⟩ = m := ⟨_, rfl⟩
        rw [hm] at HFIN
        have HSU : Hid (Calls Tryz.prog 101 #[.agg (sv L)] wr fun r w' => ∃ p, r = .returned (.slice (some ⟨p, 0, none⟩) 4 4) ∧ w'.ownsRow wr.heap.size 5 1 (.slice (some ⟨p, 0, none⟩) 4 4) 4 (il .u8 (putL m 4)) ∧ Below wr.heap.size wr w') := Lib.hid (hsum_any (HT.out.keep HR.out.below) L HNF.out.2 HFIN.out.1 (by rw [HFIN.out.2.1]; exact hm))
        obtain ⟨wz, hwz⟩ : ∃ q, q = wr := ⟨_, rfl⟩
        subst hwz
        clear hL hm
        go_wp2_with (first
          | (refine wpl_load_sec (by rfl) (.tmp 3) rfl (w.heap.size + 2) rfl L HNF.out ?_)
          | (go_at_call 101; (with_reducible refine (HSU.out).mono ?_); rintro r w7 ⟨p7, rfl, ho7, hb7⟩; have HF7 := Lib.hid (FD.of ho7 HR.out.sz); have HR7 := Lib.hid (HR.out.next hb7); have HN7 := Lib.hid (HNF.out.keep hb7); clear ho7 hb7)
          | (refine wpl_lit1 rfl (.tmp 34) rfl _ _ _ rfl ?_; intro gl w8 hl8 hgl8 hb8; have HR8 := Lib.hid (HR7.out.next hb8.out); have HN8 := Lib.hid (HN7.out.keep hb8.out); have HRL8 := Lib.hid (rl_lit (g := w.heap.size + 2) (base := w.heap.size + 3) (n := 1) (ls := [putL m 4]) hl8.out (by omega) (Nat.le_trans HR7.out.sz hgl8.out) rfl rfl (by omega) (fd_one (HF7.out.keep hb8.out))); clear hl8 hgl8 hb8)
          | (go_at_call 127; (refine (hput_any (w.heap.size + 2) 37 1 _ [putL m 4] _ _ HN8.out HRL8.out (by intro y hy; simp only [List.mem_cons, List.not_mem_nil, or_false] at hy; subst hy; rw [putL_length]; omega) (by simp [putL_length])).mono ?_); rintro r w9 ⟨rfl, hk9, hg9⟩; have HR9 := Lib.hid (HR8.out.over hg9); have HN9 := Lib.hid (show Blk w9 (w.heap.size + 2) (secH ⟨e, s, f, l⟩) from by rw [← HFIN.out.2.2]; simpa using hk9); clear hk9 hg9)
          | (refine wpl_load_sec (by rfl) (.tmp 3) rfl (w.heap.size + 2) rfl (secH ⟨e, s, f, l⟩) HN9.out ?_)
          | (refine wpl_put_sec rfl (.tmp 2) (.tmp 37) rfl (w.heap.size + 1) z64 (secH ⟨e, s, f, l⟩) HR9.out.old (secH_length HLN.out) rfl rfl ?_; intro wf HO HGF))
        refine bodyPost_ret_by (v := .agg (sv (secH ⟨e, s, f, l⟩))) (results_cell_row rfl _ _ (w.heap.size + 1) _ (sv (secH ⟨e, s, f, l⟩)) (0, 0) _ rfl HO.out.1 Tryz.underlying60 rfl (sv_info _ (secH_length HLN.out))) rfl ⟨rfl, ?_⟩
        exact hbelow_grown HR9.out.below HGF.out (by omega) HR9.out.below.size
end Go.Proofs.YtgegbpnmfpjdmaaGreatDoor
