/-
  TEXTS JOINED: HeadArm, HeadEnc, HeadRead, BytesEq, HeadDec, SegArm, CutMath. Each one's own words stand at its head.
-/
import Derived.Test.YtnmplnemnfonfaaGreatDoorJ20
import Derived.Test.YtnmplnemnfonfaaGreatDoorJ1
import Derived.Test.YtnmplnemnfonfaaGreatDoorJ11
import Derived.Test.YtnmplnemnfonfaaGreatDoorJ15
import Derived.Test.YtnmplnemnfonfaaGreatDoorJ14
namespace Go.Proofs.YtnmplnemnfonfaaGreatDoor
open Go.RowKit
section
variable {o : Oper} {a : Act} {w : World} {Q : Exit → Act → World → Prop} {ops : Array Oper} {rest : List Oper}
theorem wpl_valw (hw : Region.wanted o (yielded ops a.tmps) = true) {v : Value} (he : (execOp a.eval o).run Tryz.prog w = .ok (.value v) w) (hk : wpList Tryz.prog ops Q rest (a.put o.dst v) w) : wpList Tryz.prog ops Q (o :: rest) a w := by
  unfold wpList
  rw [if_pos hw]
  refine Or.inl ?_
  unfold Oper.wp
  rw [he]
  simp only [Oper.upon]
  exact hk
theorem exec_build_sec (ho : o.op = .build 92 #[]) : (execOp a.eval o).run Tryz.prog w = .ok (.value (.agg (sv z64))) w := by
  unfold execOp
  simp only [ho]
  have h : (Instr.build 92 #[]).run Tryz.prog w = .ok (.agg (sv z64)) w := by kernel_rfl
  simp [h, Result.andThen]
theorem exec_eq_sec (zs ys : List Int) (hz : zs.length = 64) (hy : ys.length = 64) (x y : Operand) (u : TypeId) (ho : o.op = .binOp .eql 92 x y u) (hx : a.eval x = .agg (sv zs)) (hye : a.eval y = .agg (sv ys)) :
    (execOp a.eval o).run Tryz.prog w = .ok (.value (.bool (decide (zs = ys)))) w := by
  unfold execOp
  have hg : Tryz.prog.eqGuardType Tryz.prog.depth 92 = false := by kernel_rfl
  have he : (binOp .eql 92 (.agg (sv zs)) (.agg (sv ys))).run Tryz.prog w = .ok (.bool (decide (zs = ys))) w := by
    rw [run_eql_struct, run_eq_sec zs ys hz hy]; rfl
  simp only [ho, hx, hye, Sem.run_bind, run_eqGuard_agg w .eql 92 x y _ _ hg, Result.andThen_ok, he, Sem.run_pure]
end
def z23 : List Int := List.replicate 23 0
theorem z23_length : z23.length = 23 := by simp [z23]
theorem rest_info (zs : List Int) (h : zs.length = 23) : (Tryz.prog.info? 178).map (·.size) = some (sv zs).size := by
  rw [sv_size, h]; kernel_rfl
theorem run_items23 {w : World} (a b : List Int) (ha : a.length = 23) (hb : b.length = 23) : ∀ is : List Nat, (∀ i ∈ is, i < 23) →
    (Op.eqItems 9999 5 1 (sv a) (sv b) is).run Tryz.prog w = .ok (is.all fun i => a.getD i 0 == b.getD i 0) w
  | [], _ => by simp [Op.eqItems]
  | i :: is, h => by
    have hi : i < 23 := h i (by simp)
    have p1 := run_part_plain (P := Tryz.prog) (w := w) (e := 5) (by kernel_rfl) (xs := sv a) (off := i * 1) (v := .int .u8 (a.getD i 0)) (by rw [Nat.mul_one]; exact sv_get a i (by omega))
    have p2 := run_part_plain (P := Tryz.prog) (w := w) (e := 5) (by kernel_rfl) (xs := sv b) (off := i * 1) (v := .int .u8 (b.getD i 0)) (by rw [Nat.mul_one]; exact sv_get b i (by omega))
    have p3 := run_equalIn_int (P := Tryz.prog) w 9998 5 .u8 .u8 (a.getD i 0) (b.getD i 0) Tryz.underlying5
    have p4 := run_items23 (w := w) a b ha hb is (fun j hj => h j (List.mem_cons_of_mem _ hj))
    simp only [Op.eqItems, Sem.run_bind, p1, p2, Result.andThen_ok, List.all_cons]
    rw [p3]
    simp only [Result.andThen_ok]
    cases hc : (a.getD i 0 == b.getD i 0)
    · simp
    · simpa using p4
theorem run_eq_rest (a b : List Int) (ha : a.length = 23) (hb : b.length = 23) (w : World) : (Op.equalIn 10000 178 (.agg (sv a)) (.agg (sv b))).run Tryz.prog w = .ok (decide (a = b)) w := by
  obtain ⟨i, hi⟩ : ∃ i, Tryz.prog.info? 5 = some i := info_of_underlying Tryz.underlying5
  have hc : Tryz.prog.cellsOf 5 = 1 := by kernel_rfl
  have h1 := run_equalIn_array w (P := Tryz.prog) 9999 (sv a) (sv b) Tryz.underlying178 hi
  rw [hc, run_items23 a b ha hb _ (fun i hi => List.mem_range.1 hi)] at h1
  rw [h1]
  refine congrArg (fun x => Result.ok x w) ?_
  rw [Bool.eq_iff_iff, List.all_eq_true, decide_eq_true_eq]
  constructor
  · intro h
    refine List.ext_getElem (by omega) fun j h1 h2 => ?_
    have := h j (List.mem_range.2 (by omega))
    simpa [List.getD, h1, h2] using this
  · rintro rfl j _
    simp
theorem run_load_rest {w : World} {b : Nat} {zs : List Int} (h : Blk w b zs) : (loadVar 178 ⟨b, 41, none⟩).run Tryz.prog w = .ok (.agg (sv (zs.drop 41))) w := by
  have hl23 : (zs.drop 41).length = 23 := by simp [h.2]
  have hl : (loadCells ⟨b, 41, none⟩ (il .u8 (zs.drop 41)).length).run Tryz.prog w = .ok (il .u8 (zs.drop 41)).toArray w :=
    run_loadCells_list (P := Tryz.prog) w ⟨b, 41, none⟩ (il .u8 (zs.drop 41)) (fun j v hv => by
      have hadd : (⟨b, 41, none⟩ : Addr).add j = ⟨b, 41 + j, none⟩ := by unfold Addr.add; split <;> simp_all
      have hj : j < (zs.drop 41).length := by have := (List.getElem?_eq_some_iff.1 hv).1; rwa [il_length] at this
      rw [il_get _ _ _ hj] at hv
      rw [hadd, h.cell (41 + j) (by omega), ← hv]
      simp [List.getD])
  have hi := rest_info (zs.drop 41) hl23
  cases hq : Tryz.prog.info? 178 with
  | none => simp [hq] at hi
  | some i =>
    have hs : i.size = 23 := by simpa [hq, sv_size, hl23] using hi
    have hagg : (isAgg 178).run Tryz.prog w = .ok true w := by
      unfold isAgg
      rw [Sem.run_bind, run_underlying Tryz.underlying178 w]
      rfl
    rw [il_length, hl23] at hl
    simp [loadVar, Sem.run_bind, hagg, sizeOf, typeInfo, hq, hs, hl, sv]
section
variable {o : Oper} {a : Act} {w : World}
theorem exec_load_rest {b : Nat} {zs : List Int} (x : Operand) (ho : o.op = .load 178 x) (hx : a.eval x = .pointer (some ⟨b, 41, none⟩)) (h : Blk w b zs) :
    (execOp a.eval o).run Tryz.prog w = .ok (.value (.agg (sv (zs.drop 41)))) w := by
  unfold execOp
  simp only [ho, hx, Instr.loadAt, Instr.sureAddr, Sem.run_bind, Sem.run_pure, Result.andThen_ok, run_load_rest h]
theorem exec_ptr_rest (x : Operand) (ho : o.op = .sliceToArrayPointer 178 x) (p : Option Addr) (n c : Nat) (hx : a.eval x = .slice p n c) (h : 23 ≤ n) :
    (execOp a.eval o).run Tryz.prog w = .ok (.value (.pointer p)) w := by
  have hn : ¬ n < 23 := by omega
  unfold execOp
  simp only [ho, hx, Instr.arrayAt, Sem.run_bind, run_underlying Tryz.underlying178, Result.andThen_ok]
  simp [hn, Result.andThen]
theorem exec_build_rest (ho : o.op = .build 178 #[]) : (execOp a.eval o).run Tryz.prog w = .ok (.value (.agg (sv z23))) w := by
  unfold execOp
  simp only [ho]
  have h : (Instr.build 178 #[]).run Tryz.prog w = .ok (.agg (sv z23)) w := by kernel_rfl
  simp [h, Result.andThen]
theorem exec_neq_rest (zs ys : List Int) (hz : zs.length = 23) (hy : ys.length = 23) (x y : Operand) (u : TypeId) (ho : o.op = .binOp .neq 178 x y u) (hx : a.eval x = .agg (sv zs)) (hye : a.eval y = .agg (sv ys)) :
    (execOp a.eval o).run Tryz.prog w = .ok (.value (.bool (!decide (zs = ys)))) w := by
  unfold execOp
  have hg : Tryz.prog.eqGuardType Tryz.prog.depth 178 = false := by kernel_rfl
  have he : (binOp .neq 178 (.agg (sv zs)) (.agg (sv ys))).run Tryz.prog w = .ok (.bool (!decide (zs = ys))) w := by
    rw [run_neq_struct, run_eq_rest zs ys hz hy]; rfl
  simp only [ho, hx, hye, Sem.run_bind, run_eqGuard_agg w .neq 178 x y _ _ hg, Result.andThen_ok, he, Sem.run_pure]
end
section
variable {o : Oper} {a : Act} {w : World} {Q : Exit → Act → World → Prop} {ops : Array Oper} {rest : List Oper}
theorem wpl_build_z (ho : o.op = .build 92 #[]) (hw : Region.wanted o (yielded ops a.tmps) = true) (hk : wpList Tryz.prog ops Q rest (a.put o.dst (.agg (sv z64))) w) : wpList Tryz.prog ops Q (o :: rest) a w :=
  wpl_valw hw (exec_build_sec ho) hk
theorem wpl_eq_sec (x y : Operand) (u : TypeId) (ho : o.op = .binOp .eql 92 x y u) (zs ys : List Int) (hz : zs.length = 64) (hy : ys.length = 64) (hx : a.eval x = .agg (sv zs)) (hye : a.eval y = .agg (sv ys)) (hw : Region.wanted o (yielded ops a.tmps) = true)
    (hk : wpList Tryz.prog ops Q rest (a.put o.dst (.bool (decide (zs = ys)))) w) : wpList Tryz.prog ops Q (o :: rest) a w := wpl_valw hw (exec_eq_sec zs ys hz hy x y u ho hx hye) hk
theorem wpl_load_rest (x : Operand) (ho : o.op = .load 178 x) {b : Nat} {zs : List Int} (hx : a.eval x = .pointer (some ⟨b, 41, none⟩)) (h : Blk w b zs) (hw : Region.wanted o (yielded ops a.tmps) = true)
    (hk : wpList Tryz.prog ops Q rest (a.put o.dst (.agg (sv (zs.drop 41)))) w) : wpList Tryz.prog ops Q (o :: rest) a w := wpl_valw hw (exec_load_rest x ho hx h) hk
theorem wpl_ptr_rest (x : Operand) (ho : o.op = .sliceToArrayPointer 178 x) (p : Option Addr) (n c : Nat) (hx : a.eval x = .slice p n c) (h : 23 ≤ n) (hw : Region.wanted o (yielded ops a.tmps) = true)
    (hk : wpList Tryz.prog ops Q rest (a.put o.dst (.pointer p)) w) : wpList Tryz.prog ops Q (o :: rest) a w := wpl_valw hw (exec_ptr_rest x ho p n c hx h) hk
theorem wpl_build_rest (ho : o.op = .build 178 #[]) (hw : Region.wanted o (yielded ops a.tmps) = true) (hk : wpList Tryz.prog ops Q rest (a.put o.dst (.agg (sv z23))) w) : wpList Tryz.prog ops Q (o :: rest) a w :=
  wpl_valw hw (exec_build_rest ho) hk
theorem wpl_neq_rest (x y : Operand) (u : TypeId) (ho : o.op = .binOp .neq 178 x y u) (zs ys : List Int) (hz : zs.length = 23) (hy : ys.length = 23) (hx : a.eval x = .agg (sv zs)) (hye : a.eval y = .agg (sv ys)) (hw : Region.wanted o (yielded ops a.tmps) = true)
    (hk : wpList Tryz.prog ops Q rest (a.put o.dst (.bool (!decide (zs = ys)))) w) : wpList Tryz.prog ops Q (o :: rest) a w := wpl_valw hw (exec_neq_rest zs ys hz hy x y u ho hx hye) hk
end
end Go.Proofs.YtnmplnemnfonfaaGreatDoor
namespace Go.Proofs.YtnmplnemnfonfaaGreatDoor
open Go.RowKit
set_option maxRecDepth 8000 in
set_option maxHeartbeats 2000000 in
theorem henc_ok (h : Hdr) (ht : HdT h) (hk : hdOk h = true) (w : World) (hT : Tab w) :
    Calls Tryz.prog 43 #[.agg (hv h)] w fun r w' => r = .returned (.tuple #[.agg (sv (secH h)), .int .i64 0]) ∧ Below w.heap.size w w' := by
  obtain ⟨w0, hw0⟩ : ∃ q, (w.alloc (.cells (hv h) 41)).alloc (.cells (sv z64) 92) = q := ⟨_, rfl⟩
  have hs1 : (w.alloc (.cells (hv h) 41)).heap.size = w.heap.size + 1 := alloc_size w _
  have HK := Lib.hid (show HB w0 w.heap.size h from by rw [← hw0]; exact (HB.new w h ht.n).keep (balloc _ _))
  have HO := Lib.hid (show Blk w0 (w.heap.size + 1) z64 from by rw [← hw0, ← hs1]; exact Blk.new _ z64 z64_length)
  have HW := Lib.hid (show Below w.heap.size w w0 from by rw [← hw0]; exact bch (balloc w _) (balloc _ _))
  have HR : Hid (∀ w, Calls Tryz.prog 70 #[.agg (hv h)] w fun r w' => r = .returned (.bool true) ∧ Below w.heap.size w w') := Lib.hid fun w => by rw [← hk]; exact hright_any h ht w
  have HY := Lib.hid (fun w => hlay_any h ht hk w)
  have HN := Lib.hid (secH_length ht.n)
  have HT := Lib.hid hT
  rw [z64_cells] at hw0
  clear ht hk hT hs1
  go_enter Tryz.func43, Tryz.ntmps43
  go_wp2_with (first
    | (refine wpl_load_hd (by rfl) (.tmp 1) rfl rfl (show HB w0 w.heap.size h from HK.out) ?_)
    | (refine wpl_load_hd (by rfl) (.tmp 1) rfl rfl HK1.out ?_)
    | (go_at_call 70; (with_reducible refine (HR.out _).mono ?_); rintro r w1 ⟨rfl, hb1⟩; have HK1 := Lib.hid (HK.out.keep hb1); have HO1 := Lib.hid (HO.out.keep hb1); have HB1 := Lib.hid (bch HW.out hb1); clear hb1)
    | (go_at_call 71; (with_reducible refine (HY.out _ (HT.out.keep HB1.out)).mono ?_); rintro r w2 ⟨rfl, hb2⟩; have HO2 := Lib.hid (HO1.out.keep hb2); have HB2 := Lib.hid (bch HB1.out hb2); clear hb2)
    | (refine wpl_put_sec rfl (.tmp 2) (.tmp 9) rfl (w.heap.size + 1) z64 (secH h) HO2.out HN.out rfl rfl ?_; intro w3 HO3 HG3))
  refine bodyPost_ret_by (results_row_tmp rfl _ _ (w.heap.size + 1) _ rfl (run_loadVar_row w3 (w.heap.size + 1) _ 92 (sv (secH h)) (0, 0) _ HO3.out.1 Tryz.underlying92 rfl (sv_info _ HN.out))) rfl ⟨rfl, hbelow_grown HB2.out HG3.out (by omega) HB2.out.size⟩
set_option maxRecDepth 8000 in
set_option maxHeartbeats 2000000 in
theorem henc_no (h : Hdr) (ht : HdT h) (hk : hdOk h = false) (w : World) :
    Calls Tryz.prog 43 #[.agg (hv h)] w fun r w' => r = .returned (.tuple #[.agg (sv z64), .int .i64 13]) ∧ Below w.heap.size w w' := by
  obtain ⟨w0, hw0⟩ : ∃ q, (w.alloc (.cells (hv h) 41)).alloc (.cells (sv z64) 92) = q := ⟨_, rfl⟩
  have hs1 : (w.alloc (.cells (hv h) 41)).heap.size = w.heap.size + 1 := alloc_size w _
  have HK := Lib.hid (show HB w0 w.heap.size h from by rw [← hw0]; exact (HB.new w h ht.n).keep (balloc _ _))
  have HO := Lib.hid (show Blk w0 (w.heap.size + 1) z64 from by rw [← hw0, ← hs1]; exact Blk.new _ z64 z64_length)
  have HW := Lib.hid (show Below w.heap.size w w0 from by rw [← hw0]; exact bch (balloc w _) (balloc _ _))
  have HR : Hid (∀ w, Calls Tryz.prog 70 #[.agg (hv h)] w fun r w' => r = .returned (.bool false) ∧ Below w.heap.size w w') := Lib.hid fun w => by rw [← hk]; exact hright_any h ht w
  rw [z64_cells] at hw0
  clear ht hk hs1
  go_enter Tryz.func43, Tryz.ntmps43
  go_wp2_with (first
    | (refine wpl_load_hd (by rfl) (.tmp 1) rfl rfl (show HB w0 w.heap.size h from HK.out) ?_)
    | (go_at_call 70; (with_reducible refine (HR.out _).mono ?_); rintro r w1 ⟨rfl, hb1⟩; have HK1 := Lib.hid (HK.out.keep hb1); have HO1 := Lib.hid (HO.out.keep hb1); have HB1 := Lib.hid (bch HW.out hb1); clear hb1)
    | (refine wpl_build_z rfl (by rfl) ?_)
    | (refine wpl_put_sec rfl (.tmp 2) (.tmp 7) rfl (w.heap.size + 1) z64 z64 HO1.out z64_length rfl rfl ?_; intro w3 HO3 HG3))
  refine bodyPost_ret_by (results_row_tmp rfl _ _ (w.heap.size + 1) _ rfl (run_loadVar_row w3 (w.heap.size + 1) _ 92 (sv z64) (0, 0) _ HO3.out.1 Tryz.underlying92 rfl (sv_info _ z64_length))) rfl ⟨rfl, hbelow_grown HB1.out HG3.out (by omega) HB1.out.size⟩
end Go.Proofs.YtnmplnemnfonfaaGreatDoor
namespace Go.Proofs.YtnmplnemnfonfaaGreatDoor
open Go.RowKit
def rdl (zs : List Int) (i : Nat) : List Int := (List.range 4).map fun j => if j < i then num zs (21 + 4 * j) 4 else 0
theorem rdl_set (zs : List Int) (i : Nat) (h : i < 4) : (rdl zs i).set i (num zs (21 + 4 * i) 4) = rdl zs (i + 1) := by
  match i, h with
  | 0, _ => rfl
  | 1, _ => rfl
  | 2, _ => rfl
  | 3, _ => rfl
theorem rdl_all (zs : List Int) : rdl zs 4 = [num zs 21 4, num zs 25 4, num zs 29 4, num zs 33 4] := rfl
set_option maxRecDepth 8000 in
set_option maxHeartbeats 4000000 in
theorem hread_any (zs : List Int) (hl : zs.length = 64) (hb : isB zs) (w : World) :
    Calls Tryz.prog 116 #[.agg (sv zs)] w fun e w' => e = .returned (.agg (hv (readH zs))) ∧ Below w.heap.size w w' := by
  have HT := readH_typed hb
  obtain ⟨w0, hw0⟩ : ∃ q, (w.alloc (.cells (sv zs) 92)).alloc (.cells #[.int .u64 0, .int .i64 0, .int .i64 0, .int .i64 0, .int .i64 0, .int .i64 0, .int .i64 0] 41) = q := ⟨_, rfl⟩
  have hs1 : (w.alloc (.cells (sv zs) 92)).heap.size = w.heap.size + 1 := alloc_size w _
  have HK := Lib.hid (show Blk w0 w.heap.size zs from by rw [← hw0]; exact (Blk.new w zs hl).keep (balloc _ _))
  have HRB := Lib.hid (show HB w0 (w.heap.size + 1) noH from by rw [← hw0, ← hs1]; exact HB.new _ noH rfl)
  have HW := Lib.hid (show Below w.heap.size w w0 from by rw [← hw0]; exact bch (balloc w _) (balloc _ _))
  have HSZ := Lib.hid (show w0.heap.size = w.heap.size + 2 from by rw [← hw0, alloc_size, hs1])
  obtain ⟨e0, he0⟩ : ∃ x, num zs 5 8 = x := ⟨_, rfl⟩
  obtain ⟨s0, hs0⟩ : ∃ x, num zs 13 4 = x := ⟨_, rfl⟩
  obtain ⟨f0, hf0⟩ : ∃ x, num zs 17 4 = x := ⟨_, rfl⟩
  have HE := Lib.hid (show (⟨e0, s0, f0, [num zs 21 4, num zs 25 4, num zs 29 4, num zs 33 4]⟩ : Hdr) = readH zs from by rw [← he0, ← hs0, ← hf0]; rfl)
  have HG5 : Hid (∀ w', Blk w' w.heap.size zs → Calls Tryz.prog 118 #[.slice (some ⟨w.heap.size, 5, none⟩) 8 59] w' fun e w'' => e = .returned (.int .u64 e0) ∧ w' = w'') := Lib.hid fun w' h => sec_get w.heap.size 5 8 zs w' h hb (by omega) (by omega) (by omega) he0
  have HG13 : Hid (∀ w', Calls Tryz.prog 124 #[.agg (sv zs), .int .i64 13] w' fun e w'' => e = .returned (.int .i64 s0) ∧ Below w'.heap.size w' w'') := Lib.hid fun w' => hhd_get_any zs hl hb 13 (by omega) w' hs0
  have HG17 : Hid (∀ w', Calls Tryz.prog 124 #[.agg (sv zs), .int .i64 17] w' fun e w'' => e = .returned (.int .i64 f0) ∧ Below w'.heap.size w' w'') := Lib.hid fun w' => hhd_get_any zs hl hb 17 (by omega) w' hf0
  have HL := Lib.hid hl
  have HZ := Lib.hid hb
  clear hl hb he0 hs0 hf0 HT hs1
  go_enter Tryz.func116, Tryz.ntmps116
  go_wp2_with fail
  refine wp_region_held_drew (S := (fun w' => Blk w' w.heap.size zs ∧ Below w0.heap.size w0 w')) (by kernel_rfl) ⟨HK.out, (Below.refl _ _).drew⟩ (fun hS => ?_)
  refine rgw 0 ⟨some 5, .slice 92 (.tmp 1) (some (.const (.int .i64 5))) (some (.const (.int .i64 13))) none, 49, _, _, none⟩ hS ?_
  refine rgw 2 ⟨some 7, .load 92 (.tmp 1), 92, _, _, none⟩ hS ?_ (hy := by intro w hSw; (try dsimp only at hSw); refine exec_load_sec (.tmp 1) ?_ ?_ hSw.1 <;> rfl)
  refine rgw 4 ⟨some 9, .load 92 (.tmp 1), 92, _, _, none⟩ hS ?_ (hy := by intro w hSw; (try dsimp only at hSw); refine exec_load_sec (.tmp 1) ?_ ?_ hSw.1 <;> rfl)
  refine rg_both 1 7 ⟨some 6, .call { callee := .value (.func 118), args := #[.tmp 5], argTypes := #[49] }, 22, _, _, none⟩ ⟨some 3, .alloc 41, 0, _, _, none⟩ (by kernel_rfl) rfl rfl (fun K hK => ?_) (fun K hK => ?_)
  focus
    go_simp
    (go_at_call 118; (refine (HG5.out _ hS.1).mono ?_); rintro e w2 ⟨rfl, rfl⟩)
    refine hK.out _ _ ?_ (fun hS1 => ?_)
    · (first | exact hS | exact hN | exact ⟨hS.1.keep hb, bch hS.2 hb⟩)
    clear hK K hS; have hS := hS1; clear hS1
    (try simp only [rgp])
    refine rg_both 3 7 ⟨some 8, .call { callee := .value (.func 124), args := #[.tmp 7, .const (.int .i64 13)], argTypes := #[92, 3] }, 3, _, _, none⟩ ⟨some 3, .alloc 41, 0, _, _, none⟩ (by kernel_rfl) rfl rfl (fun K hK => ?_) (fun K hK => ?_)
    focus
      go_simp
      (go_at_call 124; (refine (HG13.out _).mono ?_); rintro e w3 ⟨rfl, hb⟩; (try (have HA2 := Lib.hid (HA.out.keep hb); clear HA; have HA := HA2; clear HA2)))
      refine hK.out _ _ ?_ (fun hS1 => ?_)
      · (first | exact hS | exact hN | exact ⟨hS.1.keep hb, bch hS.2 hb⟩)
      clear hK K hS; have hS := hS1; clear hS1
      (try simp only [rgp])
      refine rg_both 5 7 ⟨some 10, .call { callee := .value (.func 124), args := #[.tmp 9, .const (.int .i64 17)], argTypes := #[92, 3] }, 3, _, _, none⟩ ⟨some 3, .alloc 41, 0, _, _, none⟩ (by kernel_rfl) rfl rfl (fun K hK => ?_) (fun K hK => ?_)
      focus
        go_simp
        (go_at_call 124; (refine (HG17.out _).mono ?_); rintro e w4 ⟨rfl, hb⟩; (try (have HA2 := Lib.hid (HA.out.keep hb); clear HA; have HA := HA2; clear HA2)))
        refine hK.out _ _ ?_ (fun hS1 => ?_)
        · (first | exact hS | exact hN | exact ⟨hS.1.keep hb, bch hS.2 hb⟩)
        clear hK K hS; have hS := hS1; clear hS1
        (try simp only [rgp])
        refine rgw 6 ⟨some 11, .build 41 #[(0, .tmp 6), (1, .tmp 8), (2, .tmp 10)], 41, _, _, none⟩ hS ?_ (v := .agg (hv ⟨e0, s0, f0, [0, 0, 0, 0]⟩)) (hy := by intro w hSw; (try dsimp only at hSw); go_simp; rfl)
        refine rg_one 7 ⟨some 3, .alloc 41, 0, _, _, none⟩ (by kernel_rfl) rfl (fun K hK => ?_)
        rw [if_pos (by rfl)]; refine wp_new_hd rfl ?_; intro g w5 HA hg hb0; have hb := hb0.out; have HGE := Lib.hid (Nat.le_trans hS.2.size hg.out); clear hg hb0
        refine hK.out _ _ ?_ (fun hS1 => ?_)
        · (first | exact hS | exact hN | exact ⟨hS.1.keep hb, bch hS.2 hb⟩)
        clear hK K hS; have hS := hS1; clear hS1
        (try simp only [rgp])
      rotate_left
      focus
        rw [if_pos (by rfl)]; refine wp_new_hd rfl ?_; intro g w5 HA hg hb0; have hb := hb0.out; have HGE := Lib.hid (Nat.le_trans hS.2.size hg.out); clear hg hb0
        refine hK.out _ _ ?_ (fun hS1 => ?_)
        · (first | exact hS | exact hN | exact ⟨hS.1.keep hb, bch hS.2 hb⟩)
        clear hK K hS; have hS := hS1; clear hS1
        (try simp only [rgp])
        refine rg_one 5 ⟨some 10, .call { callee := .value (.func 124), args := #[.tmp 9, .const (.int .i64 17)], argTypes := #[92, 3] }, 3, _, _, none⟩ (by kernel_rfl) rfl (fun K hK => ?_)
        go_simp
        (go_at_call 124; (refine (HG17.out _).mono ?_); rintro e w4 ⟨rfl, hb⟩; (try (have HA2 := Lib.hid (HA.out.keep hb); clear HA; have HA := HA2; clear HA2)))
        refine hK.out _ _ ?_ (fun hS1 => ?_)
        · (first | exact hS | exact hN | exact ⟨hS.1.keep hb, bch hS.2 hb⟩)
        clear hK K hS; have hS := hS1; clear hS1
        (try simp only [rgp])
        refine rgw 6 ⟨some 11, .build 41 #[(0, .tmp 6), (1, .tmp 8), (2, .tmp 10)], 41, _, _, none⟩ hS ?_ (v := .agg (hv ⟨e0, s0, f0, [0, 0, 0, 0]⟩)) (hy := by intro w hSw; (try dsimp only at hSw); go_simp; rfl)
      rotate_left
    rotate_left 2
    focus
      rw [if_pos (by rfl)]; refine wp_new_hd rfl ?_; intro g w5 HA hg hb0; have hb := hb0.out; have HGE := Lib.hid (Nat.le_trans hS.2.size hg.out); clear hg hb0
      refine hK.out _ _ ?_ (fun hS1 => ?_)
      · (first | exact hS | exact hN | exact ⟨hS.1.keep hb, bch hS.2 hb⟩)
      clear hK K hS; have hS := hS1; clear hS1
      (try simp only [rgp])
      refine rg_one 3 ⟨some 8, .call { callee := .value (.func 124), args := #[.tmp 7, .const (.int .i64 13)], argTypes := #[92, 3] }, 3, _, _, none⟩ (by kernel_rfl) rfl (fun K hK => ?_)
      go_simp
      (go_at_call 124; (refine (HG13.out _).mono ?_); rintro e w3 ⟨rfl, hb⟩; (try (have HA2 := Lib.hid (HA.out.keep hb); clear HA; have HA := HA2; clear HA2)))
      refine hK.out _ _ ?_ (fun hS1 => ?_)
      · (first | exact hS | exact hN | exact ⟨hS.1.keep hb, bch hS.2 hb⟩)
      clear hK K hS; have hS := hS1; clear hS1
      (try simp only [rgp])
      refine rg_one 5 ⟨some 10, .call { callee := .value (.func 124), args := #[.tmp 9, .const (.int .i64 17)], argTypes := #[92, 3] }, 3, _, _, none⟩ (by kernel_rfl) rfl (fun K hK => ?_)
      go_simp
      (go_at_call 124; (refine (HG17.out _).mono ?_); rintro e w4 ⟨rfl, hb⟩; (try (have HA2 := Lib.hid (HA.out.keep hb); clear HA; have HA := HA2; clear HA2)))
      refine hK.out _ _ ?_ (fun hS1 => ?_)
      · (first | exact hS | exact hN | exact ⟨hS.1.keep hb, bch hS.2 hb⟩)
      clear hK K hS; have hS := hS1; clear hS1
      (try simp only [rgp])
      refine rgw 6 ⟨some 11, .build 41 #[(0, .tmp 6), (1, .tmp 8), (2, .tmp 10)], 41, _, _, none⟩ hS ?_ (v := .agg (hv ⟨e0, s0, f0, [0, 0, 0, 0]⟩)) (hy := by intro w hSw; (try dsimp only at hSw); go_simp; rfl)
    rotate_left
  rotate_left 3
  focus
    rw [if_pos (by rfl)]; refine wp_new_hd rfl ?_; intro g w5 HA hg hb0; have hb := hb0.out; have HGE := Lib.hid (Nat.le_trans hS.2.size hg.out); clear hg hb0
    refine hK.out _ _ ?_ (fun hS1 => ?_)
    · (first | exact hS | exact hN | exact ⟨hS.1.keep hb, bch hS.2 hb⟩)
    clear hK K hS; have hS := hS1; clear hS1
    (try simp only [rgp])
    refine rg_one 1 ⟨some 6, .call { callee := .value (.func 118), args := #[.tmp 5], argTypes := #[49] }, 22, _, _, none⟩ (by kernel_rfl) rfl (fun K hK => ?_)
    go_simp
    (go_at_call 118; (refine (HG5.out _ hS.1).mono ?_); rintro e w2 ⟨rfl, rfl⟩)
    refine hK.out _ _ ?_ (fun hS1 => ?_)
    · (first | exact hS | exact hN | exact ⟨hS.1.keep hb, bch hS.2 hb⟩)
    clear hK K hS; have hS := hS1; clear hS1
    (try simp only [rgp])
    refine rg_one 3 ⟨some 8, .call { callee := .value (.func 124), args := #[.tmp 7, .const (.int .i64 13)], argTypes := #[92, 3] }, 3, _, _, none⟩ (by kernel_rfl) rfl (fun K hK => ?_)
    go_simp
    (go_at_call 124; (refine (HG13.out _).mono ?_); rintro e w3 ⟨rfl, hb⟩; (try (have HA2 := Lib.hid (HA.out.keep hb); clear HA; have HA := HA2; clear HA2)))
    refine hK.out _ _ ?_ (fun hS1 => ?_)
    · (first | exact hS | exact hN | exact ⟨hS.1.keep hb, bch hS.2 hb⟩)
    clear hK K hS; have hS := hS1; clear hS1
    (try simp only [rgp])
    refine rg_one 5 ⟨some 10, .call { callee := .value (.func 124), args := #[.tmp 9, .const (.int .i64 17)], argTypes := #[92, 3] }, 3, _, _, none⟩ (by kernel_rfl) rfl (fun K hK => ?_)
    go_simp
    (go_at_call 124; (refine (HG17.out _).mono ?_); rintro e w4 ⟨rfl, hb⟩; (try (have HA2 := Lib.hid (HA.out.keep hb); clear HA; have HA := HA2; clear HA2)))
    refine hK.out _ _ ?_ (fun hS1 => ?_)
    · (first | exact hS | exact hN | exact ⟨hS.1.keep hb, bch hS.2 hb⟩)
    clear hK K hS; have hS := hS1; clear hS1
    (try simp only [rgp])
    refine rgw 6 ⟨some 11, .build 41 #[(0, .tmp 6), (1, .tmp 8), (2, .tmp 10)], 41, _, _, none⟩ hS ?_ (v := .agg (hv ⟨e0, s0, f0, [0, 0, 0, 0]⟩)) (hy := by intro w hSw; (try dsimp only at hSw); go_simp; rfl)
  rotate_left
  all_goals
    refine rg_one 8 ⟨none, .store 41 (.tmp 3) (.tmp 11), 0, _, _, none⟩ (by kernel_rfl) rfl (fun K hK => ?_)
    rw [if_pos (by rfl)]; refine wp_put_hd (.tmp 3) (.tmp 11) rfl g noH ⟨e0, s0, f0, [0, 0, 0, 0]⟩ HA.out rfl rfl rfl ?_; intro w6 HA6 HG6; have HN1 := Lib.hid (show w.heap.size ≠ g by have := HGE.out; have := HSZ.out; omega); have HN2 := HGE; have hN := And.intro (hS.1.over HG6.out HN1.out) (hbelow_grown hS.2 HG6.out HGE.out hS.2.size); clear HA
    refine hK.out _ _ ?_ (fun hS1 => ?_)
    · (first | exact hS | exact hN | exact ⟨hS.1.keep hb, bch hS.2 hb⟩)
    clear hK K hS; have hS := hS1; clear hS1
    (try simp only [Act.put])
    refine wpAnyH_done (by kernel_rfl) ?_ _
    have HB6 := Lib.hid hS.2
    have HK6 := Lib.hid hS.1
    have HA := Lib.hid HA6.out
    clear hS HA6 HG6
    (try clear hN hb)
    go_wp2
    go_loopw [12] (fun v wr => ∃ i : Nat, v = .int .i64 i ∧ i ≤ 4 ∧ Hid (HB wr g ⟨e0, s0, f0, rdl zs i⟩) ∧ Hid (Blk wr w.heap.size zs) ∧ Hid (Below w0.heap.size w0 wr)) (fun v _ => 4 - (intOf v).toNat)
    case atStart => exact ⟨0, rfl, by omega, HA, HK6, HB6⟩
    case round =>
      obtain ⟨i, rfl, hi, HAR, HKR, HBR⟩ := hrel
      by_cases hlt : i < 4
      · obtain ⟨x, hx⟩ : ∃ x, num zs (21 + 4 * i) 4 = x := ⟨_, rfl⟩
        have HXS := Lib.hid (rdl_set zs i hlt)
        rw [hx] at HXS
        have HGX := Lib.hid (fun w => hhd_get_any zs HL.out HZ.out (21 + 4 * i) (by omega) w hx)
        obtain ⟨p, hp⟩ : ∃ p : Nat, 21 + 4 * i = p := ⟨_, rfl⟩
        rw [hp] at HGX
        have hp2 : (21 : Int) + 4 * (i : Int) = (p : Int) := by omega
        have hlt2 : (i : Int) < 4 := by omega
        have hpb : (p : Int) ≤ 33 := by omega
        clear hx hp
        go_wp2_with (first
          | (refine wpl_load_sec (by rfl) (.tmp 1) rfl w.heap.size rfl zs HKR.out ?_)
          | (go_at_call 124; (with_reducible refine (HGX.out _).mono ?_); rintro r w7 ⟨rfl, hb7⟩; have HA7 := Lib.hid (HAR.out.keep hb7); have HK7 := Lib.hid (HKR.out.keep hb7); have HB7 := Lib.hid (bch HBR.out hb7); have hc7 := HA7.out.head i hlt; have hf7 := HA7.out.frozen (3 + i); dsimp only at hc7; clear hb7))
        go_roundw
        case rel =>
          refine ⟨i + 1, by go_num, by omega, Lib.hid ?_, Lib.hid (HK7.out.apart HN1.out _ _), Lib.hid (HB7.out.setCell HN2.out _)⟩
          have h1 := HA7.out.stored i x
          dsimp only at h1
          rw [HXS.out] at h1
          exact h1
        case measure => simp [intOf]; omega
      · obtain rfl : i = 4 := by omega
        have HRD := Lib.hid (rdl_all zs)
        have HAF := Lib.hid (show HB wr g (readH zs) from by have h1 := HAR.out; rw [HRD.out, HE.out] at h1; exact h1)
        have HO := Lib.hid (HRB.out.keep HBR.out)
        go_wp2_with (first
          | (refine wpl_load_hd (by rfl) (.tmp 3) rfl rfl HAF.out ?_)
          | (refine wpl_put_hd rfl (.tmp 2) (.tmp 24) rfl (w.heap.size + 1) noH (readH zs) HO.out rfl rfl rfl ?_; intro w9 HO9 HG9))
        refine bodyPost_ret_by (v := .agg (hv (readH zs))) (results_cell_row rfl _ _ (w.heap.size + 1) _ (hv (readH zs)) (0, 0) _ rfl HO9.out.1 Tryz.underlying41 rfl (hv_info rfl)) rfl ⟨rfl, ?_⟩
        exact hbelow_grown (bch HW.out HBR.out) HG9.out (by omega) (Nat.le_trans HW.out.size HBR.out.size)
end Go.Proofs.YtnmplnemnfonfaaGreatDoor
namespace Go.Proofs.YtnmplnemnfonfaaGreatDoor
open Go.RowKit
theorem bequal_any (v v' : Value) (n n' : Nat) (d d' : List Int) (w : World) (h1 : RI .u8 w v n d) (h2 : RI .u8 w v' n' d') (hb1 : isB d) (hb2 : isB d') :
    Calls Tryz.prog 115 #[v, v'] w fun e w' => e = .returned (.bool (decide (d = d'))) ∧ w = w' := by
  have q1 := conv_ri h1
  have q2 := conv_ri h2
  by_cases hd : d = d'
  · subst hd
    rw [show decide (d = d) = true from by simp]
    clear h1 h2 hb1 hb2
    go_enter Tryz.func115, Tryz.ntmps115
    go_wp2
    go_ret
    exact ⟨rfl, rfl⟩
  · rw [show decide (d = d') = false from by simp [hd]]
    have hs2 := str_ne (fun e => hd (strOfNums_inj hb1 hb2 e))
    clear h1 h2 hb1 hb2
    go_enter Tryz.func115, Tryz.ntmps115
    go_wp2
    go_ret
    exact ⟨rfl, rfl⟩
end Go.Proofs.YtnmplnemnfonfaaGreatDoor
namespace Go.Proofs.YtnmplnemnfonfaaGreatDoor
open Go.RowKit
set_option maxRecDepth 8000 in
set_option maxHeartbeats 4000000 in
theorem hdec_none (zs : List Int) (hl : zs.length = 64) (hb : isB zs) (w : World) (hT : Tab w) (h1 : zs = z64) :
    Calls Tryz.prog 97 #[.agg (sv zs)] w fun r w' => r = .returned (.tuple #[.agg (hv noH), .int .i64 7]) ∧ Below w.heap.size w w' := by
  obtain ⟨w0, hw0⟩ : ∃ q, (w.alloc (.cells (sv zs) 92)).alloc (.cells #[.int .u64 0, .int .i64 0, .int .i64 0, .int .i64 0, .int .i64 0, .int .i64 0, .int .i64 0] 41) = q := ⟨_, rfl⟩
  have hs1 : (w.alloc (.cells (sv zs) 92)).heap.size = w.heap.size + 1 := alloc_size w _
  have HK := Lib.hid (show Blk w0 w.heap.size zs from by rw [← hw0]; exact (Blk.new w zs hl).keep (balloc _ _))
  have HRB := Lib.hid (show HB w0 (w.heap.size + 1) noH from by rw [← hw0, ← hs1]; exact HB.new _ noH rfl)
  have HW := Lib.hid (show Below w.heap.size w w0 from by rw [← hw0]; exact bch (balloc w _) (balloc _ _))
  have HSZ := Lib.hid (show w0.heap.size = w.heap.size + 2 from by rw [← hw0, alloc_size, hs1])
  have HT := Lib.hid hT
  have HL := Lib.hid hl
  have HZB := Lib.hid hb
  have HEQ := Lib.hid (show decide (zs = z64) = true from by simpa using h1)
  clear hl hb hT hs1 h1
  go_enter Tryz.func97, Tryz.ntmps97
  go_wp2_with (first
    | (refine wpl_load_sec (by rfl) (.tmp 1) rfl w.heap.size rfl zs HK.out ?_)
    | (refine wpl_build_z rfl (by rfl) ?_)
    | (refine wpl_eq_sec (.tmp 6) (.tmp 7) _ rfl zs z64 HL.out z64_length rfl rfl (by rfl) ?_; rw [HEQ.out])
    | (refine wpl_put_hd rfl (.tmp 2) (.tmp 9) rfl (w.heap.size + 1) noH noH HRB.out rfl rfl rfl ?_; intro wf HOF HGF))
  refine bodyPost_ret_by (results_row_tmp rfl _ _ (w.heap.size + 1) _ rfl HOF.out.load) rfl ⟨rfl, hbelow_grown HW.out HGF.out (by omega) HW.out.size⟩
set_option maxRecDepth 8000 in
set_option maxHeartbeats 4000000 in
theorem hdec_mark (zs : List Int) (hl : zs.length = 64) (hb : isB zs) (w : World) (hT : Tab w) (h1 : ¬ zs = z64) (h2 : ¬ zs.take 5 = mark) :
    Calls Tryz.prog 97 #[.agg (sv zs)] w fun r w' => r = .returned (.tuple #[.agg (hv noH), .int .i64 2]) ∧ Below w.heap.size w w' := by
  obtain ⟨w0, hw0⟩ : ∃ q, (w.alloc (.cells (sv zs) 92)).alloc (.cells #[.int .u64 0, .int .i64 0, .int .i64 0, .int .i64 0, .int .i64 0, .int .i64 0, .int .i64 0] 41) = q := ⟨_, rfl⟩
  have hs1 : (w.alloc (.cells (sv zs) 92)).heap.size = w.heap.size + 1 := alloc_size w _
  have HK := Lib.hid (show Blk w0 w.heap.size zs from by rw [← hw0]; exact (Blk.new w zs hl).keep (balloc _ _))
  have HRB := Lib.hid (show HB w0 (w.heap.size + 1) noH from by rw [← hw0, ← hs1]; exact HB.new _ noH rfl)
  have HW := Lib.hid (show Below w.heap.size w w0 from by rw [← hw0]; exact bch (balloc w _) (balloc _ _))
  have HSZ := Lib.hid (show w0.heap.size = w.heap.size + 2 from by rw [← hw0, alloc_size, hs1])
  have HT := Lib.hid hT
  have HL := Lib.hid hl
  have HZB := Lib.hid hb
  have HEQ := Lib.hid (show decide (zs = z64) = false from by simpa using h1)
  have hri5 := HK.out.ri 0 5 64 (by omega) (by omega) (by omega)
  rw [List.drop_zero] at hri5
  obtain ⟨s5, hs5⟩ : ∃ s, strOfNums (zs.take 5) = s := ⟨_, rfl⟩
  have hq5 := (conv_ri hri5).trans (by rw [hs5])
  have hne0 := str_ne (show ¬ s5 = ⟨#[115, 116, 114, 100, 1]⟩ from fun e => h2 (strOfNums_inj (hb.take 5) mark_bytes (by rw [hs5, e]; rfl)))
  have hne : (s5.toList == [115, 116, 114, 100, 1]) = false := by rwa [show (⟨#[115, 116, 114, 100, 1]⟩ : ByteArray).toList = [115, 116, 114, 100, 1] from by rw [ByteArray.toList_eq]] at hne0
  clear hne0
  clear hri5 hs5
  clear hl hb hT hs1 h1 h2
  go_enter Tryz.func97, Tryz.ntmps97
  go_wp2_with (first
    | (refine wpl_load_sec (by rfl) (.tmp 1) rfl w.heap.size rfl zs HK.out ?_)
    | (refine wpl_build_z rfl (by rfl) ?_)
    | (refine wpl_eq_sec (.tmp 6) (.tmp 7) _ rfl zs z64 HL.out z64_length rfl rfl (by rfl) ?_; rw [HEQ.out])
    | (refine wpl_put_hd rfl (.tmp 2) (.tmp 21) rfl (w.heap.size + 1) noH noH HRB.out rfl rfl rfl ?_; intro wf HOF HGF))
  refine bodyPost_ret_by (results_row_tmp rfl _ _ (w.heap.size + 1) _ rfl HOF.out.load) rfl ⟨rfl, hbelow_grown HW.out HGF.out (by omega) HW.out.size⟩
set_option maxRecDepth 8000 in
set_option maxHeartbeats 4000000 in
theorem hdec_rest (zs : List Int) (hl : zs.length = 64) (hb : isB zs) (w : World) (hT : Tab w) (h1 : ¬ zs = z64) (h2 : zs.take 5 = mark) (h3 : ¬ zs.drop 41 = z23) :
    Calls Tryz.prog 97 #[.agg (sv zs)] w fun r w' => r = .returned (.tuple #[.agg (hv noH), .int .i64 2]) ∧ Below w.heap.size w w' := by
  obtain ⟨w0, hw0⟩ : ∃ q, (w.alloc (.cells (sv zs) 92)).alloc (.cells #[.int .u64 0, .int .i64 0, .int .i64 0, .int .i64 0, .int .i64 0, .int .i64 0, .int .i64 0] 41) = q := ⟨_, rfl⟩
  have hs1 : (w.alloc (.cells (sv zs) 92)).heap.size = w.heap.size + 1 := alloc_size w _
  have HK := Lib.hid (show Blk w0 w.heap.size zs from by rw [← hw0]; exact (Blk.new w zs hl).keep (balloc _ _))
  have HRB := Lib.hid (show HB w0 (w.heap.size + 1) noH from by rw [← hw0, ← hs1]; exact HB.new _ noH rfl)
  have HW := Lib.hid (show Below w.heap.size w w0 from by rw [← hw0]; exact bch (balloc w _) (balloc _ _))
  have HSZ := Lib.hid (show w0.heap.size = w.heap.size + 2 from by rw [← hw0, alloc_size, hs1])
  have HT := Lib.hid hT
  have HL := Lib.hid hl
  have HZB := Lib.hid hb
  have HEQ := Lib.hid (show decide (zs = z64) = false from by simpa using h1)
  have hri5 := HK.out.ri 0 5 64 (by omega) (by omega) (by omega)
  rw [List.drop_zero] at hri5
  have hq5 := (conv_ri hri5).trans (show Result.ok (Value.string (strOfNums (zs.take 5))) w0 = .ok (.string ⟨#[115, 116, 114, 100, 1]⟩) w0 from by rw [h2]; rfl)
  have HD23 := Lib.hid (show (zs.drop 41).length = 23 from by simp [hl])
  have HRQ := Lib.hid (show (!decide (zs.drop 41 = z23)) = true from by simpa using h3)
  clear hri5
  clear hl hb hT hs1 h1 h2 h3
  go_enter Tryz.func97, Tryz.ntmps97
  go_wp2_with (first
    | (refine wpl_load_sec (by rfl) (.tmp 1) rfl w.heap.size rfl zs HK.out ?_)
    | (refine wpl_build_z rfl (by rfl) ?_)
    | (refine wpl_eq_sec (.tmp 6) (.tmp 7) _ rfl zs z64 HL.out z64_length rfl rfl (by rfl) ?_; rw [HEQ.out])
    | (refine wpl_ptr_rest (.tmp 15) rfl _ _ _ rfl (by omega) (by rfl) ?_)
    | (refine wpl_load_rest (.tmp 16) rfl rfl HK.out (by rfl) ?_)
    | (refine wpl_build_rest rfl (by rfl) ?_)
    | (refine wpl_neq_rest (.tmp 17) (.tmp 18) _ rfl (zs.drop 41) z23 HD23.out z23_length rfl rfl (by rfl) ?_; rw [HRQ.out])
    | (refine wpl_put_hd rfl (.tmp 2) (.tmp 21) rfl (w.heap.size + 1) noH noH HRB.out rfl rfl rfl ?_; intro wf HOF HGF))
  refine bodyPost_ret_by (results_row_tmp rfl _ _ (w.heap.size + 1) _ rfl HOF.out.load) rfl ⟨rfl, hbelow_grown HW.out HGF.out (by omega) HW.out.size⟩
set_option maxRecDepth 8000 in
set_option maxHeartbeats 4000000 in
theorem hdec_sum (zs : List Int) (hl : zs.length = 64) (hb : isB zs) (w : World) (hT : Tab w) (h1 : ¬ zs = z64) (h2 : zs.take 5 = mark) (h3 : zs.drop 41 = z23) (h4 : ¬ (zs.drop 37).take 4 = putL (maskS (ofS (zs.take 37))) 4) :
    Calls Tryz.prog 97 #[.agg (sv zs)] w fun r w' => r = .returned (.tuple #[.agg (hv noH), .int .i64 3]) ∧ Below w.heap.size w w' := by
  obtain ⟨w0, hw0⟩ : ∃ q, (w.alloc (.cells (sv zs) 92)).alloc (.cells #[.int .u64 0, .int .i64 0, .int .i64 0, .int .i64 0, .int .i64 0, .int .i64 0, .int .i64 0] 41) = q := ⟨_, rfl⟩
  have hs1 : (w.alloc (.cells (sv zs) 92)).heap.size = w.heap.size + 1 := alloc_size w _
  have HK := Lib.hid (show Blk w0 w.heap.size zs from by rw [← hw0]; exact (Blk.new w zs hl).keep (balloc _ _))
  have HRB := Lib.hid (show HB w0 (w.heap.size + 1) noH from by rw [← hw0, ← hs1]; exact HB.new _ noH rfl)
  have HW := Lib.hid (show Below w.heap.size w w0 from by rw [← hw0]; exact bch (balloc w _) (balloc _ _))
  have HSZ := Lib.hid (show w0.heap.size = w.heap.size + 2 from by rw [← hw0, alloc_size, hs1])
  have HT := Lib.hid hT
  have HL := Lib.hid hl
  have HZB := Lib.hid hb
  have HEQ := Lib.hid (show decide (zs = z64) = false from by simpa using h1)
  have hri5 := HK.out.ri 0 5 64 (by omega) (by omega) (by omega)
  rw [List.drop_zero] at hri5
  have hq5 := (conv_ri hri5).trans (show Result.ok (Value.string (strOfNums (zs.take 5))) w0 = .ok (.string ⟨#[115, 116, 114, 100, 1]⟩) w0 from by rw [h2]; rfl)
  have HD23 := Lib.hid (show (zs.drop 41).length = 23 from by simp [hl])
  have HRQ := Lib.hid (show (!decide (zs.drop 41 = z23)) = false from by simpa using h3)
  clear hri5
  obtain ⟨m, hm⟩ : ∃ m, maskS (ofS (zs.take 37)) = m := ⟨_, rfl⟩
  have HSU := Lib.hid (fun w ht => hsum_any (w := w) ht zs hl hb hm)
  have HBQ := Lib.hid (show decide ((zs.drop 37).take 4 = putL m 4) = false from by rw [← hm]; simpa using h4)
  have HPB := Lib.hid (show isB ((zs.drop 37).take 4) from (hb.drop 37).take 4)
  clear hm
  clear hl hb hT hs1 h1 h2 h3 h4
  go_enter Tryz.func97, Tryz.ntmps97
  go_wp2_with (first
    | (refine wpl_load_sec (by rfl) (.tmp 1) rfl w.heap.size rfl zs HK.out ?_)
    | (refine wpl_build_z rfl (by rfl) ?_)
    | (refine wpl_eq_sec (.tmp 6) (.tmp 7) _ rfl zs z64 HL.out z64_length rfl rfl (by rfl) ?_; rw [HEQ.out])
    | (refine wpl_ptr_rest (.tmp 15) rfl _ _ _ rfl (by omega) (by rfl) ?_)
    | (refine wpl_load_rest (.tmp 16) rfl rfl HK.out (by rfl) ?_)
    | (refine wpl_build_rest rfl (by rfl) ?_)
    | (refine wpl_neq_rest (.tmp 17) (.tmp 18) _ rfl (zs.drop 41) z23 HD23.out z23_length rfl rfl (by rfl) ?_; rw [HRQ.out]))
  go_wp2_with fail
  refine wp_region_held_drew (S := (fun w' => Blk w' w.heap.size zs ∧ HB w' (w.heap.size + 1) noH ∧ Below w.heap.size w w')) (by kernel_rfl) ⟨HK.out, HRB.out, HW.out.drew⟩ (fun hS => ?_)
  refine rgw 0 ⟨some 23, .slice 92 (.tmp 1) (some (.const (.int .i64 37))) (some (.const (.int .i64 41))) none, 49, _, _, none⟩ hS ?_
  refine rgw 1 ⟨some 24, .load 92 (.tmp 1), 92, _, _, none⟩ hS ?_ (hy := by intro w hSw; (try dsimp only at hSw); refine exec_load_sec (.tmp 1) ?_ ?_ hSw.1 <;> rfl)
  refine rg_one 2 ⟨some 25, .call { callee := .value (.func 95), args := #[.tmp 24], argTypes := #[92] }, 49, _, _, none⟩ (by kernel_rfl) rfl (fun K hK => ?_)
  go_simp
  (go_at_call 95; (refine (HSU.out _ (HT.out.keep hS.2.2)).mono ?_); rintro r w3 ⟨p3, rfl, ho, hb⟩; have HR3 := Lib.hid (RI.own ho); clear ho)
  refine hK.out _ _ ?_ (fun hS1 => ?_)
  · (first | exact hS | exact ⟨hS.1.keep hb, hS.2.1.keep hb, bch hS.2.2 hb⟩)
  clear hK K hS; have hS := hS1; clear hS1
  (try simp only [rgp])
  refine rg_one 3 ⟨some 26, .call { callee := .value (.func 115), args := #[.tmp 23, .tmp 25], argTypes := #[49, 49] }, 4, _, _, none⟩ (by kernel_rfl) rfl (fun K hK => ?_)
  go_simp
  (go_at_call 115; (refine (bequal_any _ _ 4 4 _ _ _ (hS.1.ri 37 4 27 (by omega) (by omega) (by omega)) HR3.out HPB.out (putL_isB _ _)).mono ?_); rintro r w4 ⟨rfl, rfl⟩; rw [HBQ.out])
  refine hK.out _ _ ?_ (fun hS1 => ?_)
  · (first | exact hS | exact ⟨hS.1.keep hb, hS.2.1.keep hb, bch hS.2.2 hb⟩)
  clear hK K hS; have hS := hS1; clear hS1
  (try simp only [rgp])
  refine rgw 4 ⟨some 27, .unOp .not 4 (.tmp 26), 4, _, _, none⟩ hS ?_
  refine rgw 5 ⟨some 22, .assign (.tmp 27), 4, _, _, none⟩ hS ?_
  refine wpAnyH_done (by kernel_rfl) ?_ _
  have HK3 := Lib.hid hS.1
  have HRB3 := Lib.hid hS.2.1
  have HW3 := Lib.hid hS.2.2
  clear hS
  go_wp2_with (first
    | (refine wpl_put_hd rfl (.tmp 2) (.tmp 28) rfl (w.heap.size + 1) noH noH HRB3.out rfl rfl rfl ?_; intro wf HOF HGF))
  refine bodyPost_ret_by (results_row_tmp rfl _ _ (w.heap.size + 1) _ rfl HOF.out.load) rfl ⟨rfl, hbelow_grown HW3.out HGF.out (by omega) HW3.out.size⟩
set_option maxRecDepth 8000 in
set_option maxHeartbeats 4000000 in
theorem hdec_wrong (zs : List Int) (hl : zs.length = 64) (hb : isB zs) (w : World) (hT : Tab w) (h1 : ¬ zs = z64) (h2 : zs.take 5 = mark) (h3 : zs.drop 41 = z23) (h4 : (zs.drop 37).take 4 = putL (maskS (ofS (zs.take 37))) 4) (h5 : hdOk (readH zs) = false) :
    Calls Tryz.prog 97 #[.agg (sv zs)] w fun r w' => r = .returned (.tuple #[.agg (hv noH), .int .i64 2]) ∧ Below w.heap.size w w' := by
  obtain ⟨w0, hw0⟩ : ∃ q, (w.alloc (.cells (sv zs) 92)).alloc (.cells #[.int .u64 0, .int .i64 0, .int .i64 0, .int .i64 0, .int .i64 0, .int .i64 0, .int .i64 0] 41) = q := ⟨_, rfl⟩
  have hs1 : (w.alloc (.cells (sv zs) 92)).heap.size = w.heap.size + 1 := alloc_size w _
  have HK := Lib.hid (show Blk w0 w.heap.size zs from by rw [← hw0]; exact (Blk.new w zs hl).keep (balloc _ _))
  have HRB := Lib.hid (show HB w0 (w.heap.size + 1) noH from by rw [← hw0, ← hs1]; exact HB.new _ noH rfl)
  have HW := Lib.hid (show Below w.heap.size w w0 from by rw [← hw0]; exact bch (balloc w _) (balloc _ _))
  have HSZ := Lib.hid (show w0.heap.size = w.heap.size + 2 from by rw [← hw0, alloc_size, hs1])
  have HT := Lib.hid hT
  have HL := Lib.hid hl
  have HZB := Lib.hid hb
  have HEQ := Lib.hid (show decide (zs = z64) = false from by simpa using h1)
  have hri5 := HK.out.ri 0 5 64 (by omega) (by omega) (by omega)
  rw [List.drop_zero] at hri5
  have hq5 := (conv_ri hri5).trans (show Result.ok (Value.string (strOfNums (zs.take 5))) w0 = .ok (.string ⟨#[115, 116, 114, 100, 1]⟩) w0 from by rw [h2]; rfl)
  have HD23 := Lib.hid (show (zs.drop 41).length = 23 from by simp [hl])
  have HRQ := Lib.hid (show (!decide (zs.drop 41 = z23)) = false from by simpa using h3)
  clear hri5
  obtain ⟨m, hm⟩ : ∃ m, maskS (ofS (zs.take 37)) = m := ⟨_, rfl⟩
  have HSU := Lib.hid (fun w ht => hsum_any (w := w) ht zs hl hb hm)
  have HBQ := Lib.hid (show decide ((zs.drop 37).take 4 = putL m 4) = true from by rw [← hm]; simpa using h4)
  have HPB := Lib.hid (show isB ((zs.drop 37).take 4) from (hb.drop 37).take 4)
  clear hm
  have HRD := Lib.hid (fun w => hread_any zs hl hb w)
  have HRT := Lib.hid (readH_typed hb)
  have HOK : Hid (∀ w, Calls Tryz.prog 70 #[.agg (hv (readH zs))] w fun r w' => r = .returned (.bool false) ∧ Below w.heap.size w w') := Lib.hid fun w => by rw [← h5]; exact hright_any _ (readH_typed hb) w
  clear hl hb hT hs1 h1 h2 h3 h4 h5
  go_enter Tryz.func97, Tryz.ntmps97
  go_wp2_with (first
    | (refine wpl_load_sec (by rfl) (.tmp 1) rfl w.heap.size rfl zs HK.out ?_)
    | (refine wpl_build_z rfl (by rfl) ?_)
    | (refine wpl_eq_sec (.tmp 6) (.tmp 7) _ rfl zs z64 HL.out z64_length rfl rfl (by rfl) ?_; rw [HEQ.out])
    | (refine wpl_ptr_rest (.tmp 15) rfl _ _ _ rfl (by omega) (by rfl) ?_)
    | (refine wpl_load_rest (.tmp 16) rfl rfl HK.out (by rfl) ?_)
    | (refine wpl_build_rest rfl (by rfl) ?_)
    | (refine wpl_neq_rest (.tmp 17) (.tmp 18) _ rfl (zs.drop 41) z23 HD23.out z23_length rfl rfl (by rfl) ?_; rw [HRQ.out]))
  go_wp2_with fail
  refine wp_region_held_drew (S := (fun w' => Blk w' w.heap.size zs ∧ HB w' (w.heap.size + 1) noH ∧ Below w.heap.size w w')) (by kernel_rfl) ⟨HK.out, HRB.out, HW.out.drew⟩ (fun hS => ?_)
  refine rgw 0 ⟨some 23, .slice 92 (.tmp 1) (some (.const (.int .i64 37))) (some (.const (.int .i64 41))) none, 49, _, _, none⟩ hS ?_
  refine rgw 1 ⟨some 24, .load 92 (.tmp 1), 92, _, _, none⟩ hS ?_ (hy := by intro w hSw; (try dsimp only at hSw); refine exec_load_sec (.tmp 1) ?_ ?_ hSw.1 <;> rfl)
  refine rg_one 2 ⟨some 25, .call { callee := .value (.func 95), args := #[.tmp 24], argTypes := #[92] }, 49, _, _, none⟩ (by kernel_rfl) rfl (fun K hK => ?_)
  go_simp
  (go_at_call 95; (refine (HSU.out _ (HT.out.keep hS.2.2)).mono ?_); rintro r w3 ⟨p3, rfl, ho, hb⟩; have HR3 := Lib.hid (RI.own ho); clear ho)
  refine hK.out _ _ ?_ (fun hS1 => ?_)
  · (first | exact hS | exact ⟨hS.1.keep hb, hS.2.1.keep hb, bch hS.2.2 hb⟩)
  clear hK K hS; have hS := hS1; clear hS1
  (try simp only [rgp])
  refine rg_one 3 ⟨some 26, .call { callee := .value (.func 115), args := #[.tmp 23, .tmp 25], argTypes := #[49, 49] }, 4, _, _, none⟩ (by kernel_rfl) rfl (fun K hK => ?_)
  go_simp
  (go_at_call 115; (refine (bequal_any _ _ 4 4 _ _ _ (hS.1.ri 37 4 27 (by omega) (by omega) (by omega)) HR3.out HPB.out (putL_isB _ _)).mono ?_); rintro r w4 ⟨rfl, rfl⟩; rw [HBQ.out])
  refine hK.out _ _ ?_ (fun hS1 => ?_)
  · (first | exact hS | exact ⟨hS.1.keep hb, hS.2.1.keep hb, bch hS.2.2 hb⟩)
  clear hK K hS; have hS := hS1; clear hS1
  (try simp only [rgp])
  refine rgw 4 ⟨some 27, .unOp .not 4 (.tmp 26), 4, _, _, none⟩ hS ?_
  refine rgw 5 ⟨some 22, .assign (.tmp 27), 4, _, _, none⟩ hS ?_
  refine wpAnyH_done (by kernel_rfl) ?_ _
  have HK3 := Lib.hid hS.1
  have HRB3 := Lib.hid hS.2.1
  have HW3 := Lib.hid hS.2.2
  clear hS
  go_wp2_with (first
    | (refine wpl_load_sec (by rfl) (.tmp 1) rfl w.heap.size rfl zs HK3.out ?_)
    | (go_at_call 116; (with_reducible refine (HRD.out _).mono ?_); rintro r w5 ⟨rfl, hb5⟩; have HRB5 := Lib.hid (HRB3.out.keep hb5); have HW5 := Lib.hid (bch HW3.out hb5); clear hb5)
    | (refine wpl_put_hd rfl (.tmp 4) (.tmp 30) rfl w5.heap.size noH (readH zs) (HB.new w5 noH rfl) rfl rfl rfl ?_; intro w7 HA7 HG7; have HL5 := Lib.hid (HRB5.out.lt); have HRB7 := Lib.hid ((HRB5.out.keep (balloc w5 _)).over HG7.out (by have := HL5.out; omega)); have HW7 := Lib.hid (hbelow_grown (bch HW5.out (balloc w5 _)) HG7.out HW5.out.size (Nat.le_trans HW5.out.size (balloc w5 _).size)))
    | (refine wpl_load_hd (by rfl) (.tmp 4) rfl rfl HA8.out ?_)
    | (refine wpl_load_hd (by rfl) (.tmp 4) rfl rfl HA7.out ?_)
    | (go_at_call 70; (with_reducible refine (HOK.out _).mono ?_); rintro r w8 ⟨rfl, hb8⟩; have HA8 := Lib.hid (HA7.out.keep hb8); have HRB8 := Lib.hid (HRB7.out.keep hb8); have HW8 := Lib.hid (bch HW7.out hb8); clear hb8)
    | (refine wpl_put_hd rfl (.tmp 2) (.tmp 34) rfl (w.heap.size + 1) noH noH HRB8.out rfl rfl rfl ?_; intro wf HOF HGF))
  refine bodyPost_ret_by (results_row_tmp rfl _ _ (w.heap.size + 1) _ rfl HOF.out.load) rfl ⟨rfl, hbelow_grown HW8.out HGF.out (by omega) HW8.out.size⟩
set_option maxRecDepth 8000 in
set_option maxHeartbeats 4000000 in
theorem hdec_ok (zs : List Int) (hl : zs.length = 64) (hb : isB zs) (w : World) (hT : Tab w) (h1 : ¬ zs = z64) (h2 : zs.take 5 = mark) (h3 : zs.drop 41 = z23) (h4 : (zs.drop 37).take 4 = putL (maskS (ofS (zs.take 37))) 4) (h5 : hdOk (readH zs) = true) :
    Calls Tryz.prog 97 #[.agg (sv zs)] w fun r w' => r = .returned (.tuple #[.agg (hv (readH zs)), .int .i64 0]) ∧ Below w.heap.size w w' := by
  obtain ⟨w0, hw0⟩ : ∃ q, (w.alloc (.cells (sv zs) 92)).alloc (.cells #[.int .u64 0, .int .i64 0, .int .i64 0, .int .i64 0, .int .i64 0, .int .i64 0, .int .i64 0] 41) = q := ⟨_, rfl⟩
  have hs1 : (w.alloc (.cells (sv zs) 92)).heap.size = w.heap.size + 1 := alloc_size w _
  have HK := Lib.hid (show Blk w0 w.heap.size zs from by rw [← hw0]; exact (Blk.new w zs hl).keep (balloc _ _))
  have HRB := Lib.hid (show HB w0 (w.heap.size + 1) noH from by rw [← hw0, ← hs1]; exact HB.new _ noH rfl)
  have HW := Lib.hid (show Below w.heap.size w w0 from by rw [← hw0]; exact bch (balloc w _) (balloc _ _))
  have HSZ := Lib.hid (show w0.heap.size = w.heap.size + 2 from by rw [← hw0, alloc_size, hs1])
  have HT := Lib.hid hT
  have HL := Lib.hid hl
  have HZB := Lib.hid hb
  have HEQ := Lib.hid (show decide (zs = z64) = false from by simpa using h1)
  have hri5 := HK.out.ri 0 5 64 (by omega) (by omega) (by omega)
  rw [List.drop_zero] at hri5
  have hq5 := (conv_ri hri5).trans (show Result.ok (Value.string (strOfNums (zs.take 5))) w0 = .ok (.string ⟨#[115, 116, 114, 100, 1]⟩) w0 from by rw [h2]; rfl)
  have HD23 := Lib.hid (show (zs.drop 41).length = 23 from by simp [hl])
  have HRQ := Lib.hid (show (!decide (zs.drop 41 = z23)) = false from by simpa using h3)
  clear hri5
  obtain ⟨m, hm⟩ : ∃ m, maskS (ofS (zs.take 37)) = m := ⟨_, rfl⟩
  have HSU := Lib.hid (fun w ht => hsum_any (w := w) ht zs hl hb hm)
  have HBQ := Lib.hid (show decide ((zs.drop 37).take 4 = putL m 4) = true from by rw [← hm]; simpa using h4)
  have HPB := Lib.hid (show isB ((zs.drop 37).take 4) from (hb.drop 37).take 4)
  clear hm
  have HRD := Lib.hid (fun w => hread_any zs hl hb w)
  have HRT := Lib.hid (readH_typed hb)
  have HOK : Hid (∀ w, Calls Tryz.prog 70 #[.agg (hv (readH zs))] w fun r w' => r = .returned (.bool true) ∧ Below w.heap.size w w') := Lib.hid fun w => by rw [← h5]; exact hright_any _ (readH_typed hb) w
  clear hl hb hT hs1 h1 h2 h3 h4 h5
  go_enter Tryz.func97, Tryz.ntmps97
  go_wp2_with (first
    | (refine wpl_load_sec (by rfl) (.tmp 1) rfl w.heap.size rfl zs HK.out ?_)
    | (refine wpl_build_z rfl (by rfl) ?_)
    | (refine wpl_eq_sec (.tmp 6) (.tmp 7) _ rfl zs z64 HL.out z64_length rfl rfl (by rfl) ?_; rw [HEQ.out])
    | (refine wpl_ptr_rest (.tmp 15) rfl _ _ _ rfl (by omega) (by rfl) ?_)
    | (refine wpl_load_rest (.tmp 16) rfl rfl HK.out (by rfl) ?_)
    | (refine wpl_build_rest rfl (by rfl) ?_)
    | (refine wpl_neq_rest (.tmp 17) (.tmp 18) _ rfl (zs.drop 41) z23 HD23.out z23_length rfl rfl (by rfl) ?_; rw [HRQ.out]))
  go_wp2_with fail
  refine wp_region_held_drew (S := (fun w' => Blk w' w.heap.size zs ∧ HB w' (w.heap.size + 1) noH ∧ Below w.heap.size w w')) (by kernel_rfl) ⟨HK.out, HRB.out, HW.out.drew⟩ (fun hS => ?_)
  refine rgw 0 ⟨some 23, .slice 92 (.tmp 1) (some (.const (.int .i64 37))) (some (.const (.int .i64 41))) none, 49, _, _, none⟩ hS ?_
  refine rgw 1 ⟨some 24, .load 92 (.tmp 1), 92, _, _, none⟩ hS ?_ (hy := by intro w hSw; (try dsimp only at hSw); refine exec_load_sec (.tmp 1) ?_ ?_ hSw.1 <;> rfl)
  refine rg_one 2 ⟨some 25, .call { callee := .value (.func 95), args := #[.tmp 24], argTypes := #[92] }, 49, _, _, none⟩ (by kernel_rfl) rfl (fun K hK => ?_)
  go_simp
  (go_at_call 95; (refine (HSU.out _ (HT.out.keep hS.2.2)).mono ?_); rintro r w3 ⟨p3, rfl, ho, hb⟩; have HR3 := Lib.hid (RI.own ho); clear ho)
  refine hK.out _ _ ?_ (fun hS1 => ?_)
  · (first | exact hS | exact ⟨hS.1.keep hb, hS.2.1.keep hb, bch hS.2.2 hb⟩)
  clear hK K hS; have hS := hS1; clear hS1
  (try simp only [rgp])
  refine rg_one 3 ⟨some 26, .call { callee := .value (.func 115), args := #[.tmp 23, .tmp 25], argTypes := #[49, 49] }, 4, _, _, none⟩ (by kernel_rfl) rfl (fun K hK => ?_)
  go_simp
  (go_at_call 115; (refine (bequal_any _ _ 4 4 _ _ _ (hS.1.ri 37 4 27 (by omega) (by omega) (by omega)) HR3.out HPB.out (putL_isB _ _)).mono ?_); rintro r w4 ⟨rfl, rfl⟩; rw [HBQ.out])
  refine hK.out _ _ ?_ (fun hS1 => ?_)
  · (first | exact hS | exact ⟨hS.1.keep hb, hS.2.1.keep hb, bch hS.2.2 hb⟩)
  clear hK K hS; have hS := hS1; clear hS1
  (try simp only [rgp])
  refine rgw 4 ⟨some 27, .unOp .not 4 (.tmp 26), 4, _, _, none⟩ hS ?_
  refine rgw 5 ⟨some 22, .assign (.tmp 27), 4, _, _, none⟩ hS ?_
  refine wpAnyH_done (by kernel_rfl) ?_ _
  have HK3 := Lib.hid hS.1
  have HRB3 := Lib.hid hS.2.1
  have HW3 := Lib.hid hS.2.2
  clear hS
  go_wp2_with (first
    | (refine wpl_load_sec (by rfl) (.tmp 1) rfl w.heap.size rfl zs HK3.out ?_)
    | (go_at_call 116; (with_reducible refine (HRD.out _).mono ?_); rintro r w5 ⟨rfl, hb5⟩; have HRB5 := Lib.hid (HRB3.out.keep hb5); have HW5 := Lib.hid (bch HW3.out hb5); clear hb5)
    | (refine wpl_put_hd rfl (.tmp 4) (.tmp 30) rfl w5.heap.size noH (readH zs) (HB.new w5 noH rfl) rfl rfl rfl ?_; intro w7 HA7 HG7; have HL5 := Lib.hid (HRB5.out.lt); have HRB7 := Lib.hid ((HRB5.out.keep (balloc w5 _)).over HG7.out (by have := HL5.out; omega)); have HW7 := Lib.hid (hbelow_grown (bch HW5.out (balloc w5 _)) HG7.out HW5.out.size (Nat.le_trans HW5.out.size (balloc w5 _).size)))
    | (refine wpl_load_hd (by rfl) (.tmp 4) rfl rfl HA8.out ?_)
    | (refine wpl_load_hd (by rfl) (.tmp 4) rfl rfl HA7.out ?_)
    | (go_at_call 70; (with_reducible refine (HOK.out _).mono ?_); rintro r w8 ⟨rfl, hb8⟩; have HA8 := Lib.hid (HA7.out.keep hb8); have HRB8 := Lib.hid (HRB7.out.keep hb8); have HW8 := Lib.hid (bch HW7.out hb8); clear hb8)
    | (refine wpl_put_hd rfl (.tmp 2) (.tmp 35) rfl (w.heap.size + 1) noH (readH zs) HRB8.out rfl rfl rfl ?_; intro wf HOF HGF))
  refine bodyPost_ret_by (results_row_tmp rfl _ _ (w.heap.size + 1) _ rfl HOF.out.load) rfl ⟨rfl, hbelow_grown HW8.out HGF.out (by omega) HW8.out.size⟩
theorem hdec_any (zs : List Int) (hl : zs.length = 64) (hb : isB zs) (w : World) (hT : Tab w) {h : Hdr} {x : Int} (hd : headD zs = (h, x)) :
    Calls Tryz.prog 97 #[.agg (sv zs)] w fun r w' => r = .returned (.tuple #[.agg (hv h), .int .i64 x]) ∧ Below w.heap.size w w' := by
  rcases headD_cases (zs := zs) with ⟨h1, e⟩ | ⟨h1, h2, e⟩ | ⟨h1, h2, h3, h4, e⟩ | ⟨h1, h2, h3, h4, h5, e⟩ | ⟨h1, h2, h3, h4, h5, e⟩ <;> (rw [hd] at e; obtain ⟨rfl, rfl⟩ := Prod.mk.inj e)
  · exact hdec_none zs hl hb w hT h1
  · by_cases hm : zs.take 5 = mark
    · exact hdec_rest zs hl hb w hT h1 hm (fun q => (h2.elim (fun k => k hm) (fun k => k q)))
    · exact hdec_mark zs hl hb w hT h1 hm
  · exact hdec_sum zs hl hb w hT h1 h2 h3 h4
  · exact hdec_wrong zs hl hb w hT h1 h2 h3 h4 h5
  · exact hdec_ok zs hl hb w hT h1 h2 h3 h4 h5
end Go.Proofs.YtnmplnemnfonfaaGreatDoor
namespace Go.Proofs.YtnmplnemnfonfaaGreatDoor
open Go.RowKit
section
variable {o : Oper} {a : Act} {w : World} {Q : Exit → Act → World → Prop} {ops : Array Oper} {rest : List Oper}
theorem wpl_store_newH {w1 : World} (hgd : o.guard = none) (x y : Operand) (ho : o.op = .store 41 x y) (hw : w = w1.alloc (.cells (hv noH) 41)) (g : Nat) (hg : w1.heap.size = g) (h1 : Hdr) (hn : h1.l.length = 4)
    (hx : a.eval x = .pointer (some ⟨g, 0, none⟩)) (hy : a.eval y = .agg (hv h1)) (h : ∀ w', Hid (HB w' g h1) → Hid (Below w1.heap.size w1 w') → wpList Tryz.prog ops Q rest (a.put o.dst undef) w') : wpList Tryz.prog ops Q (o :: rest) a w := by
  subst hw; subst hg
  refine wpl_put_hd hgd x y ho w1.heap.size noH h1 (HB.new w1 noH rfl) hn hx hy fun w' k1 k2 => h w' k1 (Lib.hid ?_)
  exact hbelow_grown (balloc w1 _) k2.out (Nat.le_refl _) (by rw [alloc_size]; omega)
theorem wpl_load_hs {b : Nat} {h : Hdr} (hw : Region.wanted o (yielded ops a.tmps) = true) (x : Operand) (ho : o.op = .load 3 x) (hx : a.eval x = .pointer (some ⟨b, 1, none⟩)) (k : HB w b h)
    (hk : wpList Tryz.prog ops Q rest (a.put o.dst (.int .i64 h.s)) w) : wpList Tryz.prog ops Q (o :: rest) a w := by
  refine wpl_valw hw ?_ hk
  unfold execOp
  have := k.cells.2.1
  simp only [ho, hx]
  simp [go_sem, this]
theorem wpl_copy_rowAt (hgd : o.guard = none) (d s : Operand)
    (ho : o.op = .call { callee := .builtin .copy, args := #[d, s], argTypes := #[29, 29] }) (g at_ dLen dCap : Nat) (cur : List Int) (hblk : RW w g cur) (hcur : cur.length = at_ + dLen * 64)
    (hd : a.eval d = .slice (some ⟨g, at_, none⟩) dLen dCap) (v : Value) (n : Nat) (fs : List Int) (hs : a.eval s = v) (hfs : FS w v n fs) (hnd : n ≤ dLen)
    (h : ∀ w', Hid (RW w' g (splice cur at_ fs)) → Hid (w.grownBy w' (some g)) → wpList Tryz.prog ops Q rest (a.put o.dst (goInt (n : Int))) w') : wpList Tryz.prog ops Q (o :: rest) a w := by
  obtain ⟨sp, sCap, rfl, hl, _, _, _, hc⟩ := hfs
  have hcl : (il .u8 fs).length = n * 64 := by rw [il_length, hl]
  have hmin : Nat.min n dLen = n := Nat.min_eq_left hnd
  have hsz : (Tryz.prog.info? 92).map (·.size) = some 64 := by kernel_rfl
  obtain ⟨i, hi, hi64⟩ := Option.map_eq_some_iff.1 hsz
  refine wpList_plain hgd fun K hK => ?_
  by_cases h0 : n = 0
  · subst h0
    obtain rfl : fs = [] := List.eq_nil_of_length_eq_zero (by simpa using hl)
    have hrun : (Builtin.copy_ #[29, 29] o.type #[.slice (some ⟨g, at_, none⟩) dLen dCap, .slice sp 0 sCap]).run Tryz.prog w = .ok (goInt 0) w := by
      cases sp <;> simp [Builtin.copy_, run_underlying Tryz.underlying29, Builtin.lenOf, Builtin.firstCells, loadCells, loadCellsFrom, sizeOf, typeInfo, hi, storeCells]
    unfold Oper.wp
    simp [execOp, ho, resolve, invoke, builtin, hd, hs, hrun, Result.andThen]
    exact hK _ _ (h w (Lib.hid (by simpa [splice] using hblk)) (grown_refl _ _))
  · obtain ⟨b, of2, rfl, hcell⟩ := hc (by omega)
    have hsrc : ∀ j u, (il .u8 fs)[j]? = some u → w.cell? ((⟨b, of2, none⟩ : Addr).add j) = some u := by
      intro j u hj
      have hjl : j < fs.length := by have := (List.getElem?_eq_some_iff.1 hj).1; rwa [il_length] at this
      rw [il_get _ _ _ hjl] at hj
      rw [Addr.add_mid, hcell j (by omega)]; exact hj
    have hle : n * 64 ≤ dLen * 64 := Nat.mul_le_mul_right _ hnd
    have hld := run_loadCells_list (P := Tryz.prog) w ⟨b, of2, none⟩ (il .u8 fs) hsrc
    have hst := run_storeCells_at (P := Tryz.prog) g at_ 92 (il .u8 fs) 0 (il .u8 cur).toArray w hblk (by rw [hcl]; simp [il_length, hcur]; omega) (il_one _ _)
    rw [hcl] at hld
    have hrun : (Builtin.copy_ #[29, 29] o.type #[.slice (some ⟨g, at_, none⟩) dLen dCap, .slice (some ⟨b, of2, none⟩) n sCap]).run Tryz.prog w = .ok (goInt (n : Int)) (w.setRow g (splice (il .u8 cur) at_ (il .u8 fs)).toArray) := by
      simp [Builtin.copy_, run_underlying Tryz.underlying29, Builtin.lenOf, Builtin.firstCells, sizeOf, typeInfo, hi, hi64, hmin, hld, hst, splice]
    unfold Oper.wp
    simp [execOp, ho, resolve, invoke, builtin, hd, hs, hrun, Result.andThen]
    refine hK _ _ (h _ (Lib.hid ?_) (Lib.hid (grown_row _ _ _)))
    rw [il_splice]
    exact setRow_at hblk _
end
end Go.Proofs.YtnmplnemnfonfaaGreatDoor
namespace Go.Proofs.YtnmplnemnfonfaaGreatDoor
structure PC where
  at_ : Int
  kind : Int
  from_ : Int
  to : Int
deriving DecidableEq
def nextS (n : Nat) (s : Nat × Nat) : Nat × Nat := (beginN s.1 + 11 + min (n - s.2) (leftN (beginN s.1) - 11), s.2 + min (n - s.2) (leftN (beginN s.1) - 11))
def stS (a n : Nat) : Nat → Nat × Nat
  | 0 => (a, 0)
  | i + 1 => nextS n (stS a n i)
def pS (a n i : Nat) : Nat := (stS a n i).1
def fS (a n i : Nat) : Nat := (stS a n i).2
def bS (a n i : Nat) : Nat := beginN (pS a n i)
theorem pS_zero (a n : Nat) : pS a n 0 = a := rfl
theorem fS_zero (a n : Nat) : fS a n 0 = 0 := rfl
theorem fS_next (a n i : Nat) : fS a n (i + 1) = fS a n i + min (n - fS a n i) (leftN (bS a n i) - 11) := rfl
theorem pS_next (a n i : Nat) : pS a n (i + 1) = bS a n i + 11 + min (n - fS a n i) (leftN (bS a n i) - 11) := rfl
def roomI (a : Nat) : Int := if beginN a = 832 then -1 else (leftN (beginN a) : Int) - 11 + (((832 - beginN a - leftN (beginN a)) / 208 : Nat) : Int) * 197
theorem room_le (a : Nat) (h : a ≤ 832) : roomI a ≤ 832 := by
  have hb := begin_le a h
  have hl := left_le _ hb
  unfold roomI
  split
  · omega
  · omega
theorem step_room (a b r k p : Nat) (ha : a ≤ 832) (hb : b = beginN a) (hne : b ≠ 832) (hk : k = min r (leftN b - 11)) (hp : p = b + 11 + k) :
    11 ≤ leftN b ∧ b + leftN b ≤ 832 ∧ p ≤ 832 ∧ (k = r → (r : Int) ≤ roomI a) ∧ (k < r → ((r : Int) ≤ roomI a ↔ ((r - k : Nat) : Int) ≤ roomI p)) := by
  have hbl := begin_le a ha
  have h11 : 11 ≤ leftN b := by
    rcases begin_room a ha with h8 | ⟨h1, _⟩
    · exact absurd h8 (hb ▸ hne)
    · rw [hb]; exact h1
  have hl := left_le b (by omega)
  have e : leftN b = 208 - b % 208 := if_neg hne
  have er : roomI a = (leftN b : Int) - 11 + (((832 - b - leftN b) / 208 : Nat) : Int) * 197 := by
    unfold roomI
    rw [← hb, if_neg hne]
  refine ⟨h11, hl, by omega, fun h => by rw [er]; omega, fun h => ?_⟩
  have hkl : k = leftN b - 11 := by omega
  have hpb : p = b + leftN b := by omega
  have hp208 : p % 208 = 0 := by omega
  have hbp : beginN p = p := if_neg (by omega)
  rw [er]
  unfold roomI
  rw [hbp]
  by_cases h8 : p = 832
  · rw [if_pos h8]; omega
  · rw [if_neg h8]
    have e2 : leftN p = 208 := by
      have : leftN p = 208 - p % 208 := if_neg h8
      omega
    rw [e2]
    omega
def Fit (a n : Nat) : Prop := (n : Int) ≤ roomI a
structure Run (a n i : Nat) : Prop where
  p_le : pS a n i ≤ 832
  p_ge : 11 * i ≤ pS a n i
  f_le : fS a n i ≤ n
  low : ∀ j, 0 < j → j < i → fS a n j < n
  fit : (i = 0 ∨ fS a n i < n) → (Fit a n ↔ ((n - fS a n i : Nat) : Int) ≤ roomI (pS a n i))
  full : 0 < i → fS a n i = n → Fit a n
theorem Run.zero {a n : Nat} (ha : a ≤ 832) : Run a n 0 where
  p_le := ha
  p_ge := by omega
  f_le := Nat.zero_le _
  low := fun j h0 h => by omega
  fit := fun _ => by rw [fS_zero, pS_zero]; exact Iff.rfl
  full := fun h => absurd h (by omega)
theorem Run.begin_le {a n i : Nat} (h : Run a n i) : bS a n i ≤ 832 := Go.Proofs.YtnmplnemnfonfaaGreatDoor.begin_le _ h.p_le
theorem Run.stop {a n i : Nat} (h : Run a n i) (hi : i = 0 ∨ fS a n i < n) (hb : bS a n i = 832) : ¬ Fit a n := by
  rw [h.fit hi]
  have e : roomI (pS a n i) = -1 := if_pos hb
  rw [e]
  omega
structure Step (a n i : Nat) : Prop where
  l11 : 11 ≤ leftN (bS a n i)
  lle : bS a n i + leftN (bS a n i) ≤ 832
  f_ge : fS a n i ≤ fS a n (i + 1)
  f_le : fS a n (i + 1) ≤ n
  fits : 11 + (fS a n (i + 1) - fS a n i) ≤ leftN (bS a n i)
  p_eq : pS a n (i + 1) = bS a n i + 11 + (fS a n (i + 1) - fS a n i)
  f_eq : fS a n (i + 1) = min (fS a n i + leftN (bS a n i) - 11) n
theorem Run.step {a n i : Nat} (h : Run a n i) (hb : bS a n i ≠ 832) : Step a n i := by
  obtain ⟨h1, h2, _⟩ := step_room (pS a n i) (bS a n i) (n - fS a n i) _ _ h.p_le rfl hb rfl rfl
  have hf := fS_next a n i
  have hp := pS_next a n i
  have hl := h.f_le
  exact ⟨h1, h2, by omega, by omega, by omega, by omega, by omega⟩
theorem Run.next {a n i : Nat} (h : Run a n i) (hi : i = 0 ∨ fS a n i < n) (hb : bS a n i ≠ 832) : Run a n (i + 1) := by
  obtain ⟨h1, h2, h3, h4, h5⟩ := step_room (pS a n i) (bS a n i) (n - fS a n i) _ _ h.p_le rfl hb rfl rfl
  have hf := fS_next a n i
  have hp := pS_next a n i
  rw [← hp] at h3 h5
  have hl := h.f_le
  have hbp : pS a n i ≤ bS a n i := by unfold bS beginN; split <;> omega
  have hpg := h.p_ge
  refine ⟨h3, by omega, by omega, fun j h0 hj => ?_, fun hlt => ?_, fun _ hfull => ?_⟩
  · by_cases hji : j = i
    · subst hji
      rcases hi with rfl | hi
      · omega
      · exact hi
    · exact h.low j h0 (by omega)
  · have hlt : fS a n (i + 1) < n := by omega
    rw [h.fit hi, h5 (by omega), show n - fS a n i - min (n - fS a n i) (leftN (bS a n i) - 11) = n - fS a n (i + 1) from by omega]
  · rw [h.fit hi]
    exact h4 (by omega)
theorem Run.go {a n i : Nat} (h : Run a n i) (hi : i = 0 ∨ fS a n i < n) (hf : Fit a n) : bS a n i ≠ 832 := fun hb => h.stop hi hb hf
def Cuts (a n m : Nat) : Prop := 0 < m ∧ fS a n m = n ∧ (∀ j, 0 < j → j < m → fS a n j < n) ∧ ∀ j, j ≤ m → Run a n j
theorem cuts_one {a n m k : Nat} (h : Cuts a n m) (g : Cuts a n k) : m = k := by
  obtain ⟨h1, h2, h3, _⟩ := h
  obtain ⟨g1, g2, g3, _⟩ := g
  rcases Nat.lt_trichotomy m k with h | h | h
  · have := g3 m h1 h; omega
  · exact h
  · have := h3 k g1 h; omega
open Classical in
noncomputable def cnt (a n : Nat) : Nat := if h : ∃ m, Cuts a n m then h.choose else 0
theorem cnt_eq {a n m : Nat} (h : Cuts a n m) : cnt a n = m := by
  have hx : ∃ m, Cuts a n m := ⟨m, h⟩
  unfold cnt
  rw [dif_pos hx]
  exact cuts_one hx.choose_spec h
theorem cuts_from {a n : Nat} (hf : Fit a n) : ∀ (q i : Nat), 833 ≤ q + 11 * i → (i = 0 ∨ fS a n i < n) → (∀ j, j ≤ i → Run a n j) → ∃ m, Cuts a n m
  | 0, i, hq, _, h => by have := (h i (Nat.le_refl _)).p_ge; have := (h i (Nat.le_refl _)).p_le; omega
  | q + 1, i, hq, hi, h => by
    have hr := h i (Nat.le_refl _)
    have hn := hr.next hi (hr.go hi hf)
    have h2 : ∀ j, j ≤ i + 1 → Run a n j := fun j hj => by
      by_cases hji : j = i + 1
      · subst hji; exact hn
      · exact h j (by omega)
    by_cases hlt : fS a n (i + 1) < n
    · exact cuts_from hf q (i + 1) (by omega) (.inr hlt) h2
    · exact ⟨i + 1, by omega, by have := hn.f_le; omega, hn.low, h2⟩
theorem cuts_cnt {a n : Nat} (ha : a ≤ 832) (hf : Fit a n) : Cuts a n (cnt a n) := by
  have h0 : ∀ j, j ≤ 0 → Run a n j := by
    intro j hj
    have e : j = 0 := by omega
    rw [e]
    exact Run.zero ha
  obtain ⟨m, hm⟩ := cuts_from hf 833 0 (by omega) (.inl rfl) h0
  rw [cnt_eq hm]; exact hm
theorem Run.end_ {a n i : Nat} (ha : a ≤ 832) (h : Run a n i) (h0 : 0 < i) (hn : fS a n i = n) : Fit a n ∧ cnt a n = i := by
  have hf := h.full h0 hn
  refine ⟨hf, ?_⟩
  obtain ⟨c1, c2, c3, c4⟩ := cuts_cnt ha hf
  rcases Nat.lt_trichotomy (cnt a n) i with hlt | he | hlt
  · have := h.low _ c1 hlt; omega
  · exact he
  · have := c3 i h0 hlt; omega
def kindN : Bool → Bool → Int
  | true, true => 1
  | true, false => 2
  | false, true => 4
  | false, false => 3
def pcS (a n i : Nat) : PC := ⟨bS a n i, kindN (decide (i = 0)) (decide (fS a n (i + 1) = n)), fS a n i, fS a n (i + 1)⟩
def firstP (a n i : Nat) : List PC := (List.range i).map (pcS a n)
theorem firstP_len (a n i : Nat) : (firstP a n i).length = i := by simp [firstP]
theorem firstP_get (a n i j : Nat) (h : j < i) : (firstP a n i)[j]? = some (pcS a n j) := by simp [firstP, h]
def pc3 (a n i : Nat) : PC := ⟨bS a n i, 3, fS a n i, fS a n (i + 1)⟩
def firstR (a n i : Nat) : List PC := (List.range i).map (pc3 a n)
theorem firstR_len (a n i : Nat) : (firstR a n i).length = i := by simp [firstR]
theorem firstR_next (a n i : Nat) : firstR a n i ++ [pc3 a n i] = firstR a n (i + 1) := by simp [firstR, List.range_succ]
theorem firstR_get (a n i j : Nat) (h : j < i) : (firstR a n i)[j]? = some (pc3 a n j) := by simp [firstR, h]
theorem last_iff {a n m : Nat} (h : Cuts a n m) {j : Nat} (hj : j < m) : fS a n (j + 1) = n ↔ j + 1 = m := by
  obtain ⟨h1, h2, h3, _⟩ := h
  constructor
  · intro e
    by_cases hlt : j + 1 < m
    · have := h3 (j + 1) (by omega) hlt; omega
    · omega
  · intro e; rw [e]; exact h2
theorem kinds_one {a n : Nat} (h : Cuts a n 1) : firstP a n 1 = [{ pc3 a n 0 with kind := 1 }] := by
  have := (last_iff h (j := 0) (by omega)).2 rfl
  simp [firstP, pcS, pc3, this, kindN]
theorem kinds_more {a n m : Nat} (h : Cuts a n m) (h1 : 1 < m) : firstP a n m = ((firstR a n m).set 0 { pc3 a n 0 with kind := 2 }).set (m - 1) { pc3 a n (m - 1) with kind := 4 } := by
  refine List.ext_getElem? fun j => ?_
  by_cases hj : j < m
  · rw [firstP_get _ _ _ _ hj]
    have hl := last_iff h hj
    by_cases h2 : j = m - 1
    · subst h2
      rw [List.getElem?_set_self (by rw [List.length_set, firstR_len]; exact hj)]
      have h3 : fS a n (m - 1 + 1) = n := hl.2 (by omega)
      have h0 : ¬ (m - 1 = 0) := by omega
      simp only [pcS, pc3, decide_eq_true h3, decide_eq_false h0, kindN]
    · rw [List.getElem?_set_ne (Ne.symm h2)]
      have h3 : ¬ fS a n (j + 1) = n := fun e => h2 (by have := hl.1 e; omega)
      by_cases h0 : j = 0
      · subst h0
        rw [List.getElem?_set_self (by rw [firstR_len]; exact hj)]
        simp only [pcS, pc3, decide_eq_false h3, decide_true, kindN]
      · rw [List.getElem?_set_ne (Ne.symm h0), firstR_get _ _ _ _ hj]
        simp only [pcS, pc3, decide_eq_false h3, decide_eq_false h0, kindN]
  · rw [List.getElem?_eq_none (by rw [firstP_len]; omega), List.getElem?_eq_none (by rw [List.length_set, List.length_set, firstR_len]; omega)]
def fitI (a n : Int) : Bool := decide (0 ≤ n ∧ n ≤ roomI (nr a))
noncomputable def pcsI (a n : Int) : List PC := if fitI a n = true then firstP (nr a) n.toNat (cnt (nr a) n.toNat) else []
noncomputable def endI (a n : Int) : Nat := if fitI a n = true then pS (nr a) n.toNat (cnt (nr a) n.toNat) else 0
theorem fit_nat (a : Int) (n : Nat) : fitI a n = true ↔ Fit (nr a) n := by unfold fitI Fit; simp
theorem fitI_neg (a n : Int) (h : n < 0) : fitI a n = false := by unfold fitI; rw [decide_eq_false]; omega
theorem told_no {a n : Int} (h : fitI a n = false) : pcsI a n = [] ∧ endI a n = 0 := by unfold pcsI endI; rw [h]; exact ⟨rfl, rfl⟩
theorem told_yes {a : Int} {n m : Nat} (h : Cuts (nr a) n m) (hf : Fit (nr a) n) : fitI a n = true ∧ pcsI a n = firstP (nr a) n m ∧ endI a n = pS (nr a) n m := by
  have h1 := (fit_nat a n).2 hf
  unfold pcsI endI
  rw [h1, if_pos rfl, if_pos rfl, Int.toNat_natCast, cnt_eq h]
  exact ⟨rfl, rfl, rfl⟩
theorem told_of {a n : Int} (h : fitI a n = true) : ∃ k m : Nat, n = (k : Int) ∧ k ≤ 832 ∧ m ≤ 75 ∧ Cuts (nr a) k m ∧ Fit (nr a) k := by
  have h0 : 0 ≤ n ∧ n ≤ roomI (nr a) := of_decide_eq_true h
  have hr := room_le _ (nr_le a)
  obtain ⟨k, rfl⟩ : ∃ k : Nat, n = (k : Int) := ⟨n.toNat, by omega⟩
  have hf : Fit (nr a) k := h0.2
  have hc := cuts_cnt (nr_le a) hf
  have hl := (hc.2.2.2 _ (Nat.le_refl _)).p_le
  have hg := (hc.2.2.2 _ (Nat.le_refl _)).p_ge
  exact ⟨k, _, rfl, by omega, by omega, hc, hf⟩
end Go.Proofs.YtnmplnemnfonfaaGreatDoor
