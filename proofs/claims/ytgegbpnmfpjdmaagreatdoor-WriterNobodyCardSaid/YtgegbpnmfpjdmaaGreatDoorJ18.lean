/-
  TEXTS JOINED: HeadBlk, HeadPut, HeadOps, HeadArm, SegArm, HeadFd, PutGet. Each one's own words stand at its head.
-/
import Derived.Test.YtgegbpnmfpjdmaaGreatDoorJ12
import Derived.Test.YtgegbpnmfpjdmaaGreatDoorJ5
import Derived.Test.YtgegbpnmfpjdmaaGreatDoorJ3
import Derived.Test.YtgegbpnmfpjdmaaGreatDoorJ0
import Derived.Test.YtgegbpnmfpjdmaaGreatDoorJ14
import Derived.Great.BuildSlice
import Derived.Test.YtgegbpnmfpjdmaaGreatDoorJ16
namespace Go.Proofs.YtgegbpnmfpjdmaaGreatDoor
open Go.RowKit
def hv (h : Hdr) : Array Value := (Value.int .u64 h.e :: Value.int .i64 h.s :: Value.int .i64 h.f :: il .i64 h.l).toArray
def lv (l : List Int) : Array Value := (il .i64 l).toArray
theorem hv_size {h : Hdr} (hn : h.l.length = 4) : (hv h).size = 7 := by simp [hv, il_length, hn]
theorem hv_one (h : Hdr) : (hv h).all (·.oneCell') = true := all_oneCell_toArray (fun u hu => by
  simp only [List.mem_cons] at hu
  rcases hu with rfl | rfl | rfl | hu
  · rfl
  · rfl
  · rfl
  · exact il_one _ _ u hu)
theorem hd_info (c : Array Value) (h : c.size = 7) : (Tryz.prog.info? 30).map (·.size) = some c.size := by rw [h]; kernel_rfl
theorem hv_info {h : Hdr} (hn : h.l.length = 4) : (Tryz.prog.info? 30).map (·.size) = some (hv h).size := hd_info _ (hv_size hn)
theorem hv_get {h : Hdr} (i : Nat) (hi : i < h.l.length) : (hv h)[3 + i]? = some (.int .i64 (h.l.getD i 0)) := by
  have := il_get .i64 h.l i hi
  rw [Nat.add_comm]
  simpa [hv] using this
def HB (w : World) (b : Nat) (h : Hdr) : Prop := w.heap[b]? = some (.cells (hv h) 30 (0, 0)) ∧ h.l.length = 4
section
variable {w w' : World} {b b' : Nat} {h h' : Hdr}
theorem HB.lt (k : HB w b h) : b < w.heap.size := (Array.getElem?_eq_some_iff.1 k.1).1
theorem HB.keep (k : HB w b h) (hb : Below w.heap.size w w') : HB w' b h := ⟨(hb.block b k.lt).trans k.1, k.2⟩
theorem HB.keepB {g : Nat} (k : HB w b h) (hb : Below g w w') (hlt : b < g) : HB w' b h := ⟨(hb.block b hlt).trans k.1, k.2⟩
theorem HB.load (k : HB w b h) : (loadVar 30 ⟨b, 0, none⟩).run Tryz.prog w = .ok (.agg (hv h)) w :=
  run_loadVar_row w b _ 30 (hv h) (0, 0) _ k.1 Tryz.underlying30 rfl (hv_info k.2)
theorem HB.new (w : World) (h : Hdr) (hn : h.l.length = 4) : HB (w.alloc (.cells (hv h) 30)) w.heap.size h := ⟨heap_alloc_last w _, hn⟩
theorem HB.row (k : HB w b h) (hn : h'.l.length = 4) : HB (w.setRow b (hv h')) b h' := ⟨setRow_heap w b _ _ _ _ k.1, hn⟩
theorem HB.apart (k : HB w b h) (hne : b ≠ b') (x : Array Value) : HB (w.setRow b' x) b h := ⟨(setRow_other w b' b x hne).trans k.1, k.2⟩
theorem HB.set_apart (k : HB w b h) (hne : b ≠ b') (j : Nat) (x : Value) : HB (w.setCell ⟨b', j, none⟩ x) b h := ⟨(heap_setCell_other w ⟨b', j, none⟩ b x hne).trans k.1, k.2⟩
theorem HB.frozen (k : HB w b h) (j : Nat) : w.frozen? ⟨b, j, none⟩ = false := Joins.unfrozen_of_block k.1 j
theorem HB.cells (k : HB w b h) : w.cell? ⟨b, 0, none⟩ = some (.int .u64 h.e) ∧ w.cell? ⟨b, 1, none⟩ = some (.int .i64 h.s) ∧ w.cell? ⟨b, 2, none⟩ = some (.int .i64 h.f) :=
  ⟨cell_of_row w b 0 _ _ _ k.1, cell_of_row w b 1 _ _ _ k.1, cell_of_row w b 2 _ _ _ k.1⟩
theorem HB.head (k : HB w b h) (i : Nat) (hi : i < 4) : w.cell? ⟨b, 3 + i, none⟩ = some (.int .i64 (h.l.getD i 0)) := by
  rw [cell_of_row w b (3 + i) _ _ _ k.1, hv_get i (by rw [k.2]; exact hi)]
theorem hv_set (h : Hdr) (i : Nat) (x : Int) : (hv h).setIfInBounds (3 + i) (.int .i64 x) = hv ⟨h.e, h.s, h.f, h.l.set i x⟩ := by
  unfold hv
  rw [← il_set, Nat.add_comm]
  simp
theorem HB.stored (k : HB w b h) (i : Nat) (x : Int) : HB (w.setCell ⟨b, 3 + i, none⟩ (.int .i64 x)) b ⟨h.e, h.s, h.f, h.l.set i x⟩ :=
  ⟨by rw [← hv_set]; exact Joins.block_setCell k.1 _, by simpa using k.2⟩
theorem HB.load4 (k : HB w b h) : (loadVar 28 ⟨b, 3, none⟩).run Tryz.prog w = .ok (.agg (lv h.l)) w := by
  have hl : (loadCells ⟨b, 3, none⟩ (il .i64 h.l).length).run Tryz.prog w = .ok (il .i64 h.l).toArray w :=
    run_loadCells_list (P := Tryz.prog) w ⟨b, 3, none⟩ (il .i64 h.l) (fun j v hv => by
      have hadd : (⟨b, 3, none⟩ : Addr).add j = ⟨b, 3 + j, none⟩ := by unfold Addr.add; split <;> simp_all
      have hj : j < h.l.length := by have := (List.getElem?_eq_some_iff.1 hv).1; rwa [il_length] at this
      rw [il_get _ _ _ hj] at hv
      rw [hadd, k.head j (by rw [← k.2]; exact hj)]
      exact hv)
  have hi : (Tryz.prog.info? 28).map (·.size) = some 4 := by kernel_rfl
  cases hq : Tryz.prog.info? 28 with
  | none => simp [hq] at hi
  | some i =>
    have hs : i.size = 4 := by simpa [hq] using hi
    have hagg : (isAgg 28).run Tryz.prog w = .ok true w := by
      unfold isAgg
      rw [Sem.run_bind, run_underlying Tryz.underlying28 w]
      rfl
    rw [il_length, k.2] at hl
    simp [loadVar, Sem.run_bind, hagg, sizeOf, typeInfo, hq, hs, hl, lv]
section
variable {o : Oper} {a : Act} {ops : Array Oper} {rest : List Oper} {Q : Exit → Act → World → Prop}
theorem exec_load_hd (x : Operand) (ho : o.op = .load 30 x) (hx : a.eval x = .pointer (some ⟨b, 0, none⟩)) (k : HB w b h) :
    (execOp a.eval o).run Tryz.prog w = .ok (.value (.agg (hv h))) w := by
  unfold execOp
  simp only [ho, hx, Instr.loadAt, Instr.sureAddr, Sem.run_bind, Sem.run_pure, Result.andThen_ok, k.load]
theorem exec_load_l4 (x : Operand) (ho : o.op = .load 28 x) (hx : a.eval x = .pointer (some ⟨b, 3, none⟩)) (k : HB w b h) :
    (execOp a.eval o).run Tryz.prog w = .ok (.value (.agg (lv h.l))) w := by
  unfold execOp
  simp only [ho, hx, Instr.loadAt, Instr.sureAddr, Sem.run_bind, Sem.run_pure, Result.andThen_ok, k.load4]
theorem wpl_load_hd (hw : Region.wanted o (yielded ops a.tmps) = true) (x : Operand) (ho : o.op = .load 30 x) (hx : a.eval x = .pointer (some ⟨b, 0, none⟩)) (k : HB w b h)
    (hk : wpList Tryz.prog ops Q rest (a.put o.dst (.agg (hv h))) w) : wpList Tryz.prog ops Q (o :: rest) a w := by
  unfold wpList
  rw [if_pos hw]
  exact Or.inl (wp_load_row 30 x ho b hx _ (hv h) (0, 0) _ k.1 Tryz.underlying30 rfl (hv_info k.2) hk)
theorem wpl_valh (hw : o.guard = none) {v : Value} (he : (execOp a.eval o).run Tryz.prog w = .ok (.value v) w) (hk : wpList Tryz.prog ops Q rest (a.put o.dst v) w) : wpList Tryz.prog ops Q (o :: rest) a w := by
  refine wpList_plain hw fun K hK => ?_
  unfold Oper.wp
  rw [he]
  simp only [Oper.upon]
  exact hK _ _ hk
theorem wpl_load_l4 (hg : o.guard = none) (x : Operand) (ho : o.op = .load 28 x) (hx : a.eval x = .pointer (some ⟨b, 3, none⟩)) (k : HB w b h)
    (hk : wpList Tryz.prog ops Q rest (a.put o.dst (.agg (lv h.l))) w) : wpList Tryz.prog ops Q (o :: rest) a w :=
  wpl_valh hg (exec_load_l4 x ho hx k) hk
theorem index_l4 (l : List Int) (hn : l.length = 4) (i : Nat) (hi : i < 4) (w : World) : (Instr.index 28 (.agg (lv l)) (.int .i64 i)).run Tryz.prog w = .ok (.int .i64 (l.getD i 0)) w := by
  have hg : (lv l)[i]? = some (.int .i64 (l.getD i 0)) := by have := il_get .i64 l i (by omega); simpa [lv] using this
  have hp := run_part_plain (P := Tryz.prog) (w := w) (e := 3) (by kernel_rfl) hg
  have hk : (0 : Int) ≤ i ∧ (i : Int) < (4 : Nat) := by omega
  have hs : (sizeOf 3).run Tryz.prog w = .ok 1 w := by
    have : (Tryz.prog.info? 3).map (·.size) = some 1 := by kernel_rfl
    cases hq : Tryz.prog.info? 3 with
    | none => simp [hq] at this
    | some i => simp [hq] at this; simp [sizeOf, typeInfo, hq, this]
  simp [Instr.index, run_underlying Tryz.underlying28, asIntOf, hk, Sem.run_bind, hs, hp]
  omega
end
end
end Go.Proofs.YtgegbpnmfpjdmaaGreatDoor
namespace Go.Proofs.YtgegbpnmfpjdmaaGreatDoor
open Go.RowKit
theorem hgrown_row (w : World) (g : Nat) (cs : Array Value) : w.grownBy (w.setRow g cs) (some g) :=
  ⟨rfl, rfl, rfl, by simp, fun i _ hne => setRow_other w g i cs (fun e => hne (by rw [e]))⟩
theorem hgrown_trans {a b c : World} {row : Option Nat} (h : a.grownBy b row) (k : b.grownBy c row) : a.grownBy c row :=
  ⟨k.os.trans h.os, k.tape.trans h.tape, k.output.trans h.output, Nat.le_trans h.size k.size, fun i hi hne => (k.block i (Nat.lt_of_lt_of_le hi h.size) hne).trans (h.block i hi hne)⟩
theorem hgrown_refl (w : World) (row : Option Nat) : w.grownBy w row := ⟨rfl, rfl, rfl, Nat.le_refl _, fun _ _ _ => rfl⟩
theorem splice_nul {α : Type} (L : List α) (off : Nat) : splice L off [] = L := by simp [splice]
theorem splice_more {α : Type} (L : List α) (off : Nat) (a b : List α) (h : off + a.length ≤ L.length) : splice (splice L off a) (off + a.length) b = splice L off (a ++ b) := by
  unfold splice
  have e1 : (L.take off ++ (a ++ L.drop (off + a.length))).take (off + a.length) = L.take off ++ a := by
    rw [← List.append_assoc, List.take_left' (by simp; omega)]
  have e2 : (L.take off ++ (a ++ L.drop (off + a.length))).drop (off + a.length + b.length) = L.drop (off + (a ++ b).length) := by
    rw [← List.append_assoc, ← List.drop_drop, List.drop_left' (by simp; omega), List.drop_drop]
    congr 1; simp; omega
  rw [e1, e2, List.append_assoc, List.append_assoc]
theorem wpl_copy_blk {ops : Array Oper} {rest : List Oper} {o : Oper} {a : Act} {w : World} {Q : Exit → Act → World → Prop} (hgd : o.guard = none) (d s : Operand)
    (ho : o.op = .call { callee := .builtin .copy, args := #[d, s], argTypes := #[43, 43] }) (g off dLen dCap : Nat) (cur : List Int) (hblk : Blk w g cur)
    (hd : a.eval d = .slice (some ⟨g, off, none⟩) dLen dCap) (v : Value) (n : Nat) (zs : List Int) (hs : a.eval s = v) (hri : RI .u8 w v n zs) (h0 : 0 < n) (hnd : n ≤ dLen) (hfit : off + dLen ≤ 64)
    (h : ∀ w', Hid (Blk w' g (splice cur off zs)) → Hid (w.grownBy w' (some g)) → wpList Tryz.prog ops Q rest (a.put o.dst (goInt (n : Int))) w') : wpList Tryz.prog ops Q (o :: rest) a w := by
  obtain ⟨sp, sCap, rfl, hl, _, _, _, hc⟩ := hri
  have hcl : (il .u8 zs).length = n := by rw [il_length, hl]
  have hmin : Nat.min n dLen = n := Nat.min_eq_left hnd
  obtain ⟨b, of2, rfl, hcell⟩ := hc (by omega)
  refine wpList_copy_own hgd d s 43 43 ho 5 Tryz.underlying43 u8_size1 g off dLen dCap ⟨b, of2, none⟩ n sCap hd hs (il .u8 cur).toArray 60 hblk.1 (il .u8 zs) (by rw [hcl, hmin]) ?_ (by rw [hcl]; simp [il_length, hblk.2]; omega) (il_one _ _) ?_
  · intro j u hj
    have hjl : j < zs.length := by have := (List.getElem?_eq_some_iff.1 hj).1; rwa [il_length] at this
    rw [il_get _ _ _ hjl] at hj
    rw [Addr.add_mid, hcell j (by omega)]
    exact hj
  · rw [hcl]
    refine h _ (Lib.hid ⟨?_, ?_⟩) (Lib.hid (hgrown_row _ _ _))
    · unfold sv
      rw [← il_splice]
      have := setRow_heap w g (sv cur) ((il .u8 cur).toArray.toList.take off ++ (il .u8 zs ++ (il .u8 cur).toArray.toList.drop (off + n))).toArray _ _ hblk.1
      simpa [splice, hcl] using this
    · rw [length_splice _ _ _ (by rw [hblk.2]; omega)]; exact hblk.2
theorem getD_memH {α : Type} {l : List α} {k : Nat} {d : α} (h : k < l.length) : l.getD k d ∈ l := by
  simp [List.getD, h]
def ups (ls : List (List Int)) (i : Nat) : List Int := (ls.take i).flatten
theorem ups_zero (ls : List (List Int)) : ups ls 0 = [] := rfl
theorem ups_succ (ls : List (List Int)) (i : Nat) (hi : i < ls.length) : ups ls (i + 1) = ups ls i ++ ls.getD i [] := by
  unfold ups
  rw [List.take_succ_eq_append_getElem hi, List.flatten_append]
  congr 1
  simp [List.getD, hi]
theorem ups_all (ls : List (List Int)) : ups ls ls.length = ls.flatten := by unfold ups; rw [List.take_length]
theorem ups_le (ls : List (List Int)) (i : Nat) : (ups ls i).length ≤ ls.flatten.length := by
  unfold ups
  have := congrArg List.length (congrArg List.flatten (List.take_append_drop i ls))
  rw [List.flatten_append, List.length_append] at this
  omega
set_option maxRecDepth 8000 in
set_option maxHeartbeats 1000000 in
theorem hput_any (g at_ n : Nat) (l : List Int) (ls : List (List Int)) (v : Value) (w : World) (hblk : Blk w g l) (hls : ∀ w', w.grownBy w' (some g) → RL .u8 w' v n ls) (hne : ∀ x ∈ ls, 0 < x.length) (hfit : at_ + ls.flatten.length ≤ 64) :
    Calls Tryz.prog 127 #[.pointer (some ⟨g, 0, none⟩), .int .i64 at_, v] w fun e w' => e = .returned (.tuple #[]) ∧ Blk w' g (splice l at_ ls.flatten) ∧ w.grownBy w' (some g) := by
  obtain ⟨a, cap, rfl, hcap, hcap2, _⟩ := (hls w (hgrown_refl _ _)).form
  have hn := (hls w (hgrown_refl _ _)).length
  have HN := Lib.hid hn
  have HE := Lib.hid hne
  have HL := Lib.hid hls
  have HBK := Lib.hid hblk
  have HFIT := Lib.hid hfit
  have hn9 : (n : Int) ≤ 9223372036854775807 := by omega
  have hat : at_ ≤ 64 := by omega
  clear hblk hls hne hfit hn
  go_enter Tryz.func127, Tryz.ntmps127
  go_wp2
  go_loopw [1, 10] (fun x iv wr => ∃ i p : Nat, iv = .int .i64 i ∧ x = .int .i64 p ∧ i ≤ n ∧ Hid (at_ + (ups ls i).length = p) ∧ Hid (Blk wr g (splice l at_ (ups ls i))) ∧ Hid (w.grownBy wr (some g))) (fun _ iv _ => n - (intOf iv).toNat)
  case atStart => exact ⟨0, at_, rfl, rfl, by omega, Lib.hid (by rw [ups_zero]; rfl), Lib.hid (by rw [ups_zero, splice_nul]; exact HBK.out), Lib.hid (hgrown_refl _ _)⟩
  case round =>
    obtain ⟨i, p, rfl, rfl, hi, HP, HB1, HG⟩ := hrel
    by_cases hlt : i < n
    · obtain ⟨b, off, rfl, hel⟩ := (HL.out wr HG.out).at_ (by omega)
      obtain ⟨x, c, hcell, hr⟩ := hel i hlt
      obtain ⟨m, hm⟩ : ∃ m, (ls.getD i []).length = m := ⟨_, rfl⟩
      rw [hm] at hcell hr
      have HR1 := Lib.hid hr
      have HU := Lib.hid (ups_succ ls i (by rw [HN.out]; exact hlt))
      have HM := Lib.hid hm
      have HM0 := Lib.hid (show 0 < m from by rw [← hm]; exact HE.out _ (getD_memH (by rw [HN.out]; exact hlt)))
      have HLE := Lib.hid (ups_le ls (i + 1))
      have hp64 : p + m ≤ 64 := by
        have h1 := HLE.out
        rw [HU.out, List.length_append] at h1
        have := HP.out; have := HFIT.out; omega
      have hp : p < 64 := by have := HM0.out; omega
      have hlt2 : (i : Int) < (n : Int) := by omega
      have hpi : (p : Int) ≤ 64 := by omega
      have hpm : (p : Int) + (m : Int) ≤ 64 := by omega
      clear hr hm hel
      go_wp2_with (first
        | (refine wpl_copy_blk rfl (.tmp 18) (.tmp 19) rfl g p (64 - p) (64 - p) _ HB1.out rfl _ m (ls.getD i []) rfl HR1.out HM0.out (by omega) (by omega) ?_; intro w2 HB2 HG2))
      go_roundw
      case rel =>
        refine ⟨i + 1, p + m, by go_num, by go_num, by omega, Lib.hid ?_, ?_, Lib.hid (hgrown_trans HG.out HG2.out)⟩
        · rw [HU.out, List.length_append, HM.out]; have := HP.out; omega
        · rw [HU.out]
          have h1 := HB2.out
          rw [← HP.out, splice_more _ _ _ _ (by have := HP.out; have := HFIT.out; rw [HBK.out.2]; omega)] at h1
          exact Lib.hid h1
      case measure => simp [intOf]; omega
    · obtain rfl : i = n := by omega
      have hfin := HB1.out
      rw [← HN.out, ups_all] at hfin
      have HF := Lib.hid hfin
      clear hfin
      go_wp2
      go_end0
      exact ⟨rfl, HF.out, HG.out⟩
end Go.Proofs.YtgegbpnmfpjdmaaGreatDoor
namespace Go.Proofs.YtgegbpnmfpjdmaaGreatDoor
open Go.RowKit
section
variable {o : Oper} {a : Act} {w : World} {K : Act → World → Prop} {Q : Exit → Act → World → Prop} {ops : Array Oper} {rest : List Oper}
theorem wp_new_hd (ho : o.op = .alloc 30) (h : ∀ g w', Hid (HB w' g noH) → Hid (w.heap.size ≤ g) → Hid (Below w.heap.size w w') → K (a.put o.dst (.pointer (some ⟨g, 0, none⟩))) w') : Oper.wp Tryz.prog o a w K Q := by
  have h1 := h w.heap.size (w.alloc (.cells (hv noH) 30)) (HB.new w noH rfl) (Nat.le_refl _) (balloc w _)
  unfold Oper.wp execOp
  simp [ho, go_sem]
  exact h1
theorem wp_put_hd (x y : Operand) (ho : o.op = .store 30 x y) (g : Nat) (h0 h1 : Hdr) (hk : HB w g h0) (hn : h1.l.length = 4) (hx : a.eval x = .pointer (some ⟨g, 0, none⟩)) (hy : a.eval y = .agg (hv h1))
    (h : ∀ w', Hid (HB w' g h1) → Hid (w.grownBy w' (some g)) → K (a.put o.dst undef) w') : Oper.wp Tryz.prog o a w K Q :=
  wp_store_row 30 x y ho g (hv h1) hx hy _ (hv h0) hk.1 (hv_info hn) (by rw [hv_size hk.2, hv_size hn]) (hv_one _) (h _ (Lib.hid (hk.row hn)) (Lib.hid (hgrown_row _ _ _)))
theorem wpl_put_hd (hg : o.guard = none) (x y : Operand) (ho : o.op = .store 30 x y) (g : Nat) (h0 h1 : Hdr) (hk : HB w g h0) (hn : h1.l.length = 4) (hx : a.eval x = .pointer (some ⟨g, 0, none⟩)) (hy : a.eval y = .agg (hv h1))
    (h : ∀ w', Hid (HB w' g h1) → Hid (w.grownBy w' (some g)) → wpList Tryz.prog ops Q rest (a.put o.dst undef) w') : wpList Tryz.prog ops Q (o :: rest) a w :=
  wpList_plain hg fun _ hK => wp_put_hd x y ho g h0 h1 hk hn hx hy fun w' h2 h3 => hK _ _ (h w' h2 h3)
theorem wpl_put_sec (hg : o.guard = none) (x y : Operand) (ho : o.op = .store 60 x y) (g : Nat) (l0 l1 : List Int) (hk : Blk w g l0) (hn : l1.length = 64) (hx : a.eval x = .pointer (some ⟨g, 0, none⟩)) (hy : a.eval y = .agg (sv l1))
    (h : ∀ w', Hid (Blk w' g l1) → Hid (w.grownBy w' (some g)) → wpList Tryz.prog ops Q rest (a.put o.dst undef) w') : wpList Tryz.prog ops Q (o :: rest) a w :=
  wpList_store_row hg 60 x y ho g (sv l1) hx hy _ (sv l0) hk.1 (sv_info _ hn) (by rw [sv_size, sv_size, hk.2, hn]) (sv_one _) (h _ (Lib.hid (hk.row hn)) (Lib.hid (hgrown_row _ _ _)))
end
theorem HB.over {w w' : World} {b g : Nat} {h : Hdr} (k : HB w b h) (hg : w.grownBy w' (some g)) (hne : b ≠ g) : HB w' b h := ⟨(hg.block b k.lt (fun e => hne (Option.some.inj e))).trans k.1, k.2⟩
theorem Blk.over {w w' : World} {b g : Nat} {l : List Int} (k : Blk w b l) (hg : w.grownBy w' (some g)) (hne : b ≠ g) : Blk w' b l :=
  ⟨(hg.block b (Array.getElem?_eq_some_iff.1 k.1).1 (fun e => hne (Option.some.inj e))).trans k.1, k.2⟩
theorem hbelow_grown {w0 w w' : World} {B g : Nat} (h : Below B w0 w) (hg : w.grownBy w' (some g)) (hB : B ≤ g) (h0 : B ≤ w.heap.size) : Below B w0 w' :=
  h.grown hg h0 (fun q hq => by obtain rfl := Option.some.inj hq; exact hB)
end Go.Proofs.YtgegbpnmfpjdmaaGreatDoor
namespace Go.Proofs.YtgegbpnmfpjdmaaGreatDoor
open Go.RowKit
section
variable {o : Oper} {a : Act} {w : World} {Q : Exit → Act → World → Prop} {ops : Array Oper} {rest : List Oper}
theorem wpl_valw (hw : Region.wanted o (yielded ops a.tmps) = true) {v : Value} (he : (execOp a.eval o).run Tryz.prog w = .ok (.value v) w) (hk : wpList Tryz.prog ops Q rest (a.put o.dst v) w) : wpList Tryz.prog ops Q (o :: rest) a w := by
  unfold wpList
  rw [if_pos hw]
  refine Or.inl ?_
  unfold Oper.wp
  rw [he]
  simp only [Oper.upon]
  exact hk
theorem exec_build_sec (ho : o.op = .build 60 #[]) : (execOp a.eval o).run Tryz.prog w = .ok (.value (.agg (sv z64))) w := by
  unfold execOp
  simp only [ho]
  have h : (Instr.build 60 #[]).run Tryz.prog w = .ok (.agg (sv z64)) w := by kernel_rfl
  simp [h, Result.andThen]
theorem exec_eq_sec (zs ys : List Int) (hz : zs.length = 64) (hy : ys.length = 64) (x y : Operand) (u : TypeId) (ho : o.op = .binOp .eql 60 x y u) (hx : a.eval x = .agg (sv zs)) (hye : a.eval y = .agg (sv ys)) :
    (execOp a.eval o).run Tryz.prog w = .ok (.value (.bool (decide (zs = ys)))) w := by
  unfold execOp
  have hg : Tryz.prog.eqGuardType Tryz.prog.depth 60 = false := by kernel_rfl
  have he : (binOp .eql 60 (.agg (sv zs)) (.agg (sv ys))).run Tryz.prog w = .ok (.bool (decide (zs = ys))) w := by
    rw [run_eql_struct, run_eq_sec zs ys hz hy]; rfl
  simp only [ho, hx, hye, Sem.run_bind, run_eqGuard_agg w .eql 60 x y _ _ hg, Result.andThen_ok, he, Sem.run_pure]
end
def z23 : List Int := List.replicate 23 0
theorem z23_length : z23.length = 23 := by simp [z23]
theorem rest_info (zs : List Int) (h : zs.length = 23) : (Tryz.prog.info? 151).map (·.size) = some (sv zs).size := by
  rw [sv_size, h]; kernel_rfl
theorem run_items23 {w : World} (a b : List Int) (ha : a.length = 23) (hb : b.length = 23) : ∀ is : List Nat, (∀ i ∈ is, i < 23) →
    (Op.eqItems 9999 5 1 (sv a) (sv b) is).run Tryz.prog w = .ok (is.all fun i => a.getD i 0 == b.getD i 0) w
  | [], _ => by simp [Op.eqItems]
  | i :: is, h => by
    have hi : i < 23 := h i (by simp)
    have p1 := run_part_plain (P := Tryz.prog) (w := w) (e := 5) (by kernel_rfl) (xs := sv a) (off := i * 1) (v := .int .u8 (a.getD i 0)) (by rw [Nat.mul_one]; exact sv_get a i (by omega))
    have p2 := run_part_plain (P := Tryz.prog) (w := w) (e := 5) (by kernel_rfl) (xs := sv b) (off := i * 1) (v := .int .u8 (b.getD i 0)) (by rw [Nat.mul_one]; exact sv_get b i (by omega))
    have p3 := run_equalIn_int (P := Tryz.prog) w 9998 5 .u8 .u8 (a.getD i 0) (b.getD i 0) Tryz.underlying5
    have p4 := run_items23 (w := w) a b ha hb is (fun j hj => h j (List.mem_cons_of_mem _ hj))
    simp only [Op.eqItems, Sem.run_bind, p1, p2, Result.andThen_ok, List.all_cons]
    rw [p3]
    simp only [Result.andThen_ok]
    cases hc : (a.getD i 0 == b.getD i 0)
    · simp
    · simpa using p4
theorem run_eq_rest (a b : List Int) (ha : a.length = 23) (hb : b.length = 23) (w : World) : (Op.equalIn 10000 151 (.agg (sv a)) (.agg (sv b))).run Tryz.prog w = .ok (decide (a = b)) w := by
  obtain ⟨i, hi⟩ : ∃ i, Tryz.prog.info? 5 = some i := info_of_underlying Tryz.underlying5
  have hc : Tryz.prog.cellsOf 5 = 1 := by kernel_rfl
  have h1 := run_equalIn_array w (P := Tryz.prog) 9999 (sv a) (sv b) Tryz.underlying151 hi
  rw [hc, run_items23 a b ha hb _ (fun i hi => List.mem_range.1 hi)] at h1
  rw [h1]
  refine congrArg (fun x => Result.ok x w) ?_
  rw [Bool.eq_iff_iff, List.all_eq_true, decide_eq_true_eq]
  constructor
  · intro h
    refine List.ext_getElem (by omega) fun j h1 h2 => ?_
    have := h j (List.mem_range.2 (by omega))
    simpa [List.getD, h1, h2] using this
  · rintro rfl j _
    simp
theorem run_load_rest {w : World} {b : Nat} {zs : List Int} (h : Blk w b zs) : (loadVar 151 ⟨b, 41, none⟩).run Tryz.prog w = .ok (.agg (sv (zs.drop 41))) w := by
  have hl23 : (zs.drop 41).length = 23 := by simp [h.2]
  have hl : (loadCells ⟨b, 41, none⟩ (il .u8 (zs.drop 41)).length).run Tryz.prog w = .ok (il .u8 (zs.drop 41)).toArray w :=
    run_loadCells_list (P := Tryz.prog) w ⟨b, 41, none⟩ (il .u8 (zs.drop 41)) (fun j v hv => by
      have hadd : (⟨b, 41, none⟩ : Addr).add j = ⟨b, 41 + j, none⟩ := by unfold Addr.add; split <;> simp_all
      have hj : j < (zs.drop 41).length := by have := (List.getElem?_eq_some_iff.1 hv).1; rwa [il_length] at this
      rw [il_get _ _ _ hj] at hv
      rw [hadd, h.cell (41 + j) (by omega), ← hv]
      simp [List.getD])
  have hi := rest_info (zs.drop 41) hl23
  cases hq : Tryz.prog.info? 151 with
  | none => simp [hq] at hi
  | some i =>
    have hs : i.size = 23 := by simpa [hq, sv_size, hl23] using hi
    have hagg : (isAgg 151).run Tryz.prog w = .ok true w := by
      unfold isAgg
      rw [Sem.run_bind, run_underlying Tryz.underlying151 w]
      rfl
    rw [il_length, hl23] at hl
    simp [loadVar, Sem.run_bind, hagg, sizeOf, typeInfo, hq, hs, hl, sv]
section
variable {o : Oper} {a : Act} {w : World}
theorem exec_load_rest {b : Nat} {zs : List Int} (x : Operand) (ho : o.op = .load 151 x) (hx : a.eval x = .pointer (some ⟨b, 41, none⟩)) (h : Blk w b zs) :
    (execOp a.eval o).run Tryz.prog w = .ok (.value (.agg (sv (zs.drop 41)))) w := by
  unfold execOp
  simp only [ho, hx, Instr.loadAt, Instr.sureAddr, Sem.run_bind, Sem.run_pure, Result.andThen_ok, run_load_rest h]
theorem exec_ptr_rest (x : Operand) (ho : o.op = .sliceToArrayPointer 151 x) (p : Option Addr) (n c : Nat) (hx : a.eval x = .slice p n c) (h : 23 ≤ n) :
    (execOp a.eval o).run Tryz.prog w = .ok (.value (.pointer p)) w := by
  have hn : ¬ n < 23 := by omega
  unfold execOp
  simp only [ho, hx, Instr.arrayAt, Sem.run_bind, run_underlying Tryz.underlying151, Result.andThen_ok]
  simp [hn, Result.andThen]
theorem exec_build_rest (ho : o.op = .build 151 #[]) : (execOp a.eval o).run Tryz.prog w = .ok (.value (.agg (sv z23))) w := by
  unfold execOp
  simp only [ho]
  have h : (Instr.build 151 #[]).run Tryz.prog w = .ok (.agg (sv z23)) w := by kernel_rfl
  simp [h, Result.andThen]
theorem exec_neq_rest (zs ys : List Int) (hz : zs.length = 23) (hy : ys.length = 23) (x y : Operand) (u : TypeId) (ho : o.op = .binOp .neq 151 x y u) (hx : a.eval x = .agg (sv zs)) (hye : a.eval y = .agg (sv ys)) :
    (execOp a.eval o).run Tryz.prog w = .ok (.value (.bool (!decide (zs = ys)))) w := by
  unfold execOp
  have hg : Tryz.prog.eqGuardType Tryz.prog.depth 151 = false := by kernel_rfl
  have he : (binOp .neq 151 (.agg (sv zs)) (.agg (sv ys))).run Tryz.prog w = .ok (.bool (!decide (zs = ys))) w := by
    rw [run_neq_struct, run_eq_rest zs ys hz hy]; rfl
  simp only [ho, hx, hye, Sem.run_bind, run_eqGuard_agg w .neq 151 x y _ _ hg, Result.andThen_ok, he, Sem.run_pure]
end
section
variable {o : Oper} {a : Act} {w : World} {Q : Exit → Act → World → Prop} {ops : Array Oper} {rest : List Oper}
theorem wpl_build_z (ho : o.op = .build 60 #[]) (hw : Region.wanted o (yielded ops a.tmps) = true) (hk : wpList Tryz.prog ops Q rest (a.put o.dst (.agg (sv z64))) w) : wpList Tryz.prog ops Q (o :: rest) a w :=
  wpl_valw hw (exec_build_sec ho) hk
theorem wpl_eq_sec (x y : Operand) (u : TypeId) (ho : o.op = .binOp .eql 60 x y u) (zs ys : List Int) (hz : zs.length = 64) (hy : ys.length = 64) (hx : a.eval x = .agg (sv zs)) (hye : a.eval y = .agg (sv ys)) (hw : Region.wanted o (yielded ops a.tmps) = true)
    (hk : wpList Tryz.prog ops Q rest (a.put o.dst (.bool (decide (zs = ys)))) w) : wpList Tryz.prog ops Q (o :: rest) a w := wpl_valw hw (exec_eq_sec zs ys hz hy x y u ho hx hye) hk
theorem wpl_load_rest (x : Operand) (ho : o.op = .load 151 x) {b : Nat} {zs : List Int} (hx : a.eval x = .pointer (some ⟨b, 41, none⟩)) (h : Blk w b zs) (hw : Region.wanted o (yielded ops a.tmps) = true)
    (hk : wpList Tryz.prog ops Q rest (a.put o.dst (.agg (sv (zs.drop 41)))) w) : wpList Tryz.prog ops Q (o :: rest) a w := wpl_valw hw (exec_load_rest x ho hx h) hk
theorem wpl_ptr_rest (x : Operand) (ho : o.op = .sliceToArrayPointer 151 x) (p : Option Addr) (n c : Nat) (hx : a.eval x = .slice p n c) (h : 23 ≤ n) (hw : Region.wanted o (yielded ops a.tmps) = true)
    (hk : wpList Tryz.prog ops Q rest (a.put o.dst (.pointer p)) w) : wpList Tryz.prog ops Q (o :: rest) a w := wpl_valw hw (exec_ptr_rest x ho p n c hx h) hk
theorem wpl_build_rest (ho : o.op = .build 151 #[]) (hw : Region.wanted o (yielded ops a.tmps) = true) (hk : wpList Tryz.prog ops Q rest (a.put o.dst (.agg (sv z23))) w) : wpList Tryz.prog ops Q (o :: rest) a w :=
  wpl_valw hw (exec_build_rest ho) hk
theorem wpl_neq_rest (x y : Operand) (u : TypeId) (ho : o.op = .binOp .neq 151 x y u) (zs ys : List Int) (hz : zs.length = 23) (hy : ys.length = 23) (hx : a.eval x = .agg (sv zs)) (hye : a.eval y = .agg (sv ys)) (hw : Region.wanted o (yielded ops a.tmps) = true)
    (hk : wpList Tryz.prog ops Q rest (a.put o.dst (.bool (!decide (zs = ys)))) w) : wpList Tryz.prog ops Q (o :: rest) a w := wpl_valw hw (exec_neq_rest zs ys hz hy x y u ho hx hye) hk
end
end Go.Proofs.YtgegbpnmfpjdmaaGreatDoor
namespace Go.Proofs.YtgegbpnmfpjdmaaGreatDoor
open Go.RowKit
section
variable {o : Oper} {a : Act} {w : World} {Q : Exit → Act → World → Prop} {ops : Array Oper} {rest : List Oper}
theorem wpl_store_newH {w1 : World} (hgd : o.guard = none) (x y : Operand) (ho : o.op = .store 30 x y) (hw : w = w1.alloc (.cells (hv noH) 30)) (g : Nat) (hg : w1.heap.size = g) (h1 : Hdr) (hn : h1.l.length = 4)
    (hx : a.eval x = .pointer (some ⟨g, 0, none⟩)) (hy : a.eval y = .agg (hv h1)) (h : ∀ w', Hid (HB w' g h1) → Hid (Below w1.heap.size w1 w') → wpList Tryz.prog ops Q rest (a.put o.dst undef) w') : wpList Tryz.prog ops Q (o :: rest) a w := by
  subst hw; subst hg
  refine wpl_put_hd hgd x y ho w1.heap.size noH h1 (HB.new w1 noH rfl) hn hx hy fun w' k1 k2 => h w' k1 (Lib.hid ?_)
  exact hbelow_grown (balloc w1 _) k2.out (Nat.le_refl _) (by rw [alloc_size]; omega)
theorem wpl_load_hs {b : Nat} {h : Hdr} (hw : Region.wanted o (yielded ops a.tmps) = true) (x : Operand) (ho : o.op = .load 3 x) (hx : a.eval x = .pointer (some ⟨b, 1, none⟩)) (k : HB w b h)
    (hk : wpList Tryz.prog ops Q rest (a.put o.dst (.int .i64 h.s)) w) : wpList Tryz.prog ops Q (o :: rest) a w := by
  refine wpl_valw hw ?_ hk
  unfold execOp
  have := k.cells.2.1
  simp only [ho, hx]
  simp [go_sem, this]
theorem wpl_copy_rowAt (hgd : o.guard = none) (d s : Operand)
    (ho : o.op = .call { callee := .builtin .copy, args := #[d, s], argTypes := #[48, 48] }) (g at_ dLen dCap : Nat) (cur : List Int) (hblk : RW w g cur) (hcur : cur.length = at_ + dLen * 64)
    (hd : a.eval d = .slice (some ⟨g, at_, none⟩) dLen dCap) (v : Value) (n : Nat) (fs : List Int) (hs : a.eval s = v) (hfs : FS w v n fs) (hnd : n ≤ dLen)
    (h : ∀ w', Hid (RW w' g (splice cur at_ fs)) → Hid (w.grownBy w' (some g)) → wpList Tryz.prog ops Q rest (a.put o.dst (goInt (n : Int))) w') : wpList Tryz.prog ops Q (o :: rest) a w := by
  obtain ⟨sp, sCap, rfl, hl, _, _, _, hc⟩ := hfs
  have hcl : (il .u8 fs).length = n * 64 := by rw [il_length, hl]
  have hmin : Nat.min n dLen = n := Nat.min_eq_left hnd
  have hsz : (Tryz.prog.info? 60).map (·.size) = some 64 := by kernel_rfl
  obtain ⟨i, hi, hi64⟩ := Option.map_eq_some_iff.1 hsz
  refine wpList_plain hgd fun K hK => ?_
  by_cases h0 : n = 0
  · subst h0
    obtain rfl : fs = [] := List.eq_nil_of_length_eq_zero (by simpa using hl)
    have hrun : (Builtin.copy_ #[48, 48] o.type #[.slice (some ⟨g, at_, none⟩) dLen dCap, .slice sp 0 sCap]).run Tryz.prog w = .ok (goInt 0) w := by
      cases sp <;> simp [Builtin.copy_, run_underlying Tryz.underlying48, Builtin.lenOf, Builtin.firstCells, loadCells, loadCellsFrom, sizeOf, typeInfo, hi, storeCells]
    unfold Oper.wp
    simp [execOp, ho, resolve, invoke, builtin, hd, hs, hrun, Result.andThen]
    exact hK _ _ (h w (Lib.hid (by simpa [splice] using hblk)) (grown_refl _ _))
  · obtain ⟨b, of2, rfl, hcell⟩ := hc (by omega)
    have hsrc : ∀ j u, (il .u8 fs)[j]? = some u → w.cell? ((⟨b, of2, none⟩ : Addr).add j) = some u := by
      intro j u hj
      have hjl : j < fs.length := by have := (List.getElem?_eq_some_iff.1 hj).1; rwa [il_length] at this
      rw [il_get _ _ _ hjl] at hj
      rw [Addr.add_mid, hcell j (by omega)]; exact hj
    have hle : n * 64 ≤ dLen * 64 := Nat.mul_le_mul_right _ hnd
    have hld := run_loadCells_list (P := Tryz.prog) w ⟨b, of2, none⟩ (il .u8 fs) hsrc
    have hst := run_storeCells_at (P := Tryz.prog) g at_ 60 (il .u8 fs) 0 (il .u8 cur).toArray w hblk (by rw [hcl]; simp [il_length, hcur]; omega) (il_one _ _)
    rw [hcl] at hld
    have hrun : (Builtin.copy_ #[48, 48] o.type #[.slice (some ⟨g, at_, none⟩) dLen dCap, .slice (some ⟨b, of2, none⟩) n sCap]).run Tryz.prog w = .ok (goInt (n : Int)) (w.setRow g (splice (il .u8 cur) at_ (il .u8 fs)).toArray) := by
      simp [Builtin.copy_, run_underlying Tryz.underlying48, Builtin.lenOf, Builtin.firstCells, sizeOf, typeInfo, hi, hi64, hmin, hld, hst, splice]
    unfold Oper.wp
    simp [execOp, ho, resolve, invoke, builtin, hd, hs, hrun, Result.andThen]
    refine hK _ _ (h _ (Lib.hid ?_) (Lib.hid (grown_row _ _ _)))
    rw [il_splice]
    exact setRow_at hblk _
end
end Go.Proofs.YtgegbpnmfpjdmaaGreatDoor
namespace Go.Proofs.YtgegbpnmfpjdmaaGreatDoor
open Go.RowKit
def FD (w : World) (base : Nat) (v : Value) (l : List Int) : Prop := ∃ p, v = .slice (some ⟨p, 0, none⟩) l.length l.length ∧ base ≤ p ∧ RI .u8 w v l.length l
theorem FD.keep {w w' : World} {base : Nat} {v : Value} {l : List Int} (h : FD w base v l) (hb : Below w.heap.size w w') : FD w' base v l := by
  obtain ⟨p, e, h1, h2⟩ := h; exact ⟨p, e, h1, h2.keep hb⟩
theorem FD.over {w w' : World} {base g : Nat} {v : Value} {l : List Int} (h : FD w base v l) (hg : w.grownBy w' (some g)) (hlt : g < base) : FD w' base v l := by
  obtain ⟨p, rfl, h1, h2⟩ := h
  refine ⟨p, rfl, h1, h2.over _ hg fun _ q hq e => ?_⟩
  have hq' : some p = some q := hq
  have := Option.some.inj hq'
  have := Option.some.inj e
  omega
theorem FD.same {w w' : World} {base : Nat} {v : Value} {l : List Int} (h : FD w base v l) (hs : ∀ a, w'.cell? a = w.cell? a) : FD w' base v l := by
  obtain ⟨p, e, h1, a, cap, e2, k1, k2, k3, k4, hc⟩ := h
  refine ⟨p, e, h1, a, cap, e2, k1, k2, k3, k4, fun h0 => ?_⟩
  obtain ⟨b, off, ha, hcell⟩ := hc h0
  exact ⟨b, off, ha, fun j hj => (hs _).trans (hcell j hj)⟩
theorem FD.ri {w : World} {base : Nat} {v : Value} {l : List Int} (h : FD w base v l) : RI .u8 w v l.length l := by
  obtain ⟨p, _, _, ho⟩ := h; exact ho
theorem FD.of {w : World} {base base' p n : Nat} {l : List Int} (ho : w.ownsRow base' 5 1 (.slice (some ⟨p, 0, none⟩) n n) n (il .u8 l)) (hb : base ≤ base') : FD w base (.slice (some ⟨p, 0, none⟩) n n) l := by
  have hl : l.length = n := by have := ho.1; rw [il_length] at this; omega
  subst hl
  exact ⟨p, rfl, Nat.le_trans hb (ho.lt p rfl).1, RI.own ho⟩
def MK (w : World) (g : Nat) : Prop := w.heap[g]? = some (.cells (il .u8 mark).toArray 5 (0, 0))
theorem MK.keep {w w' : World} {g : Nat} (h : MK w g) (hb : Below w.heap.size w w') : MK w' g := (hb.block g (Array.getElem?_eq_some_iff.1 h).1).trans h
theorem rl_lit {w : World} {g gl base n : Nat} {vs : List Value} {ls : List (List Int)} (hb : w.heap[gl]? = some (.cells vs.toArray 43 (0, 0))) (hg : g < base) (hgl : base ≤ gl) (hv : vs.length = n) (hl : ls.length = n) (hn : n ≤ 1000)
    (hf : ∀ (j : Nat) (v : Value) (l : List Int), vs[j]? = some v → ls[j]? = some l → FD w base v l) : ∀ w', w.grownBy w' (some g) → RL .u8 w' (.slice (some ⟨gl, 0, none⟩) n n) n ls := by
  intro w' hw
  have hb' : w'.heap[gl]? = some (.cells vs.toArray 43 (0, 0)) := (hw.block gl (Array.getElem?_eq_some_iff.1 hb).1 (fun e => by have := Option.some.inj e; omega)).trans hb
  refine ⟨vs, ⟨_, n, rfl, hv, Nat.le_refl _, by omega, fun h => by simp at h, fun _ => ⟨gl, 0, rfl, fun j hj => ?_⟩⟩, hl, fun j e l he hl2 => ((hf j e l he hl2).over hw hg).ri⟩
  rw [Nat.zero_add, cell_of_row w' gl j _ _ _ hb']
  simp
theorem info_bs : (Tryz.prog.info? 43).map (fun i => (i.zero, i.size, i.bytes)) = some (some (.slice none 0 0), 1, 24) := by kernel_rfl
section
variable {o : Oper} {a : Act} {w : World} {K : Act → World → Prop} {Q : Exit → Act → World → Prop} {ops : Array Oper} {rest : List Oper}
theorem wp_lit4 (x0 x1 x2 x3 : Operand) (ho : o.op = .buildSlice 23 4 #[(0, x0), (1, x1), (2, x2), (3, x3)]) (p0 p1 p2 p3 : Option Addr) (n0 n1 n2 n3 c0 c1 c2 c3 : Nat)
    (h0 : a.eval x0 = .slice p0 n0 c0) (h1 : a.eval x1 = .slice p1 n1 c1) (h2 : a.eval x2 = .slice p2 n2 c2) (h3 : a.eval x3 = .slice p3 n3 c3)
    (h : ∀ gl w', Hid (w'.heap[gl]? = some (.cells [Value.slice p0 n0 c0, .slice p1 n1 c1, .slice p2 n2 c2, .slice p3 n3 c3].toArray 43 (0, 0))) → Hid (w.heap.size ≤ gl) → Hid (Below w.heap.size w w') → K (a.put o.dst (.slice (some ⟨gl, 0, none⟩) 4 4)) w') : Oper.wp Tryz.prog o a w K Q := by
  obtain ⟨i, hi, hz0, hz1, hz2⟩ := info_parts info_bs
  refine wp_buildSlice 23 43 4 _ ho [Value.slice p0 n0 c0, .slice p1 n1 c1, .slice p2 n2 c2, .slice p3 n3 c3].toArray i (.slice none 0 0) Tryz.underlying23 hi hz0 (by rw [hz1]; omega) (by rw [hz1]; omega) ?_ (h w.heap.size _ (heap_alloc_last w _) (Nat.le_refl _) (balloc w _))
  rw [hz1]
  simp only [List.map_toArray, List.map_cons, List.map_nil, h0, h1, h2, h3]
  exact Great.fill_flat [Value.slice p0 n0 c0, .slice p1 n1 c1, .slice p2 n2 c2, .slice p3 n3 c3] _ (fun v hv => by simp only [List.mem_cons, List.not_mem_nil, or_false] at hv; rcases hv with rfl | rfl | rfl | rfl <;> rfl) (by simp)
theorem wp_lit1 (x0 : Operand) (ho : o.op = .buildSlice 23 1 #[(0, x0)]) (p0 : Option Addr) (n0 c0 : Nat) (h0 : a.eval x0 = .slice p0 n0 c0)
    (h : ∀ gl w', Hid (w'.heap[gl]? = some (.cells [Value.slice p0 n0 c0].toArray 43 (0, 0))) → Hid (w.heap.size ≤ gl) → Hid (Below w.heap.size w w') → K (a.put o.dst (.slice (some ⟨gl, 0, none⟩) 1 1)) w') : Oper.wp Tryz.prog o a w K Q := by
  obtain ⟨i, hi, hz0, hz1, hz2⟩ := info_parts info_bs
  refine wp_buildSlice 23 43 1 _ ho [Value.slice p0 n0 c0].toArray i (.slice none 0 0) Tryz.underlying23 hi hz0 (by rw [hz1]; omega) (by rw [hz1]; omega) ?_ (h w.heap.size _ (heap_alloc_last w _) (Nat.le_refl _) (balloc w _))
  rw [hz1]
  simp only [List.map_toArray, List.map_cons, List.map_nil, h0]
  exact Great.fill_flat [Value.slice p0 n0 c0] _ (fun v hv => by simp only [List.mem_cons, List.not_mem_nil, or_false] at hv; subst hv; rfl) (by simp)
theorem wpl_lit1 (hg : o.guard = none) (x0 : Operand) (ho : o.op = .buildSlice 23 1 #[(0, x0)]) (p0 : Option Addr) (n0 c0 : Nat) (h0 : a.eval x0 = .slice p0 n0 c0)
    (h : ∀ gl w', Hid (w'.heap[gl]? = some (.cells [Value.slice p0 n0 c0].toArray 43 (0, 0))) → Hid (w.heap.size ≤ gl) → Hid (Below w.heap.size w w') → wpList Tryz.prog ops Q rest (a.put o.dst (.slice (some ⟨gl, 0, none⟩) 1 1)) w') : wpList Tryz.prog ops Q (o :: rest) a w :=
  wpList_plain hg fun _ hK => wp_lit1 x0 ho p0 n0 c0 h0 fun gl w' h1 h2 h3 => hK _ _ (h gl w' h1 h2 h3)
theorem wp_mark (ho : o.op = .buildSlice 43 5 #[(0, .const (.int .u8 115)), (1, .const (.int .u8 116)), (2, .const (.int .u8 114)), (3, .const (.int .u8 100)), (4, .const (.int .u8 1))])
    (h : ∀ g w', Hid (MK w' g) → Hid (w.heap.size ≤ g) → Hid (Below w.heap.size w w') → K (a.put o.dst (.slice (some ⟨g, 0, none⟩) 5 5)) w') : Oper.wp Tryz.prog o a w K Q := by
  obtain ⟨i, hi, hz0, hz1, hz2⟩ := info_parts Tryz.info_u8
  refine wp_buildSlice 43 5 5 _ ho (il .u8 mark).toArray i (.int .u8 0) Tryz.underlying43 hi hz0 (by rw [hz1]; omega) (by rw [hz1]; omega) ?_ (h w.heap.size _ (Lib.hid (heap_alloc_last w _)) (Nat.le_refl _) (balloc w _))
  rw [hz1]
  rw [parts_eval a #[(0, .const (.int .u8 115)), (1, .const (.int .u8 116)), (2, .const (.int .u8 114)), (3, .const (.int .u8 100)), (4, .const (.int .u8 1))] .u8 mark rfl]
  exact Great.fill_flat (il .u8 mark) _ (fun v hv => by obtain ⟨x, _, rfl⟩ := List.mem_map.1 hv; rfl) (by simp [il, mark])
theorem freeze_cell (w : World) (p : Addr) (n : Nat) (b : Addr) : (w.freeze p n).cell? b = w.cell? b := by
  unfold World.freeze
  by_cases hn : n = 0
  · rw [if_pos hn]
  · rw [if_neg hn]
    unfold World.cell?
    simp only [Array.getElem?_modify]
    by_cases hp : p.block = b.block
    · rw [if_pos hp]
      cases w.heap[b.block]? with
      | none => rfl
      | some x => cases x <;> rfl
    · rw [if_neg hp]
theorem freeze_grown (w : World) (p : Addr) (n : Nat) : w.grownBy (w.freeze p n) (some p.block) := by
  unfold World.freeze
  split
  · exact hgrown_refl _ _
  · exact ⟨rfl, rfl, rfl, by simp, fun i hi hne => by simp only [Array.getElem?_modify]; rw [if_neg (fun e => hne (by rw [e]))]⟩
theorem wp_conv_mark (x : Operand) (ho : o.op = .convert 43 43 x) (g : Nat) (hx : a.eval x = .slice (some ⟨g, 0, none⟩) 5 5) (hk : MK w g)
    (h : ∀ w', Hid (∀ b, w'.cell? b = w.cell? b) → Hid (w.grownBy w' (some g)) → K (a.put o.dst (.slice (some ⟨g, 0, none⟩) 5 5)) w') : Oper.wp Tryz.prog o a w K Q := by
  have hsh : w.shape? g = some (5, 5) := by unfold World.shape?; rw [hk]; rfl
  have hrun : (convert 43 43 (.slice (some ⟨g, 0, none⟩) 5 5)).run Tryz.prog w = .ok (.slice (some ⟨g, 0, none⟩) 5 5) (w.freeze ⟨g, 5, none⟩ 1) := by
    simp [convert, run_underlying Tryz.underlying43, run_underlying Tryz.underlying5, markStringish, hsh]
  unfold Oper.wp execOp
  simp only [ho, hx, Sem.run_bind, hrun, Result.andThen_ok, Sem.run_pure, Oper.upon]
  exact h _ (Lib.hid fun b => freeze_cell _ _ _ b) (Lib.hid (freeze_grown w ⟨g, 5, none⟩ 1))
theorem fd_mark {w : World} {g base : Nat} (hk : MK w g) (hb : base ≤ g) : FD w base (.slice (some ⟨g, 0, none⟩) 5 5) mark :=
  ⟨g, rfl, hb, _, 5, rfl, rfl, Nat.le_refl _, by omega, fun h => by simp at h, fun _ => ⟨g, 0, rfl, fun j hj => by
    rw [Nat.zero_add, cell_of_row w g j _ _ _ hk]
    simpa using il_get .u8 mark j hj⟩⟩
end
end Go.Proofs.YtgegbpnmfpjdmaaGreatDoor
namespace Go.Proofs.YtgegbpnmfpjdmaaGreatDoor
open Go.RowKit
set_option maxHeartbeats 400000 in
theorem get_some (b off len cap : Nat) (zs : List Int) (w : World) (hz : Bytes zs) (hlen : 0 < len) (hmax : len ≤ 9223372036854775807)
    (hc : ∀ j, j < len → w.cell? ⟨b, off + j, none⟩ = some (.int .u8 (zs.getD j 0))) :
    Calls Tryz.prog 120 #[.slice (some ⟨b, off, none⟩) len cap] w fun e w' => e = .returned (.int .u64 (getI zs (min len 8))) ∧ w = w' := by
  obtain ⟨m, hm, hm1, hm2, hm3⟩ : ∃ m : Nat, min len 8 = m ∧ m ≤ len ∧ m ≤ 8 ∧ (m = len ∨ m = 8) := ⟨_, rfl, by omega, by omega, by omega⟩
  rw [hm]
  have HM := Lib.hid hm; clear hm
  go_enter Tryz.func120, Tryz.ntmps120
  rcases (by have := HM.out; omega : (len : Int) ≤ 8 ∧ len ≤ m ∨ 8 < (len : Int) ∧ 8 ≤ m) with ⟨h8, hl⟩ | ⟨h8, hl⟩
  all_goals
    go_wp2
    go_loop [3, 8] (fun n i => ∃ k : Nat, k ≤ m ∧ i = .int .i64 k ∧ n = .int .u64 (getI zs k)) (fun _ i => m - (intOf i).toNat)
    case atStart => exact ⟨0, by omega, rfl, rfl⟩
    case round =>
      obtain ⟨k, hk, rfl, rfl⟩ := hrel
      have hb : 0 ≤ zs[k]?.getD 0 ∧ zs[k]?.getD 0 ≤ 255 := hz k
      by_cases hlt : k < m
      · have hcell : w.cell? ⟨b, off + k, none⟩ = some (.int .u8 (zs.getD k 0)) := hc k (by omega)
        have HG := Lib.hid (getI_or zs hz k (by omega))
        go_wp2
        go_round
        case rel => exact ⟨k + 1, by omega, by go_num, by rw [← HG.out]; rfl⟩
        case measure => simp [intOf]; omega
      · go_wp2
        go_ret
        exact ⟨ret_int (by congr 1; omega), rfl⟩
end Go.Proofs.YtgegbpnmfpjdmaaGreatDoor
