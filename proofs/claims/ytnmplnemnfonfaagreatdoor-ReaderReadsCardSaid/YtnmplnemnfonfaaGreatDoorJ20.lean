/-
  TEXTS JOINED: HeadBlk, HeadPut, HeadOps, HeadFd, HeadGet, HeadLay, HeadRight. Each one's own words stand at its head.
-/
import Derived.Test.YtnmplnemnfonfaaGreatDoorJ19
import Derived.Test.YtnmplnemnfonfaaGreatDoorJ5
import Derived.Test.YtnmplnemnfonfaaGreatDoorJ1
import Derived.Test.YtnmplnemnfonfaaGreatDoorJ3
import Derived.Great.BuildSlice
import Derived.Test.YtnmplnemnfonfaaGreatDoorJ13
import Derived.Test.YtnmplnemnfonfaaGreatDoorJ12
namespace Go.Proofs.YtnmplnemnfonfaaGreatDoor
open Go.RowKit
def hv (h : Hdr) : Array Value := (Value.int .u64 h.e :: Value.int .i64 h.s :: Value.int .i64 h.f :: il .i64 h.l).toArray
def lv (l : List Int) : Array Value := (il .i64 l).toArray
theorem hv_size {h : Hdr} (hn : h.l.length = 4) : (hv h).size = 7 := by simp [hv, il_length, hn]
theorem hv_one (h : Hdr) : (hv h).all (·.oneCell') = true := all_oneCell_toArray (fun u hu => by
  simp only [List.mem_cons] at hu
  rcases hu with rfl | rfl | rfl | hu
  · rfl
  · rfl
  · rfl
  · exact il_one _ _ u hu)
theorem hd_info (c : Array Value) (h : c.size = 7) : (Tryz.prog.info? 41).map (·.size) = some c.size := by rw [h]; kernel_rfl
theorem hv_info {h : Hdr} (hn : h.l.length = 4) : (Tryz.prog.info? 41).map (·.size) = some (hv h).size := hd_info _ (hv_size hn)
theorem hv_get {h : Hdr} (i : Nat) (hi : i < h.l.length) : (hv h)[3 + i]? = some (.int .i64 (h.l.getD i 0)) := by
  have := il_get .i64 h.l i hi
  rw [Nat.add_comm]
  simpa [hv] using this
def HB (w : World) (b : Nat) (h : Hdr) : Prop := w.heap[b]? = some (.cells (hv h) 41 (0, 0)) ∧ h.l.length = 4
section
variable {w w' : World} {b b' : Nat} {h h' : Hdr}
theorem HB.lt (k : HB w b h) : b < w.heap.size := (Array.getElem?_eq_some_iff.1 k.1).1
theorem HB.keep (k : HB w b h) (hb : Below w.heap.size w w') : HB w' b h := ⟨(hb.block b k.lt).trans k.1, k.2⟩
theorem HB.keepB {g : Nat} (k : HB w b h) (hb : Below g w w') (hlt : b < g) : HB w' b h := ⟨(hb.block b hlt).trans k.1, k.2⟩
theorem HB.load (k : HB w b h) : (loadVar 41 ⟨b, 0, none⟩).run Tryz.prog w = .ok (.agg (hv h)) w :=
  run_loadVar_row w b _ 41 (hv h) (0, 0) _ k.1 Tryz.underlying41 rfl (hv_info k.2)
theorem HB.new (w : World) (h : Hdr) (hn : h.l.length = 4) : HB (w.alloc (.cells (hv h) 41)) w.heap.size h := ⟨heap_alloc_last w _, hn⟩
theorem HB.row (k : HB w b h) (hn : h'.l.length = 4) : HB (w.setRow b (hv h')) b h' := ⟨setRow_heap w b _ _ _ _ k.1, hn⟩
theorem HB.apart (k : HB w b h) (hne : b ≠ b') (x : Array Value) : HB (w.setRow b' x) b h := ⟨(setRow_other w b' b x hne).trans k.1, k.2⟩
theorem HB.set_apart (k : HB w b h) (hne : b ≠ b') (j : Nat) (x : Value) : HB (w.setCell ⟨b', j, none⟩ x) b h := ⟨(heap_setCell_other w ⟨b', j, none⟩ b x hne).trans k.1, k.2⟩
theorem HB.frozen (k : HB w b h) (j : Nat) : w.frozen? ⟨b, j, none⟩ = false := Joins.unfrozen_of_block k.1 j
theorem HB.cells (k : HB w b h) : w.cell? ⟨b, 0, none⟩ = some (.int .u64 h.e) ∧ w.cell? ⟨b, 1, none⟩ = some (.int .i64 h.s) ∧ w.cell? ⟨b, 2, none⟩ = some (.int .i64 h.f) :=
  ⟨cell_of_row w b 0 _ _ _ k.1, cell_of_row w b 1 _ _ _ k.1, cell_of_row w b 2 _ _ _ k.1⟩
theorem HB.head (k : HB w b h) (i : Nat) (hi : i < 4) : w.cell? ⟨b, 3 + i, none⟩ = some (.int .i64 (h.l.getD i 0)) := by
  rw [cell_of_row w b (3 + i) _ _ _ k.1, hv_get i (by rw [k.2]; exact hi)]
theorem hv_set (h : Hdr) (i : Nat) (x : Int) : (hv h).setIfInBounds (3 + i) (.int .i64 x) = hv ⟨h.e, h.s, h.f, h.l.set i x⟩ := by
  unfold hv
  rw [← il_set, Nat.add_comm]
  simp
theorem HB.stored (k : HB w b h) (i : Nat) (x : Int) : HB (w.setCell ⟨b, 3 + i, none⟩ (.int .i64 x)) b ⟨h.e, h.s, h.f, h.l.set i x⟩ :=
  ⟨by rw [← hv_set]; exact Joins.block_setCell k.1 _, by simpa using k.2⟩
theorem HB.load4 (k : HB w b h) : (loadVar 39 ⟨b, 3, none⟩).run Tryz.prog w = .ok (.agg (lv h.l)) w := by
  have hl : (loadCells ⟨b, 3, none⟩ (il .i64 h.l).length).run Tryz.prog w = .ok (il .i64 h.l).toArray w :=
    run_loadCells_list (P := Tryz.prog) w ⟨b, 3, none⟩ (il .i64 h.l) (fun j v hv => by
      have hadd : (⟨b, 3, none⟩ : Addr).add j = ⟨b, 3 + j, none⟩ := by unfold Addr.add; split <;> simp_all
      have hj : j < h.l.length := by have := (List.getElem?_eq_some_iff.1 hv).1; rwa [il_length] at this
      rw [il_get _ _ _ hj] at hv
      rw [hadd, k.head j (by rw [← k.2]; exact hj)]
      exact hv)
  have hi : (Tryz.prog.info? 39).map (·.size) = some 4 := by kernel_rfl
  cases hq : Tryz.prog.info? 39 with
  | none => simp [hq] at hi
  | some i =>
    have hs : i.size = 4 := by simpa [hq] using hi
    have hagg : (isAgg 39).run Tryz.prog w = .ok true w := by
      unfold isAgg
      rw [Sem.run_bind, run_underlying Tryz.underlying39 w]
      rfl
    rw [il_length, k.2] at hl
    simp [loadVar, Sem.run_bind, hagg, sizeOf, typeInfo, hq, hs, hl, lv]
section
variable {o : Oper} {a : Act} {ops : Array Oper} {rest : List Oper} {Q : Exit → Act → World → Prop}
theorem exec_load_hd (x : Operand) (ho : o.op = .load 41 x) (hx : a.eval x = .pointer (some ⟨b, 0, none⟩)) (k : HB w b h) :
    (execOp a.eval o).run Tryz.prog w = .ok (.value (.agg (hv h))) w := by
  unfold execOp
  simp only [ho, hx, Instr.loadAt, Instr.sureAddr, Sem.run_bind, Sem.run_pure, Result.andThen_ok, k.load]
theorem exec_load_l4 (x : Operand) (ho : o.op = .load 39 x) (hx : a.eval x = .pointer (some ⟨b, 3, none⟩)) (k : HB w b h) :
    (execOp a.eval o).run Tryz.prog w = .ok (.value (.agg (lv h.l))) w := by
  unfold execOp
  simp only [ho, hx, Instr.loadAt, Instr.sureAddr, Sem.run_bind, Sem.run_pure, Result.andThen_ok, k.load4]
theorem wpl_load_hd (hw : Region.wanted o (yielded ops a.tmps) = true) (x : Operand) (ho : o.op = .load 41 x) (hx : a.eval x = .pointer (some ⟨b, 0, none⟩)) (k : HB w b h)
    (hk : wpList Tryz.prog ops Q rest (a.put o.dst (.agg (hv h))) w) : wpList Tryz.prog ops Q (o :: rest) a w := by
  unfold wpList
  rw [if_pos hw]
  exact Or.inl (wp_load_row 41 x ho b hx _ (hv h) (0, 0) _ k.1 Tryz.underlying41 rfl (hv_info k.2) hk)
theorem wpl_valh (hw : o.guard = none) {v : Value} (he : (execOp a.eval o).run Tryz.prog w = .ok (.value v) w) (hk : wpList Tryz.prog ops Q rest (a.put o.dst v) w) : wpList Tryz.prog ops Q (o :: rest) a w := by
  refine wpList_plain hw fun K hK => ?_
  unfold Oper.wp
  rw [he]
  simp only [Oper.upon]
  exact hK _ _ hk
theorem wpl_load_l4 (hg : o.guard = none) (x : Operand) (ho : o.op = .load 39 x) (hx : a.eval x = .pointer (some ⟨b, 3, none⟩)) (k : HB w b h)
    (hk : wpList Tryz.prog ops Q rest (a.put o.dst (.agg (lv h.l))) w) : wpList Tryz.prog ops Q (o :: rest) a w :=
  wpl_valh hg (exec_load_l4 x ho hx k) hk
theorem index_l4 (l : List Int) (hn : l.length = 4) (i : Nat) (hi : i < 4) (w : World) : (Instr.index 39 (.agg (lv l)) (.int .i64 i)).run Tryz.prog w = .ok (.int .i64 (l.getD i 0)) w := by
  have hg : (lv l)[i]? = some (.int .i64 (l.getD i 0)) := by have := il_get .i64 l i (by omega); simpa [lv] using this
  have hp := run_part_plain (P := Tryz.prog) (w := w) (e := 3) (by kernel_rfl) hg
  have hk : (0 : Int) ≤ i ∧ (i : Int) < (4 : Nat) := by omega
  have hs : (sizeOf 3).run Tryz.prog w = .ok 1 w := by
    have : (Tryz.prog.info? 3).map (·.size) = some 1 := by kernel_rfl
    cases hq : Tryz.prog.info? 3 with
    | none => simp [hq] at this
    | some i => simp [hq] at this; simp [sizeOf, typeInfo, hq, this]
  simp [Instr.index, run_underlying Tryz.underlying39, asIntOf, hk, Sem.run_bind, hs, hp]
  omega
end
end
end Go.Proofs.YtnmplnemnfonfaaGreatDoor
namespace Go.Proofs.YtnmplnemnfonfaaGreatDoor
open Go.RowKit
theorem hgrown_row (w : World) (g : Nat) (cs : Array Value) : w.grownBy (w.setRow g cs) (some g) :=
  ⟨rfl, rfl, rfl, by simp, fun i _ hne => setRow_other w g i cs (fun e => hne (by rw [e]))⟩
theorem hgrown_trans {a b c : World} {row : Option Nat} (h : a.grownBy b row) (k : b.grownBy c row) : a.grownBy c row :=
  ⟨k.os.trans h.os, k.tape.trans h.tape, k.output.trans h.output, Nat.le_trans h.size k.size, fun i hi hne => (k.block i (Nat.lt_of_lt_of_le hi h.size) hne).trans (h.block i hi hne)⟩
theorem hgrown_refl (w : World) (row : Option Nat) : w.grownBy w row := ⟨rfl, rfl, rfl, Nat.le_refl _, fun _ _ _ => rfl⟩
theorem splice_nul {α : Type} (L : List α) (off : Nat) : splice L off [] = L := by simp [splice]
theorem splice_more {α : Type} (L : List α) (off : Nat) (a b : List α) (h : off + a.length ≤ L.length) : splice (splice L off a) (off + a.length) b = splice L off (a ++ b) := by
  unfold splice
  have e1 : (L.take off ++ (a ++ L.drop (off + a.length))).take (off + a.length) = L.take off ++ a := by
    rw [← List.append_assoc, List.take_left' (by simp; omega)]
  have e2 : (L.take off ++ (a ++ L.drop (off + a.length))).drop (off + a.length + b.length) = L.drop (off + (a ++ b).length) := by
    rw [← List.append_assoc, ← List.drop_drop, List.drop_left' (by simp; omega), List.drop_drop]
    congr 1; simp; omega
  rw [e1, e2, List.append_assoc, List.append_assoc]
theorem wpl_copy_blk {ops : Array Oper} {rest : List Oper} {o : Oper} {a : Act} {w : World} {Q : Exit → Act → World → Prop} (hgd : o.guard = none) (d s : Operand)
    (ho : o.op = .call { callee := .builtin .copy, args := #[d, s], argTypes := #[49, 49] }) (g off dLen dCap : Nat) (cur : List Int) (hblk : Blk w g cur)
    (hd : a.eval d = .slice (some ⟨g, off, none⟩) dLen dCap) (v : Value) (n : Nat) (zs : List Int) (hs : a.eval s = v) (hri : RI .u8 w v n zs) (h0 : 0 < n) (hnd : n ≤ dLen) (hfit : off + dLen ≤ 64)
    (h : ∀ w', Hid (Blk w' g (splice cur off zs)) → Hid (w.grownBy w' (some g)) → wpList Tryz.prog ops Q rest (a.put o.dst (goInt (n : Int))) w') : wpList Tryz.prog ops Q (o :: rest) a w := by
  obtain ⟨sp, sCap, rfl, hl, _, _, _, hc⟩ := hri
  have hcl : (il .u8 zs).length = n := by rw [il_length, hl]
  have hmin : Nat.min n dLen = n := Nat.min_eq_left hnd
  obtain ⟨b, of2, rfl, hcell⟩ := hc (by omega)
  refine wpList_copy_own hgd d s 49 49 ho 5 Tryz.underlying49 u8_size1 g off dLen dCap ⟨b, of2, none⟩ n sCap hd hs (il .u8 cur).toArray 92 hblk.1 (il .u8 zs) (by rw [hcl, hmin]) ?_ (by rw [hcl]; simp [il_length, hblk.2]; omega) (il_one _ _) ?_
  · intro j u hj
    have hjl : j < zs.length := by have := (List.getElem?_eq_some_iff.1 hj).1; rwa [il_length] at this
    rw [il_get _ _ _ hjl] at hj
    rw [Addr.add_mid, hcell j (by omega)]
    exact hj
  · rw [hcl]
    refine h _ (Lib.hid ⟨?_, ?_⟩) (Lib.hid (hgrown_row _ _ _))
    · unfold sv
      rw [← il_splice]
      have := setRow_heap w g (sv cur) ((il .u8 cur).toArray.toList.take off ++ (il .u8 zs ++ (il .u8 cur).toArray.toList.drop (off + n))).toArray _ _ hblk.1
      simpa [splice, hcl] using this
    · rw [length_splice _ _ _ (by rw [hblk.2]; omega)]; exact hblk.2
theorem getD_memH {α : Type} {l : List α} {k : Nat} {d : α} (h : k < l.length) : l.getD k d ∈ l := by
  simp [List.getD, h]
def ups (ls : List (List Int)) (i : Nat) : List Int := (ls.take i).flatten
theorem ups_zero (ls : List (List Int)) : ups ls 0 = [] := rfl
theorem ups_succ (ls : List (List Int)) (i : Nat) (hi : i < ls.length) : ups ls (i + 1) = ups ls i ++ ls.getD i [] := by
  unfold ups
  rw [List.take_succ_eq_append_getElem hi, List.flatten_append]
  congr 1
  simp [List.getD, hi]
theorem ups_all (ls : List (List Int)) : ups ls ls.length = ls.flatten := by unfold ups; rw [List.take_length]
theorem ups_le (ls : List (List Int)) (i : Nat) : (ups ls i).length ≤ ls.flatten.length := by
  unfold ups
  have := congrArg List.length (congrArg List.flatten (List.take_append_drop i ls))
  rw [List.flatten_append, List.length_append] at this
  omega
set_option maxRecDepth 8000 in
set_option maxHeartbeats 1000000 in
theorem hput_any (g at_ n : Nat) (l : List Int) (ls : List (List Int)) (v : Value) (w : World) (hblk : Blk w g l) (hls : ∀ w', w.grownBy w' (some g) → RL .u8 w' v n ls) (hne : ∀ x ∈ ls, 0 < x.length) (hfit : at_ + ls.flatten.length ≤ 64) :
    Calls Tryz.prog 92 #[.pointer (some ⟨g, 0, none⟩), .int .i64 at_, v] w fun e w' => e = .returned (.tuple #[]) ∧ Blk w' g (splice l at_ ls.flatten) ∧ w.grownBy w' (some g) := by
  obtain ⟨a, cap, rfl, hcap, hcap2, _⟩ := (hls w (hgrown_refl _ _)).form
  have hn := (hls w (hgrown_refl _ _)).length
  have HN := Lib.hid hn
  have HE := Lib.hid hne
  have HL := Lib.hid hls
  have HBK := Lib.hid hblk
  have HFIT := Lib.hid hfit
  have hn9 : (n : Int) ≤ 9223372036854775807 := by omega
  have hat : at_ ≤ 64 := by omega
  clear hblk hls hne hfit hn
  go_enter Tryz.func92, Tryz.ntmps92
  go_wp2
  go_loopw [1, 10] (fun x iv wr => ∃ i p : Nat, iv = .int .i64 i ∧ x = .int .i64 p ∧ i ≤ n ∧ Hid (at_ + (ups ls i).length = p) ∧ Hid (Blk wr g (splice l at_ (ups ls i))) ∧ Hid (w.grownBy wr (some g))) (fun _ iv _ => n - (intOf iv).toNat)
  case atStart => exact ⟨0, at_, rfl, rfl, by omega, Lib.hid (by rw [ups_zero]; rfl), Lib.hid (by rw [ups_zero, splice_nul]; exact HBK.out), Lib.hid (hgrown_refl _ _)⟩
  case round =>
    obtain ⟨i, p, rfl, rfl, hi, HP, HB1, HG⟩ := hrel
    by_cases hlt : i < n
    · obtain ⟨b, off, rfl, hel⟩ := (HL.out wr HG.out).at_ (by omega)
      obtain ⟨x, c, hcell, hr⟩ := hel i hlt
      obtain ⟨m, hm⟩ : ∃ m, (ls.getD i []).length = m := ⟨_, rfl⟩
      rw [hm] at hcell hr
      have HR1 := Lib.hid hr
      have HU := Lib.hid (ups_succ ls i (by rw [HN.out]; exact hlt))
      have HM := Lib.hid hm
      have HM0 := Lib.hid (show 0 < m from by rw [← hm]; exact HE.out _ (getD_memH (by rw [HN.out]; exact hlt)))
      have HLE := Lib.hid (ups_le ls (i + 1))
      have hp64 : p + m ≤ 64 := by
        have h1 := HLE.out
        rw [HU.out, List.length_append] at h1
        have := HP.out; have := HFIT.out; omega
      have hp : p < 64 := by have := HM0.out; omega
      have hlt2 : (i : Int) < (n : Int) := by omega
      have hpi : (p : Int) ≤ 64 := by omega
      have hpm : (p : Int) + (m : Int) ≤ 64 := by omega
      clear hr hm hel
      go_wp2_with (first
        | (refine wpl_copy_blk rfl (.tmp 18) (.tmp 19) rfl g p (64 - p) (64 - p) _ HB1.out rfl _ m (ls.getD i []) rfl HR1.out HM0.out (by omega) (by omega) ?_; intro w2 HB2 HG2))
      go_roundw
      case rel =>
        refine ⟨i + 1, p + m, by go_num, by go_num, by omega, Lib.hid ?_, ?_, Lib.hid (hgrown_trans HG.out HG2.out)⟩
        · rw [HU.out, List.length_append, HM.out]; have := HP.out; omega
        · rw [HU.out]
          have h1 := HB2.out
          rw [← HP.out, splice_more _ _ _ _ (by have := HP.out; have := HFIT.out; rw [HBK.out.2]; omega)] at h1
          exact Lib.hid h1
      case measure => simp [intOf]; omega
    · obtain rfl : i = n := by omega
      have hfin := HB1.out
      rw [← HN.out, ups_all] at hfin
      have HF := Lib.hid hfin
      clear hfin
      go_wp2
      go_end0
      exact ⟨rfl, HF.out, HG.out⟩
end Go.Proofs.YtnmplnemnfonfaaGreatDoor
namespace Go.Proofs.YtnmplnemnfonfaaGreatDoor
open Go.RowKit
section
variable {o : Oper} {a : Act} {w : World} {K : Act → World → Prop} {Q : Exit → Act → World → Prop} {ops : Array Oper} {rest : List Oper}
theorem wp_new_hd (ho : o.op = .alloc 41) (h : ∀ g w', Hid (HB w' g noH) → Hid (w.heap.size ≤ g) → Hid (Below w.heap.size w w') → K (a.put o.dst (.pointer (some ⟨g, 0, none⟩))) w') : Oper.wp Tryz.prog o a w K Q := by
  have h1 := h w.heap.size (w.alloc (.cells (hv noH) 41)) (HB.new w noH rfl) (Nat.le_refl _) (balloc w _)
  unfold Oper.wp execOp
  simp [ho, go_sem]
  exact h1
theorem wp_put_hd (x y : Operand) (ho : o.op = .store 41 x y) (g : Nat) (h0 h1 : Hdr) (hk : HB w g h0) (hn : h1.l.length = 4) (hx : a.eval x = .pointer (some ⟨g, 0, none⟩)) (hy : a.eval y = .agg (hv h1))
    (h : ∀ w', Hid (HB w' g h1) → Hid (w.grownBy w' (some g)) → K (a.put o.dst undef) w') : Oper.wp Tryz.prog o a w K Q :=
  wp_store_row 41 x y ho g (hv h1) hx hy _ (hv h0) hk.1 (hv_info hn) (by rw [hv_size hk.2, hv_size hn]) (hv_one _) (h _ (Lib.hid (hk.row hn)) (Lib.hid (hgrown_row _ _ _)))
theorem wpl_put_hd (hg : o.guard = none) (x y : Operand) (ho : o.op = .store 41 x y) (g : Nat) (h0 h1 : Hdr) (hk : HB w g h0) (hn : h1.l.length = 4) (hx : a.eval x = .pointer (some ⟨g, 0, none⟩)) (hy : a.eval y = .agg (hv h1))
    (h : ∀ w', Hid (HB w' g h1) → Hid (w.grownBy w' (some g)) → wpList Tryz.prog ops Q rest (a.put o.dst undef) w') : wpList Tryz.prog ops Q (o :: rest) a w :=
  wpList_plain hg fun _ hK => wp_put_hd x y ho g h0 h1 hk hn hx hy fun w' h2 h3 => hK _ _ (h w' h2 h3)
theorem wpl_put_sec (hg : o.guard = none) (x y : Operand) (ho : o.op = .store 92 x y) (g : Nat) (l0 l1 : List Int) (hk : Blk w g l0) (hn : l1.length = 64) (hx : a.eval x = .pointer (some ⟨g, 0, none⟩)) (hy : a.eval y = .agg (sv l1))
    (h : ∀ w', Hid (Blk w' g l1) → Hid (w.grownBy w' (some g)) → wpList Tryz.prog ops Q rest (a.put o.dst undef) w') : wpList Tryz.prog ops Q (o :: rest) a w :=
  wpList_store_row hg 92 x y ho g (sv l1) hx hy _ (sv l0) hk.1 (sv_info _ hn) (by rw [sv_size, sv_size, hk.2, hn]) (sv_one _) (h _ (Lib.hid (hk.row hn)) (Lib.hid (hgrown_row _ _ _)))
end
theorem HB.over {w w' : World} {b g : Nat} {h : Hdr} (k : HB w b h) (hg : w.grownBy w' (some g)) (hne : b ≠ g) : HB w' b h := ⟨(hg.block b k.lt (fun e => hne (Option.some.inj e))).trans k.1, k.2⟩
theorem Blk.over {w w' : World} {b g : Nat} {l : List Int} (k : Blk w b l) (hg : w.grownBy w' (some g)) (hne : b ≠ g) : Blk w' b l :=
  ⟨(hg.block b (Array.getElem?_eq_some_iff.1 k.1).1 (fun e => hne (Option.some.inj e))).trans k.1, k.2⟩
theorem hbelow_grown {w0 w w' : World} {B g : Nat} (h : Below B w0 w) (hg : w.grownBy w' (some g)) (hB : B ≤ g) (h0 : B ≤ w.heap.size) : Below B w0 w' :=
  h.grown hg h0 (fun q hq => by obtain rfl := Option.some.inj hq; exact hB)
end Go.Proofs.YtnmplnemnfonfaaGreatDoor
namespace Go.Proofs.YtnmplnemnfonfaaGreatDoor
open Go.RowKit
def FD (w : World) (base : Nat) (v : Value) (l : List Int) : Prop := ∃ p, v = .slice (some ⟨p, 0, none⟩) l.length l.length ∧ base ≤ p ∧ RI .u8 w v l.length l
theorem FD.keep {w w' : World} {base : Nat} {v : Value} {l : List Int} (h : FD w base v l) (hb : Below w.heap.size w w') : FD w' base v l := by
  obtain ⟨p, e, h1, h2⟩ := h; exact ⟨p, e, h1, h2.keep hb⟩
theorem FD.over {w w' : World} {base g : Nat} {v : Value} {l : List Int} (h : FD w base v l) (hg : w.grownBy w' (some g)) (hlt : g < base) : FD w' base v l := by
  obtain ⟨p, rfl, h1, h2⟩ := h
  refine ⟨p, rfl, h1, h2.over _ hg fun _ q hq e => ?_⟩
  have hq' : some p = some q := hq
  have := Option.some.inj hq'
  have := Option.some.inj e
  omega
theorem FD.same {w w' : World} {base : Nat} {v : Value} {l : List Int} (h : FD w base v l) (hs : ∀ a, w'.cell? a = w.cell? a) : FD w' base v l := by
  obtain ⟨p, e, h1, a, cap, e2, k1, k2, k3, k4, hc⟩ := h
  refine ⟨p, e, h1, a, cap, e2, k1, k2, k3, k4, fun h0 => ?_⟩
  obtain ⟨b, off, ha, hcell⟩ := hc h0
  exact ⟨b, off, ha, fun j hj => (hs _).trans (hcell j hj)⟩
theorem FD.ri {w : World} {base : Nat} {v : Value} {l : List Int} (h : FD w base v l) : RI .u8 w v l.length l := by
  obtain ⟨p, _, _, ho⟩ := h; exact ho
theorem FD.of {w : World} {base base' p n : Nat} {l : List Int} (ho : w.ownsRow base' 5 1 (.slice (some ⟨p, 0, none⟩) n n) n (il .u8 l)) (hb : base ≤ base') : FD w base (.slice (some ⟨p, 0, none⟩) n n) l := by
  have hl : l.length = n := by have := ho.1; rw [il_length] at this; omega
  subst hl
  exact ⟨p, rfl, Nat.le_trans hb (ho.lt p rfl).1, RI.own ho⟩
def MK (w : World) (g : Nat) : Prop := w.heap[g]? = some (.cells (il .u8 mark).toArray 5 (0, 0))
theorem MK.keep {w w' : World} {g : Nat} (h : MK w g) (hb : Below w.heap.size w w') : MK w' g := (hb.block g (Array.getElem?_eq_some_iff.1 h).1).trans h
theorem rl_lit {w : World} {g gl base n : Nat} {vs : List Value} {ls : List (List Int)} (hb : w.heap[gl]? = some (.cells vs.toArray 49 (0, 0))) (hg : g < base) (hgl : base ≤ gl) (hv : vs.length = n) (hl : ls.length = n) (hn : n ≤ 1000)
    (hf : ∀ (j : Nat) (v : Value) (l : List Int), vs[j]? = some v → ls[j]? = some l → FD w base v l) : ∀ w', w.grownBy w' (some g) → RL .u8 w' (.slice (some ⟨gl, 0, none⟩) n n) n ls := by
  intro w' hw
  have hb' : w'.heap[gl]? = some (.cells vs.toArray 49 (0, 0)) := (hw.block gl (Array.getElem?_eq_some_iff.1 hb).1 (fun e => by have := Option.some.inj e; omega)).trans hb
  refine ⟨vs, ⟨_, n, rfl, hv, Nat.le_refl _, by omega, fun h => by simp at h, fun _ => ⟨gl, 0, rfl, fun j hj => ?_⟩⟩, hl, fun j e l he hl2 => ((hf j e l he hl2).over hw hg).ri⟩
  rw [Nat.zero_add, cell_of_row w' gl j _ _ _ hb']
  simp
theorem info_bs : (Tryz.prog.info? 49).map (fun i => (i.zero, i.size, i.bytes)) = some (some (.slice none 0 0), 1, 24) := by kernel_rfl
section
variable {o : Oper} {a : Act} {w : World} {K : Act → World → Prop} {Q : Exit → Act → World → Prop} {ops : Array Oper} {rest : List Oper}
theorem wp_lit4 (x0 x1 x2 x3 : Operand) (ho : o.op = .buildSlice 23 4 #[(0, x0), (1, x1), (2, x2), (3, x3)]) (p0 p1 p2 p3 : Option Addr) (n0 n1 n2 n3 c0 c1 c2 c3 : Nat)
    (h0 : a.eval x0 = .slice p0 n0 c0) (h1 : a.eval x1 = .slice p1 n1 c1) (h2 : a.eval x2 = .slice p2 n2 c2) (h3 : a.eval x3 = .slice p3 n3 c3)
    (h : ∀ gl w', Hid (w'.heap[gl]? = some (.cells [Value.slice p0 n0 c0, .slice p1 n1 c1, .slice p2 n2 c2, .slice p3 n3 c3].toArray 49 (0, 0))) → Hid (w.heap.size ≤ gl) → Hid (Below w.heap.size w w') → K (a.put o.dst (.slice (some ⟨gl, 0, none⟩) 4 4)) w') : Oper.wp Tryz.prog o a w K Q := by
  obtain ⟨i, hi, hz0, hz1, hz2⟩ := info_parts info_bs
  refine wp_buildSlice 23 49 4 _ ho [Value.slice p0 n0 c0, .slice p1 n1 c1, .slice p2 n2 c2, .slice p3 n3 c3].toArray i (.slice none 0 0) Tryz.underlying23 hi hz0 (by rw [hz1]; omega) (by rw [hz1]; omega) ?_ (h w.heap.size _ (heap_alloc_last w _) (Nat.le_refl _) (balloc w _))
  rw [hz1]
  simp only [List.map_toArray, List.map_cons, List.map_nil, h0, h1, h2, h3]
  exact Great.fill_flat [Value.slice p0 n0 c0, .slice p1 n1 c1, .slice p2 n2 c2, .slice p3 n3 c3] _ (fun v hv => by simp only [List.mem_cons, List.not_mem_nil, or_false] at hv; rcases hv with rfl | rfl | rfl | rfl <;> rfl) (by simp)
theorem wp_lit1 (x0 : Operand) (ho : o.op = .buildSlice 23 1 #[(0, x0)]) (p0 : Option Addr) (n0 c0 : Nat) (h0 : a.eval x0 = .slice p0 n0 c0)
    (h : ∀ gl w', Hid (w'.heap[gl]? = some (.cells [Value.slice p0 n0 c0].toArray 49 (0, 0))) → Hid (w.heap.size ≤ gl) → Hid (Below w.heap.size w w') → K (a.put o.dst (.slice (some ⟨gl, 0, none⟩) 1 1)) w') : Oper.wp Tryz.prog o a w K Q := by
  obtain ⟨i, hi, hz0, hz1, hz2⟩ := info_parts info_bs
  refine wp_buildSlice 23 49 1 _ ho [Value.slice p0 n0 c0].toArray i (.slice none 0 0) Tryz.underlying23 hi hz0 (by rw [hz1]; omega) (by rw [hz1]; omega) ?_ (h w.heap.size _ (heap_alloc_last w _) (Nat.le_refl _) (balloc w _))
  rw [hz1]
  simp only [List.map_toArray, List.map_cons, List.map_nil, h0]
  exact Great.fill_flat [Value.slice p0 n0 c0] _ (fun v hv => by simp only [List.mem_cons, List.not_mem_nil, or_false] at hv; subst hv; rfl) (by simp)
theorem wpl_lit1 (hg : o.guard = none) (x0 : Operand) (ho : o.op = .buildSlice 23 1 #[(0, x0)]) (p0 : Option Addr) (n0 c0 : Nat) (h0 : a.eval x0 = .slice p0 n0 c0)
    (h : ∀ gl w', Hid (w'.heap[gl]? = some (.cells [Value.slice p0 n0 c0].toArray 49 (0, 0))) → Hid (w.heap.size ≤ gl) → Hid (Below w.heap.size w w') → wpList Tryz.prog ops Q rest (a.put o.dst (.slice (some ⟨gl, 0, none⟩) 1 1)) w') : wpList Tryz.prog ops Q (o :: rest) a w :=
  wpList_plain hg fun _ hK => wp_lit1 x0 ho p0 n0 c0 h0 fun gl w' h1 h2 h3 => hK _ _ (h gl w' h1 h2 h3)
theorem wp_mark (ho : o.op = .buildSlice 49 5 #[(0, .const (.int .u8 115)), (1, .const (.int .u8 116)), (2, .const (.int .u8 114)), (3, .const (.int .u8 100)), (4, .const (.int .u8 1))])
    (h : ∀ g w', Hid (MK w' g) → Hid (w.heap.size ≤ g) → Hid (Below w.heap.size w w') → K (a.put o.dst (.slice (some ⟨g, 0, none⟩) 5 5)) w') : Oper.wp Tryz.prog o a w K Q := by
  obtain ⟨i, hi, hz0, hz1, hz2⟩ := info_parts Tryz.info_u8
  refine wp_buildSlice 49 5 5 _ ho (il .u8 mark).toArray i (.int .u8 0) Tryz.underlying49 hi hz0 (by rw [hz1]; omega) (by rw [hz1]; omega) ?_ (h w.heap.size _ (Lib.hid (heap_alloc_last w _)) (Nat.le_refl _) (balloc w _))
  rw [hz1]
  rw [parts_eval a #[(0, .const (.int .u8 115)), (1, .const (.int .u8 116)), (2, .const (.int .u8 114)), (3, .const (.int .u8 100)), (4, .const (.int .u8 1))] .u8 mark rfl]
  exact Great.fill_flat (il .u8 mark) _ (fun v hv => by obtain ⟨x, _, rfl⟩ := List.mem_map.1 hv; rfl) (by simp [il, mark])
theorem freeze_cell (w : World) (p : Addr) (n : Nat) (b : Addr) : (w.freeze p n).cell? b = w.cell? b := by
  unfold World.freeze
  by_cases hn : n = 0
  · rw [if_pos hn]
  · rw [if_neg hn]
    unfold World.cell?
    simp only [Array.getElem?_modify]
    by_cases hp : p.block = b.block
    · rw [if_pos hp]
      cases w.heap[b.block]? with
      | none => rfl
      | some x => cases x <;> rfl
    · rw [if_neg hp]
theorem freeze_grown (w : World) (p : Addr) (n : Nat) : w.grownBy (w.freeze p n) (some p.block) := by
  unfold World.freeze
  split
  · exact hgrown_refl _ _
  · exact ⟨rfl, rfl, rfl, by simp, fun i hi hne => by simp only [Array.getElem?_modify]; rw [if_neg (fun e => hne (by rw [e]))]⟩
theorem wp_conv_mark (x : Operand) (ho : o.op = .convert 49 49 x) (g : Nat) (hx : a.eval x = .slice (some ⟨g, 0, none⟩) 5 5) (hk : MK w g)
    (h : ∀ w', Hid (∀ b, w'.cell? b = w.cell? b) → Hid (w.grownBy w' (some g)) → K (a.put o.dst (.slice (some ⟨g, 0, none⟩) 5 5)) w') : Oper.wp Tryz.prog o a w K Q := by
  have hsh : w.shape? g = some (5, 5) := by unfold World.shape?; rw [hk]; rfl
  have hrun : (convert 49 49 (.slice (some ⟨g, 0, none⟩) 5 5)).run Tryz.prog w = .ok (.slice (some ⟨g, 0, none⟩) 5 5) (w.freeze ⟨g, 5, none⟩ 1) := by
    simp [convert, run_underlying Tryz.underlying49, run_underlying Tryz.underlying5, markStringish, hsh]
  unfold Oper.wp execOp
  simp only [ho, hx, Sem.run_bind, hrun, Result.andThen_ok, Sem.run_pure, Oper.upon]
  exact h _ (Lib.hid fun b => freeze_cell _ _ _ b) (Lib.hid (freeze_grown w ⟨g, 5, none⟩ 1))
theorem fd_mark {w : World} {g base : Nat} (hk : MK w g) (hb : base ≤ g) : FD w base (.slice (some ⟨g, 0, none⟩) 5 5) mark :=
  ⟨g, rfl, hb, _, 5, rfl, rfl, Nat.le_refl _, by omega, fun h => by simp at h, fun _ => ⟨g, 0, rfl, fun j hj => by
    rw [Nat.zero_add, cell_of_row w g j _ _ _ hk]
    simpa using il_get .u8 mark j hj⟩⟩
end
end Go.Proofs.YtnmplnemnfonfaaGreatDoor
namespace Go.Proofs.YtnmplnemnfonfaaGreatDoor
open Go.RowKit
theorem hword_put (x : Int) (n : Nat) (hn : n ≤ 8) (w : World) :
    Calls Tryz.prog 93 #[.int .u64 x, .int .i64 n] w fun e w' => e = .returned (.slice (some ⟨w.heap.size, 0, none⟩) n n) ∧ w'.ownsRow w.heap.size 5 1 (.slice (some ⟨w.heap.size, 0, none⟩) n n) n (il .u8 (putL x n)) ∧ Below w.heap.size w w' :=
  (put_any x n n (by unfold I63; omega) (by unfold clampI; omega) w).mono fun _ _ ⟨he, ho, hb⟩ => ⟨he, ho, hb⟩
theorem hword_get (b off len cap : Nat) (zs : List Int) (w : World) (hr : RI .u8 w (.slice (some ⟨b, off, none⟩) len cap) len zs) (hz : Bytes zs) (h0 : 0 < len) :
    Calls Tryz.prog 118 #[.slice (some ⟨b, off, none⟩) len cap] w fun e w' => e = .returned (.int .u64 (getI zs (min len 8))) ∧ w = w' := by
  obtain ⟨b2, off2, c2, e, _, _, hcell⟩ := hr.open_ h0
  simp only [Value.slice.injEq, Option.some.injEq, Addr.mk.injEq, and_true, true_and] at e
  obtain ⟨⟨rfl, rfl⟩, rfl⟩ := e
  exact get_some b off len cap zs w hz h0 hr.le hcell
theorem sec_get (g p n : Nat) (zs : List Int) (w : World) (hk : Blk w g zs) (hb : isB zs) (hp : p + n ≤ 64) (h0 : 0 < n) (h8 : n ≤ 8) {m : Int} (hm : num zs p n = m) :
    Calls Tryz.prog 118 #[.slice (some ⟨g, p, none⟩) n (64 - p)] w fun e w' => e = .returned (.int .u64 m) ∧ w = w' := by
  have h := hword_get g p n (64 - p) ((zs.drop p).take n) w (hk.ri p n (64 - p) hp (by omega) (by omega)) (bytes_of_mem ((hb.drop p).take n)) h0
  rw [Nat.min_eq_left h8, getI_take _ n n (Nat.le_refl _)] at h
  rw [← hm]; exact h
theorem number_any (n : Int) (h0 : 0 ≤ n) (h1 : n ≤ 2147483647) (w : World) :
    Calls Tryz.prog 94 #[.int .i64 n] w fun e w' => e = .returned (.slice (some ⟨w.heap.size, 0, none⟩) 4 4) ∧ w'.ownsRow w.heap.size 5 1 (.slice (some ⟨w.heap.size, 0, none⟩) 4 4) 4 (il .u8 (putL n 4)) ∧ Below w.heap.size w w' := by
  have HP : Hid (Calls Tryz.prog 93 #[.int .u64 n, .int .i64 4] w fun e w' => e = .returned (.slice (some ⟨w.heap.size, 0, none⟩) 4 4) ∧ w'.ownsRow w.heap.size 5 1 (.slice (some ⟨w.heap.size, 0, none⟩) 4 4) 4 (il .u8 (putL n 4)) ∧ Below w.heap.size w w') := Lib.hid (hword_put n 4 (by omega) w)
  go_enter Tryz.func94, Tryz.ntmps94
  go_wp2_with (first
    | (go_at_call 93; (with_reducible refine (HP.out).mono ?_); rintro e w1 ⟨rfl, ho, hb⟩; have HO := Lib.hid ho; have HB := Lib.hid hb; clear ho hb))
  go_ret
  exact ⟨rfl, HO.out, HB.out⟩
set_option maxRecDepth 8000 in
set_option maxHeartbeats 1000000 in
theorem hhd_get_any (zs : List Int) (hl : zs.length = 64) (hb : isB zs) (p : Nat) (hp : p + 4 ≤ 64) (w : World) {m : Int} (hm : num zs p 4 = m) :
    Calls Tryz.prog 124 #[.agg (sv zs), .int .i64 p] w fun e w' => e = .returned (.int .i64 m) ∧ Below w.heap.size w w' := by
  have hbd := num_bd hb p 4
  rw [hm] at hbd
  have hbd1 : 0 ≤ m ∧ m < 4294967296 := by omega
  obtain ⟨w0, hw0⟩ : ∃ q, w.alloc (.cells (sv zs) 92) = q := ⟨_, rfl⟩
  have hk0 : Blk w0 w.heap.size zs := by rw [← hw0]; exact Blk.new w zs hl
  have HW := Lib.hid (show Below w.heap.size w w0 from by rw [← hw0]; exact below_alloc w _)
  have HG := Lib.hid (sec_get w.heap.size p 4 zs w0 hk0 hb hp (by omega) (by omega) hm)
  obtain ⟨q, hq⟩ : ∃ q, 64 - p = q := ⟨_, rfl⟩
  rw [hq] at HG
  have hp2 : (p : Int) ≤ 60 := by omega
  obtain ⟨t, ht⟩ : ∃ t : Nat, (p : Int) + 4 = (t : Int) := ⟨p + 4, by omega⟩
  have hp3 : (t : Int) ≤ 64 := by omega
  have hp4 : (p : Int) ≤ (t : Int) := by omega
  have hp5 : t - p = 4 := by omega
  have hp6 : ¬ 64 = p := by omega
  clear hbd hb hl hm hk0
  go_enter Tryz.func124, Tryz.ntmps124
  go_wp2_with (first
    | (go_at_call 118; (with_reducible refine (HG.out).mono ?_); rintro e w' ⟨rfl, rfl⟩))
  go_ret
  exact ⟨rfl, HW.out⟩
theorem hsum_any {w : World} (hT : Tab w) (zs : List Int) (hl : zs.length = 64) (hb : isB zs) {m : Nat} (hm : maskS (ofS (zs.take 37)) = m) :
    Calls Tryz.prog 95 #[.agg (sv zs)] w fun e w' => ∃ p, e = .returned (.slice (some ⟨p, 0, none⟩) 4 4) ∧ w'.ownsRow w.heap.size 5 1 (.slice (some ⟨p, 0, none⟩) 4 4) 4 (il .u8 (putL m 4)) ∧ Below w.heap.size w w' := by
  obtain ⟨w0, hw0⟩ : ∃ q, w.alloc (.cells (sv zs) 92) = q := ⟨_, rfl⟩
  have hk0 : Blk w0 w.heap.size zs := by rw [← hw0]; exact Blk.new w zs hl
  have hb0 : Below w.heap.size w w0 := by rw [← hw0]; exact below_alloc w _
  have HW := Lib.hid hb0
  obtain ⟨o, ho⟩ : ∃ o, ofS (zs.take 37) = o := ⟨_, rfl⟩
  rw [ho] at hm
  have hr := hk0.ri 0 37 64 (by omega) (by omega) (by omega)
  rw [List.drop_zero] at hr
  have HO : Hid (Calls Tryz.prog 113 #[.slice (some ⟨w.heap.size, 0, none⟩) 37 64] w0 fun e w' => e = .returned (.int .u32 o) ∧ w0 = w') := Lib.hid (of_any (hT.keep hb0) hr (hb.take 37) ho)
  have HK : Hid (∀ w, Calls Tryz.prog 112 #[.int .u32 o] w fun e w' => e = .returned (.int .u32 m) ∧ w = w') := Lib.hid fun w => mask_any o m (by rw [← ho]; exact ofS_lt _) hm w
  have hm9 : (m : Int) ≤ 4294967295 := by have := maskS_lt o; omega
  have HP : Hid (∀ w, Calls Tryz.prog 93 #[.int .u64 m, .int .i64 4] w fun e w' => e = .returned (.slice (some ⟨w.heap.size, 0, none⟩) 4 4) ∧ w'.ownsRow w.heap.size 5 1 (.slice (some ⟨w.heap.size, 0, none⟩) 4 4) 4 (il .u8 (putL m 4)) ∧ Below w.heap.size w w') := Lib.hid (hword_put m 4 (by omega))
  clear hT hb hl hm ho hr hk0 hb0
  go_enter Tryz.func95, Tryz.ntmps95
  go_wp2_with (first
    | (go_at_call 113; (with_reducible refine (HO.out).mono ?_); rintro e w' ⟨rfl, rfl⟩)
    | (go_at_call 112; (with_reducible refine (HK.out _).mono ?_); rintro e w' ⟨rfl, rfl⟩)
    | (go_at_call 93; (with_reducible refine (HP.out _).mono ?_); rintro e w2 ⟨rfl, ho2, hb2⟩; have HO2 := Lib.hid ho2; have HB2 := Lib.hid hb2; clear ho2 hb2))
  go_ret
  exact ⟨_, rfl, own_mono HO2.out HW.out.size, bch HW.out HB2.out⟩
end Go.Proofs.YtnmplnemnfonfaaGreatDoor
namespace Go.Proofs.YtnmplnemnfonfaaGreatDoor
open Go.RowKit
def p0 (e s f : Int) : List Int := mark ++ putL e 8 ++ putL s 4 ++ putL f 4
theorem p0_length (e s f : Int) : (p0 e s f).length = 21 := by simp [p0, putL_length, mark_length]
theorem p0_flat (e s f : Int) : [mark, putL e 8, putL s 4, putL f 4].flatten = p0 e s f := by simp [p0]
theorem put4_take (l : List Int) (i : Nat) (hi : i < l.length) : put4 (l.take i) ++ putL (l.getD i 0) 4 = put4 (l.take (i + 1)) := by
  rw [List.take_succ_eq_append_getElem hi, put4_snoc]
  simp [List.getD, hi]
theorem fd_one {w : World} {base : Nat} {v : Value} {l : List Int} (h : FD w base v l) : ∀ (j : Nat) (x : Value) (k : List Int), [v][j]? = some x → [l][j]? = some k → FD w base x k := by
  intro j x k hx hk
  match j with
  | 0 => simp at hx hk; subst hx; subst hk; exact h
  | j + 1 => simp at hx
theorem fd_four {w : World} {base : Nat} {v0 v1 v2 v3 : Value} {l0 l1 l2 l3 : List Int} (h0 : FD w base v0 l0) (h1 : FD w base v1 l1) (h2 : FD w base v2 l2) (h3 : FD w base v3 l3) :
    ∀ (j : Nat) (x : Value) (k : List Int), [v0, v1, v2, v3][j]? = some x → [l0, l1, l2, l3][j]? = some k → FD w base x k := by
  intro j x k hx hk
  match j with
  | 0 => simp at hx hk; subst hx; subst hk; exact h0
  | 1 => simp at hx hk; subst hx; subst hk; exact h1
  | 2 => simp at hx hk; subst hx; subst hk; exact h2
  | 3 => simp at hx hk; subst hx; subst hk; exact h3
  | j + 4 => simp at hx
theorem lay_done (h : Hdr) (hn : h.l.length = 4) : isB (splice z64 0 (headP h)) ∧ (splice z64 0 (headP h)).take 37 = headP h ∧ splice (splice z64 0 (headP h)) 37 (putL (headS h) 4) = secH h := by
  have hl := headP_length hn
  have e0 : splice z64 0 (headP h) = headP h ++ z64.drop 37 := by unfold splice; rw [List.take_zero, List.nil_append, hl]
  refine ⟨by rw [e0]; exact (headP_bytes h).append ((zeros_bytes 64).drop 37), by rw [e0, List.take_left' hl], ?_⟩
  have h2 := splice_more z64 0 (headP h) (putL (headS h) 4) (by rw [hl, z64_length]; omega)
  rw [hl, Nat.zero_add] at h2
  rw [h2]
  unfold splice secH headB
  rw [List.take_zero, List.nil_append, List.length_append, hl, putL_length]
  rfl
structure LS (W : World) (h : Hdr) (w : World) : Prop where
  below : Below W.heap.size W w
  sz : W.heap.size + 3 ≤ w.heap.size
  hb : HB w W.heap.size h
  old : Blk w (W.heap.size + 1) z64
theorem LS.next {W w w' : World} {h : Hdr} (k : LS W h w) (hb : Below w.heap.size w w') : LS W h w' := ⟨bch k.below hb, Nat.le_trans k.sz hb.size, k.hb.keep hb, k.old.keep hb⟩
theorem LS.over {W w w' : World} {h : Hdr} (k : LS W h w) (hg : w.grownBy w' (some (W.heap.size + 2))) : LS W h w' :=
  ⟨hbelow_grown k.below hg (by omega) k.below.size, Nat.le_trans k.sz hg.size, k.hb.over hg (by omega), k.old.over hg (by omega)⟩
theorem LS.overq {W w w' : World} {h : Hdr} {q : Nat} (k : LS W h w) (hg : w.grownBy w' (some q)) (hq : W.heap.size + 3 ≤ q) : LS W h w' :=
  ⟨hbelow_grown k.below hg (by omega) k.below.size, Nat.le_trans k.sz hg.size, k.hb.over hg (by omega), k.old.over hg (by omega)⟩
theorem LS.all {W w : World} {e s f : Int} {l : List Int} (k : LS W ⟨e, s, f, l⟩ w) : w.cell? ⟨W.heap.size, 0, none⟩ = some (.int .u64 e) ∧ w.cell? ⟨W.heap.size, 1, none⟩ = some (.int .i64 s) ∧ w.cell? ⟨W.heap.size, 2, none⟩ = some (.int .i64 f) ∧ LS W ⟨e, s, f, l⟩ w :=
  ⟨k.hb.cells.1, k.hb.cells.2.1, k.hb.cells.2.2, k⟩
set_option maxRecDepth 8000 in
set_option maxHeartbeats 4000000 in
theorem hlay_any (h : Hdr) (ht : HdT h) (hk : hdOk h = true) (w : World) (hT : Tab w) :
    Calls Tryz.prog 71 #[.agg (hv h)] w fun e w' => e = .returned (.agg (sv (secH h))) ∧ Below w.heap.size w w' := by
  have hok := hdOk_parts hk
  obtain ⟨w0, hw0⟩ : ∃ q, ((w.alloc (.cells (hv h) 41)).alloc (.cells (sv z64) 92)).alloc (.cells (sv z64) 92) = q := ⟨_, rfl⟩
  have hs1 : (w.alloc (.cells (hv h) 41)).heap.size = w.heap.size + 1 := alloc_size w _
  have hs2 : ((w.alloc (.cells (hv h) 41)).alloc (.cells (sv z64) 92)).heap.size = w.heap.size + 2 := by rw [alloc_size, hs1]
  have HN0 := Lib.hid (show Blk w0 (w.heap.size + 2) z64 from by rw [← hw0, ← hs2]; exact Blk.new _ z64 z64_length)
  have HLS0 : Hid (LS w h w0) := Lib.hid ⟨by rw [← hw0]; exact bch (bch (balloc w _) (balloc _ _)) (balloc _ _), by rw [← hw0, alloc_size, hs2]; omega, by rw [← hw0]; exact ((HB.new w h ht.n).keep (balloc _ _)).keep (balloc _ _), by rw [← hw0]; exact Blk.keep (by rw [← hs1]; exact Blk.new _ z64 z64_length) (balloc _ _)⟩
  have HLN := Lib.hid ht.n
  have HT := Lib.hid hT
  have HLB := Lib.hid (show ∀ x ∈ h.l, 0 ≤ x ∧ x ≤ 2147483647 from fun x hx => by have := hok.2.2.2 x hx; have := hok.2.2.1; omega)
  have hZ := z64_cells
  have HZ := Lib.hid hZ
  have he : 0 ≤ h.e ∧ h.e ≤ 18446744073709551615 := ht.e
  have hs := hok.2.1
  have hf := hok.2.2.1
  obtain ⟨e, s, f, l⟩ := h
  dsimp only at *
  have HP8 : Hid (∀ w, Calls Tryz.prog 93 #[.int .u64 e, .int .i64 8] w fun r w' => r = .returned (.slice (some ⟨w.heap.size, 0, none⟩) 8 8) ∧ w'.ownsRow w.heap.size 5 1 (.slice (some ⟨w.heap.size, 0, none⟩) 8 8) 8 (il .u8 (putL e 8)) ∧ Below w.heap.size w w') := Lib.hid (hword_put e 8 (by omega))
  have HPS : Hid (∀ w, Calls Tryz.prog 94 #[.int .i64 s] w fun r w' => r = .returned (.slice (some ⟨w.heap.size, 0, none⟩) 4 4) ∧ w'.ownsRow w.heap.size 5 1 (.slice (some ⟨w.heap.size, 0, none⟩) 4 4) 4 (il .u8 (putL s 4)) ∧ Below w.heap.size w w') := Lib.hid (number_any s (by omega) hs.2)
  have HPF : Hid (∀ w, Calls Tryz.prog 94 #[.int .i64 f] w fun r w' => r = .returned (.slice (some ⟨w.heap.size, 0, none⟩) 4 4) ∧ w'.ownsRow w.heap.size 5 1 (.slice (some ⟨w.heap.size, 0, none⟩) 4 4) 4 (il .u8 (putL f 4)) ∧ Below w.heap.size w w') := Lib.hid (number_any f (by omega) hf.2)
  clear hok hk ht hT hZ hs1 hs2
  go_enter Tryz.func71, Tryz.ntmps71
  go_wp2_with fail
  rw [← HZ.out, hw0]
  have HN : Hid (Blk w0.drew (w.heap.size + 2) z64) := Lib.hid (HN0.out.keep (Below.refl _ _).drew)
  refine wp_region_held_drew (S := (fun w' => w'.cell? ⟨w.heap.size, 0, none⟩ = some (.int .u64 e) ∧ w'.cell? ⟨w.heap.size, 1, none⟩ = some (.int .i64 s) ∧ w'.cell? ⟨w.heap.size, 2, none⟩ = some (.int .i64 f) ∧ LS w ⟨e, s, f, l⟩ w')) (by kernel_rfl) (LS.all (HLS0.out.next (Below.refl _ _).drew)) (fun hS => ?_)
  refine rgw 2 ⟨some 8, .fieldAddr 41 (.tmp 1) 0, 0, _, _, none⟩ hS ?_
  refine rgw 3 ⟨some 9, .load 22 (.tmp 8), 22, _, _, none⟩ hS ?_
  refine rgw 5 ⟨some 11, .fieldAddr 41 (.tmp 1) 1, 0, _, _, none⟩ hS ?_
  refine rgw 6 ⟨some 12, .load 3 (.tmp 11), 3, _, _, none⟩ hS ?_
  refine rgw 8 ⟨some 14, .fieldAddr 41 (.tmp 1) 2, 0, _, _, none⟩ hS ?_
  refine rgw 9 ⟨some 15, .load 3 (.tmp 14), 3, _, _, none⟩ hS ?_
  refine rg_both 0 4 ⟨some 6, .buildSlice 49 5 #[(0, .const (.int .u8 115)), (1, .const (.int .u8 116)), (2, .const (.int .u8 114)), (3, .const (.int .u8 100)), (4, .const (.int .u8 1))], 49, _, _, none⟩ ⟨some 10, .call { callee := .value (.func 93), args := #[.tmp 9, .const (.int .i64 8)], argTypes := #[22, 3] }, 49, _, _, none⟩ (by kernel_rfl) rfl rfl (fun K hK => ?_) (fun K hK => ?_)
  focus
    rw [if_pos (by rfl)]; refine wp_mark rfl ?_; intro gm w5 hm hgm5 hb5; have hb := hb5.out; (try (have q := Lib.hid (HGM.out.keep hb); clear HGM; have HGM := q; clear q)); (try (have q := Lib.hid (HM.out.keep hb); clear HM; have HM := q; clear q)); (try (have q := Lib.hid (H8.out.keep hb); clear H8; have H8 := q; clear q)); (try (have q := Lib.hid (HS4.out.keep hb); clear HS4; have HS4 := q; clear q)); (try (have q := Lib.hid (HF4.out.keep hb); clear HF4; have HF4 := q; clear q)); (try (have q := Lib.hid (HN.out.keep hb); clear HN; have HN := q; clear q)); have HGM := hm; have HGE := Lib.hid (Nat.le_trans hS.2.2.2.sz hgm5.out); clear hm hb5 hgm5
    refine hK.out _ _ ?_ (fun hS1 => ?_)
    · (first | exact hS | exact hN | exact LS.all (hS.2.2.2.next hb))
    clear hK K hS; have hS := hS1; clear hS1
    (try simp only [rgp])
    refine rg_both 1 4 ⟨some 7, .convert 49 49 (.tmp 6), 49, _, _, none⟩ ⟨some 10, .call { callee := .value (.func 93), args := #[.tmp 9, .const (.int .i64 8)], argTypes := #[22, 3] }, 49, _, _, none⟩ (by kernel_rfl) rfl rfl (fun K hK => ?_) (fun K hK => ?_)
    focus
      rw [if_pos (by rfl)]; refine wp_conv_mark (.tmp 6) rfl gm rfl HGM.out ?_; intro w5b hsm hg5; have hN := LS.all (hS.2.2.2.overq hg5.out HGE.out); (try (have q := Lib.hid (H8.out.same hsm.out); clear H8; have H8 := q; clear q)); (try (have q := Lib.hid (HS4.out.same hsm.out); clear HS4; have HS4 := q; clear q)); (try (have q := Lib.hid (HF4.out.same hsm.out); clear HF4; have HF4 := q; clear q)); have HM := Lib.hid ((fd_mark (base := w.heap.size + 3) HGM.out HGE.out).same hsm.out); (have q := Lib.hid (HN.out.over hg5.out (by have := HGE.out; omega)); clear HN; have HN := q; clear q); clear HGM hsm hg5
      refine hK.out _ _ ?_ (fun hS1 => ?_)
      · (first | exact hS | exact hN | exact LS.all (hS.2.2.2.next hb))
      clear hK K hS; have hS := hS1; clear hS1
      (try simp only [rgp])
      refine rg_one 4 ⟨some 10, .call { callee := .value (.func 93), args := #[.tmp 9, .const (.int .i64 8)], argTypes := #[22, 3] }, 49, _, _, none⟩ (by kernel_rfl) rfl (fun K hK => ?_)
      go_simp
      (go_at_call 93; (refine (HP8.out _).mono ?_); rintro r w4 ⟨rfl, ho, hb⟩; (try (have q := Lib.hid (HGM.out.keep hb); clear HGM; have HGM := q; clear q)); (try (have q := Lib.hid (HM.out.keep hb); clear HM; have HM := q; clear q)); (try (have q := Lib.hid (H8.out.keep hb); clear H8; have H8 := q; clear q)); (try (have q := Lib.hid (HS4.out.keep hb); clear HS4; have HS4 := q; clear q)); (try (have q := Lib.hid (HF4.out.keep hb); clear HF4; have HF4 := q; clear q)); (try (have q := Lib.hid (HN.out.keep hb); clear HN; have HN := q; clear q)); have H8 := Lib.hid (FD.of (base := w.heap.size + 3) ho hS.2.2.2.sz); clear ho)
      refine hK.out _ _ ?_ (fun hS1 => ?_)
      · (first | exact hS | exact hN | exact LS.all (hS.2.2.2.next hb))
      clear hK K hS; have hS := hS1; clear hS1
      (try simp only [rgp])
      refine rg_one 7 ⟨some 13, .call { callee := .value (.func 94), args := #[.tmp 12], argTypes := #[3] }, 49, _, _, none⟩ (by kernel_rfl) rfl (fun K hK => ?_)
      go_simp
      (go_at_call 94; (refine (HPS.out _).mono ?_); rintro r w6 ⟨rfl, ho, hb⟩; (try (have q := Lib.hid (HGM.out.keep hb); clear HGM; have HGM := q; clear q)); (try (have q := Lib.hid (HM.out.keep hb); clear HM; have HM := q; clear q)); (try (have q := Lib.hid (H8.out.keep hb); clear H8; have H8 := q; clear q)); (try (have q := Lib.hid (HS4.out.keep hb); clear HS4; have HS4 := q; clear q)); (try (have q := Lib.hid (HF4.out.keep hb); clear HF4; have HF4 := q; clear q)); (try (have q := Lib.hid (HN.out.keep hb); clear HN; have HN := q; clear q)); have HS4 := Lib.hid (FD.of (base := w.heap.size + 3) ho hS.2.2.2.sz); clear ho)
      refine hK.out _ _ ?_ (fun hS1 => ?_)
      · (first | exact hS | exact hN | exact LS.all (hS.2.2.2.next hb))
      clear hK K hS; have hS := hS1; clear hS1
      (try simp only [rgp])
      refine rg_one 10 ⟨some 16, .call { callee := .value (.func 94), args := #[.tmp 15], argTypes := #[3] }, 49, _, _, none⟩ (by kernel_rfl) rfl (fun K hK => ?_)
      go_simp
      (go_at_call 94; (refine (HPF.out _).mono ?_); rintro r w7 ⟨rfl, ho, hb⟩; (try (have q := Lib.hid (HGM.out.keep hb); clear HGM; have HGM := q; clear q)); (try (have q := Lib.hid (HM.out.keep hb); clear HM; have HM := q; clear q)); (try (have q := Lib.hid (H8.out.keep hb); clear H8; have H8 := q; clear q)); (try (have q := Lib.hid (HS4.out.keep hb); clear HS4; have HS4 := q; clear q)); (try (have q := Lib.hid (HF4.out.keep hb); clear HF4; have HF4 := q; clear q)); (try (have q := Lib.hid (HN.out.keep hb); clear HN; have HN := q; clear q)); have HF4 := Lib.hid (FD.of (base := w.heap.size + 3) ho hS.2.2.2.sz); clear ho)
    rotate_left
    focus
      go_simp
      (go_at_call 93; (refine (HP8.out _).mono ?_); rintro r w4 ⟨rfl, ho, hb⟩; (try (have q := Lib.hid (HGM.out.keep hb); clear HGM; have HGM := q; clear q)); (try (have q := Lib.hid (HM.out.keep hb); clear HM; have HM := q; clear q)); (try (have q := Lib.hid (H8.out.keep hb); clear H8; have H8 := q; clear q)); (try (have q := Lib.hid (HS4.out.keep hb); clear HS4; have HS4 := q; clear q)); (try (have q := Lib.hid (HF4.out.keep hb); clear HF4; have HF4 := q; clear q)); (try (have q := Lib.hid (HN.out.keep hb); clear HN; have HN := q; clear q)); have H8 := Lib.hid (FD.of (base := w.heap.size + 3) ho hS.2.2.2.sz); clear ho)
      refine hK.out _ _ ?_ (fun hS1 => ?_)
      · (first | exact hS | exact hN | exact LS.all (hS.2.2.2.next hb))
      clear hK K hS; have hS := hS1; clear hS1
      (try simp only [rgp])
      refine rg_both 1 7 ⟨some 7, .convert 49 49 (.tmp 6), 49, _, _, none⟩ ⟨some 13, .call { callee := .value (.func 94), args := #[.tmp 12], argTypes := #[3] }, 49, _, _, none⟩ (by kernel_rfl) rfl rfl (fun K hK => ?_) (fun K hK => ?_)
      focus
        rw [if_pos (by rfl)]; refine wp_conv_mark (.tmp 6) rfl gm rfl HGM.out ?_; intro w5b hsm hg5; have hN := LS.all (hS.2.2.2.overq hg5.out HGE.out); (try (have q := Lib.hid (H8.out.same hsm.out); clear H8; have H8 := q; clear q)); (try (have q := Lib.hid (HS4.out.same hsm.out); clear HS4; have HS4 := q; clear q)); (try (have q := Lib.hid (HF4.out.same hsm.out); clear HF4; have HF4 := q; clear q)); have HM := Lib.hid ((fd_mark (base := w.heap.size + 3) HGM.out HGE.out).same hsm.out); (have q := Lib.hid (HN.out.over hg5.out (by have := HGE.out; omega)); clear HN; have HN := q; clear q); clear HGM hsm hg5
        refine hK.out _ _ ?_ (fun hS1 => ?_)
        · (first | exact hS | exact hN | exact LS.all (hS.2.2.2.next hb))
        clear hK K hS; have hS := hS1; clear hS1
        (try simp only [rgp])
        refine rg_one 7 ⟨some 13, .call { callee := .value (.func 94), args := #[.tmp 12], argTypes := #[3] }, 49, _, _, none⟩ (by kernel_rfl) rfl (fun K hK => ?_)
        go_simp
        (go_at_call 94; (refine (HPS.out _).mono ?_); rintro r w6 ⟨rfl, ho, hb⟩; (try (have q := Lib.hid (HGM.out.keep hb); clear HGM; have HGM := q; clear q)); (try (have q := Lib.hid (HM.out.keep hb); clear HM; have HM := q; clear q)); (try (have q := Lib.hid (H8.out.keep hb); clear H8; have H8 := q; clear q)); (try (have q := Lib.hid (HS4.out.keep hb); clear HS4; have HS4 := q; clear q)); (try (have q := Lib.hid (HF4.out.keep hb); clear HF4; have HF4 := q; clear q)); (try (have q := Lib.hid (HN.out.keep hb); clear HN; have HN := q; clear q)); have HS4 := Lib.hid (FD.of (base := w.heap.size + 3) ho hS.2.2.2.sz); clear ho)
        refine hK.out _ _ ?_ (fun hS1 => ?_)
        · (first | exact hS | exact hN | exact LS.all (hS.2.2.2.next hb))
        clear hK K hS; have hS := hS1; clear hS1
        (try simp only [rgp])
        refine rg_one 10 ⟨some 16, .call { callee := .value (.func 94), args := #[.tmp 15], argTypes := #[3] }, 49, _, _, none⟩ (by kernel_rfl) rfl (fun K hK => ?_)
        go_simp
        (go_at_call 94; (refine (HPF.out _).mono ?_); rintro r w7 ⟨rfl, ho, hb⟩; (try (have q := Lib.hid (HGM.out.keep hb); clear HGM; have HGM := q; clear q)); (try (have q := Lib.hid (HM.out.keep hb); clear HM; have HM := q; clear q)); (try (have q := Lib.hid (H8.out.keep hb); clear H8; have H8 := q; clear q)); (try (have q := Lib.hid (HS4.out.keep hb); clear HS4; have HS4 := q; clear q)); (try (have q := Lib.hid (HF4.out.keep hb); clear HF4; have HF4 := q; clear q)); (try (have q := Lib.hid (HN.out.keep hb); clear HN; have HN := q; clear q)); have HF4 := Lib.hid (FD.of (base := w.heap.size + 3) ho hS.2.2.2.sz); clear ho)
      rotate_left
      focus
        go_simp
        (go_at_call 94; (refine (HPS.out _).mono ?_); rintro r w6 ⟨rfl, ho, hb⟩; (try (have q := Lib.hid (HGM.out.keep hb); clear HGM; have HGM := q; clear q)); (try (have q := Lib.hid (HM.out.keep hb); clear HM; have HM := q; clear q)); (try (have q := Lib.hid (H8.out.keep hb); clear H8; have H8 := q; clear q)); (try (have q := Lib.hid (HS4.out.keep hb); clear HS4; have HS4 := q; clear q)); (try (have q := Lib.hid (HF4.out.keep hb); clear HF4; have HF4 := q; clear q)); (try (have q := Lib.hid (HN.out.keep hb); clear HN; have HN := q; clear q)); have HS4 := Lib.hid (FD.of (base := w.heap.size + 3) ho hS.2.2.2.sz); clear ho)
        refine hK.out _ _ ?_ (fun hS1 => ?_)
        · (first | exact hS | exact hN | exact LS.all (hS.2.2.2.next hb))
        clear hK K hS; have hS := hS1; clear hS1
        (try simp only [rgp])
        refine rg_both 1 10 ⟨some 7, .convert 49 49 (.tmp 6), 49, _, _, none⟩ ⟨some 16, .call { callee := .value (.func 94), args := #[.tmp 15], argTypes := #[3] }, 49, _, _, none⟩ (by kernel_rfl) rfl rfl (fun K hK => ?_) (fun K hK => ?_)
        focus
          rw [if_pos (by rfl)]; refine wp_conv_mark (.tmp 6) rfl gm rfl HGM.out ?_; intro w5b hsm hg5; have hN := LS.all (hS.2.2.2.overq hg5.out HGE.out); (try (have q := Lib.hid (H8.out.same hsm.out); clear H8; have H8 := q; clear q)); (try (have q := Lib.hid (HS4.out.same hsm.out); clear HS4; have HS4 := q; clear q)); (try (have q := Lib.hid (HF4.out.same hsm.out); clear HF4; have HF4 := q; clear q)); have HM := Lib.hid ((fd_mark (base := w.heap.size + 3) HGM.out HGE.out).same hsm.out); (have q := Lib.hid (HN.out.over hg5.out (by have := HGE.out; omega)); clear HN; have HN := q; clear q); clear HGM hsm hg5
          refine hK.out _ _ ?_ (fun hS1 => ?_)
          · (first | exact hS | exact hN | exact LS.all (hS.2.2.2.next hb))
          clear hK K hS; have hS := hS1; clear hS1
          (try simp only [rgp])
          refine rg_one 10 ⟨some 16, .call { callee := .value (.func 94), args := #[.tmp 15], argTypes := #[3] }, 49, _, _, none⟩ (by kernel_rfl) rfl (fun K hK => ?_)
          go_simp
          (go_at_call 94; (refine (HPF.out _).mono ?_); rintro r w7 ⟨rfl, ho, hb⟩; (try (have q := Lib.hid (HGM.out.keep hb); clear HGM; have HGM := q; clear q)); (try (have q := Lib.hid (HM.out.keep hb); clear HM; have HM := q; clear q)); (try (have q := Lib.hid (H8.out.keep hb); clear H8; have H8 := q; clear q)); (try (have q := Lib.hid (HS4.out.keep hb); clear HS4; have HS4 := q; clear q)); (try (have q := Lib.hid (HF4.out.keep hb); clear HF4; have HF4 := q; clear q)); (try (have q := Lib.hid (HN.out.keep hb); clear HN; have HN := q; clear q)); have HF4 := Lib.hid (FD.of (base := w.heap.size + 3) ho hS.2.2.2.sz); clear ho)
        rotate_left
        focus
          go_simp
          (go_at_call 94; (refine (HPF.out _).mono ?_); rintro r w7 ⟨rfl, ho, hb⟩; (try (have q := Lib.hid (HGM.out.keep hb); clear HGM; have HGM := q; clear q)); (try (have q := Lib.hid (HM.out.keep hb); clear HM; have HM := q; clear q)); (try (have q := Lib.hid (H8.out.keep hb); clear H8; have H8 := q; clear q)); (try (have q := Lib.hid (HS4.out.keep hb); clear HS4; have HS4 := q; clear q)); (try (have q := Lib.hid (HF4.out.keep hb); clear HF4; have HF4 := q; clear q)); (try (have q := Lib.hid (HN.out.keep hb); clear HN; have HN := q; clear q)); have HF4 := Lib.hid (FD.of (base := w.heap.size + 3) ho hS.2.2.2.sz); clear ho)
          refine hK.out _ _ ?_ (fun hS1 => ?_)
          · (first | exact hS | exact hN | exact LS.all (hS.2.2.2.next hb))
          clear hK K hS; have hS := hS1; clear hS1
          (try simp only [rgp])
          refine rg_one 1 ⟨some 7, .convert 49 49 (.tmp 6), 49, _, _, none⟩ (by kernel_rfl) rfl (fun K hK => ?_)
          rw [if_pos (by rfl)]; refine wp_conv_mark (.tmp 6) rfl gm rfl HGM.out ?_; intro w5b hsm hg5; have hN := LS.all (hS.2.2.2.overq hg5.out HGE.out); (try (have q := Lib.hid (H8.out.same hsm.out); clear H8; have H8 := q; clear q)); (try (have q := Lib.hid (HS4.out.same hsm.out); clear HS4; have HS4 := q; clear q)); (try (have q := Lib.hid (HF4.out.same hsm.out); clear HF4; have HF4 := q; clear q)); have HM := Lib.hid ((fd_mark (base := w.heap.size + 3) HGM.out HGE.out).same hsm.out); (have q := Lib.hid (HN.out.over hg5.out (by have := HGE.out; omega)); clear HN; have HN := q; clear q); clear HGM hsm hg5
        rotate_left
      rotate_left 2
    rotate_left 3
  rotate_left 4
  focus
    go_simp
    (go_at_call 93; (refine (HP8.out _).mono ?_); rintro r w4 ⟨rfl, ho, hb⟩; (try (have q := Lib.hid (HGM.out.keep hb); clear HGM; have HGM := q; clear q)); (try (have q := Lib.hid (HM.out.keep hb); clear HM; have HM := q; clear q)); (try (have q := Lib.hid (H8.out.keep hb); clear H8; have H8 := q; clear q)); (try (have q := Lib.hid (HS4.out.keep hb); clear HS4; have HS4 := q; clear q)); (try (have q := Lib.hid (HF4.out.keep hb); clear HF4; have HF4 := q; clear q)); (try (have q := Lib.hid (HN.out.keep hb); clear HN; have HN := q; clear q)); have H8 := Lib.hid (FD.of (base := w.heap.size + 3) ho hS.2.2.2.sz); clear ho)
    refine hK.out _ _ ?_ (fun hS1 => ?_)
    · (first | exact hS | exact hN | exact LS.all (hS.2.2.2.next hb))
    clear hK K hS; have hS := hS1; clear hS1
    (try simp only [rgp])
    refine rg_both 0 7 ⟨some 6, .buildSlice 49 5 #[(0, .const (.int .u8 115)), (1, .const (.int .u8 116)), (2, .const (.int .u8 114)), (3, .const (.int .u8 100)), (4, .const (.int .u8 1))], 49, _, _, none⟩ ⟨some 13, .call { callee := .value (.func 94), args := #[.tmp 12], argTypes := #[3] }, 49, _, _, none⟩ (by kernel_rfl) rfl rfl (fun K hK => ?_) (fun K hK => ?_)
    focus
      rw [if_pos (by rfl)]; refine wp_mark rfl ?_; intro gm w5 hm hgm5 hb5; have hb := hb5.out; (try (have q := Lib.hid (HGM.out.keep hb); clear HGM; have HGM := q; clear q)); (try (have q := Lib.hid (HM.out.keep hb); clear HM; have HM := q; clear q)); (try (have q := Lib.hid (H8.out.keep hb); clear H8; have H8 := q; clear q)); (try (have q := Lib.hid (HS4.out.keep hb); clear HS4; have HS4 := q; clear q)); (try (have q := Lib.hid (HF4.out.keep hb); clear HF4; have HF4 := q; clear q)); (try (have q := Lib.hid (HN.out.keep hb); clear HN; have HN := q; clear q)); have HGM := hm; have HGE := Lib.hid (Nat.le_trans hS.2.2.2.sz hgm5.out); clear hm hb5 hgm5
      refine hK.out _ _ ?_ (fun hS1 => ?_)
      · (first | exact hS | exact hN | exact LS.all (hS.2.2.2.next hb))
      clear hK K hS; have hS := hS1; clear hS1
      (try simp only [rgp])
      refine rg_both 1 7 ⟨some 7, .convert 49 49 (.tmp 6), 49, _, _, none⟩ ⟨some 13, .call { callee := .value (.func 94), args := #[.tmp 12], argTypes := #[3] }, 49, _, _, none⟩ (by kernel_rfl) rfl rfl (fun K hK => ?_) (fun K hK => ?_)
      focus
        rw [if_pos (by rfl)]; refine wp_conv_mark (.tmp 6) rfl gm rfl HGM.out ?_; intro w5b hsm hg5; have hN := LS.all (hS.2.2.2.overq hg5.out HGE.out); (try (have q := Lib.hid (H8.out.same hsm.out); clear H8; have H8 := q; clear q)); (try (have q := Lib.hid (HS4.out.same hsm.out); clear HS4; have HS4 := q; clear q)); (try (have q := Lib.hid (HF4.out.same hsm.out); clear HF4; have HF4 := q; clear q)); have HM := Lib.hid ((fd_mark (base := w.heap.size + 3) HGM.out HGE.out).same hsm.out); (have q := Lib.hid (HN.out.over hg5.out (by have := HGE.out; omega)); clear HN; have HN := q; clear q); clear HGM hsm hg5
        refine hK.out _ _ ?_ (fun hS1 => ?_)
        · (first | exact hS | exact hN | exact LS.all (hS.2.2.2.next hb))
        clear hK K hS; have hS := hS1; clear hS1
        (try simp only [rgp])
        refine rg_one 7 ⟨some 13, .call { callee := .value (.func 94), args := #[.tmp 12], argTypes := #[3] }, 49, _, _, none⟩ (by kernel_rfl) rfl (fun K hK => ?_)
        go_simp
        (go_at_call 94; (refine (HPS.out _).mono ?_); rintro r w6 ⟨rfl, ho, hb⟩; (try (have q := Lib.hid (HGM.out.keep hb); clear HGM; have HGM := q; clear q)); (try (have q := Lib.hid (HM.out.keep hb); clear HM; have HM := q; clear q)); (try (have q := Lib.hid (H8.out.keep hb); clear H8; have H8 := q; clear q)); (try (have q := Lib.hid (HS4.out.keep hb); clear HS4; have HS4 := q; clear q)); (try (have q := Lib.hid (HF4.out.keep hb); clear HF4; have HF4 := q; clear q)); (try (have q := Lib.hid (HN.out.keep hb); clear HN; have HN := q; clear q)); have HS4 := Lib.hid (FD.of (base := w.heap.size + 3) ho hS.2.2.2.sz); clear ho)
        refine hK.out _ _ ?_ (fun hS1 => ?_)
        · (first | exact hS | exact hN | exact LS.all (hS.2.2.2.next hb))
        clear hK K hS; have hS := hS1; clear hS1
        (try simp only [rgp])
        refine rg_one 10 ⟨some 16, .call { callee := .value (.func 94), args := #[.tmp 15], argTypes := #[3] }, 49, _, _, none⟩ (by kernel_rfl) rfl (fun K hK => ?_)
        go_simp
        (go_at_call 94; (refine (HPF.out _).mono ?_); rintro r w7 ⟨rfl, ho, hb⟩; (try (have q := Lib.hid (HGM.out.keep hb); clear HGM; have HGM := q; clear q)); (try (have q := Lib.hid (HM.out.keep hb); clear HM; have HM := q; clear q)); (try (have q := Lib.hid (H8.out.keep hb); clear H8; have H8 := q; clear q)); (try (have q := Lib.hid (HS4.out.keep hb); clear HS4; have HS4 := q; clear q)); (try (have q := Lib.hid (HF4.out.keep hb); clear HF4; have HF4 := q; clear q)); (try (have q := Lib.hid (HN.out.keep hb); clear HN; have HN := q; clear q)); have HF4 := Lib.hid (FD.of (base := w.heap.size + 3) ho hS.2.2.2.sz); clear ho)
      rotate_left
      focus
        go_simp
        (go_at_call 94; (refine (HPS.out _).mono ?_); rintro r w6 ⟨rfl, ho, hb⟩; (try (have q := Lib.hid (HGM.out.keep hb); clear HGM; have HGM := q; clear q)); (try (have q := Lib.hid (HM.out.keep hb); clear HM; have HM := q; clear q)); (try (have q := Lib.hid (H8.out.keep hb); clear H8; have H8 := q; clear q)); (try (have q := Lib.hid (HS4.out.keep hb); clear HS4; have HS4 := q; clear q)); (try (have q := Lib.hid (HF4.out.keep hb); clear HF4; have HF4 := q; clear q)); (try (have q := Lib.hid (HN.out.keep hb); clear HN; have HN := q; clear q)); have HS4 := Lib.hid (FD.of (base := w.heap.size + 3) ho hS.2.2.2.sz); clear ho)
        refine hK.out _ _ ?_ (fun hS1 => ?_)
        · (first | exact hS | exact hN | exact LS.all (hS.2.2.2.next hb))
        clear hK K hS; have hS := hS1; clear hS1
        (try simp only [rgp])
        refine rg_both 1 10 ⟨some 7, .convert 49 49 (.tmp 6), 49, _, _, none⟩ ⟨some 16, .call { callee := .value (.func 94), args := #[.tmp 15], argTypes := #[3] }, 49, _, _, none⟩ (by kernel_rfl) rfl rfl (fun K hK => ?_) (fun K hK => ?_)
        focus
          rw [if_pos (by rfl)]; refine wp_conv_mark (.tmp 6) rfl gm rfl HGM.out ?_; intro w5b hsm hg5; have hN := LS.all (hS.2.2.2.overq hg5.out HGE.out); (try (have q := Lib.hid (H8.out.same hsm.out); clear H8; have H8 := q; clear q)); (try (have q := Lib.hid (HS4.out.same hsm.out); clear HS4; have HS4 := q; clear q)); (try (have q := Lib.hid (HF4.out.same hsm.out); clear HF4; have HF4 := q; clear q)); have HM := Lib.hid ((fd_mark (base := w.heap.size + 3) HGM.out HGE.out).same hsm.out); (have q := Lib.hid (HN.out.over hg5.out (by have := HGE.out; omega)); clear HN; have HN := q; clear q); clear HGM hsm hg5
          refine hK.out _ _ ?_ (fun hS1 => ?_)
          · (first | exact hS | exact hN | exact LS.all (hS.2.2.2.next hb))
          clear hK K hS; have hS := hS1; clear hS1
          (try simp only [rgp])
          refine rg_one 10 ⟨some 16, .call { callee := .value (.func 94), args := #[.tmp 15], argTypes := #[3] }, 49, _, _, none⟩ (by kernel_rfl) rfl (fun K hK => ?_)
          go_simp
          (go_at_call 94; (refine (HPF.out _).mono ?_); rintro r w7 ⟨rfl, ho, hb⟩; (try (have q := Lib.hid (HGM.out.keep hb); clear HGM; have HGM := q; clear q)); (try (have q := Lib.hid (HM.out.keep hb); clear HM; have HM := q; clear q)); (try (have q := Lib.hid (H8.out.keep hb); clear H8; have H8 := q; clear q)); (try (have q := Lib.hid (HS4.out.keep hb); clear HS4; have HS4 := q; clear q)); (try (have q := Lib.hid (HF4.out.keep hb); clear HF4; have HF4 := q; clear q)); (try (have q := Lib.hid (HN.out.keep hb); clear HN; have HN := q; clear q)); have HF4 := Lib.hid (FD.of (base := w.heap.size + 3) ho hS.2.2.2.sz); clear ho)
        rotate_left
        focus
          go_simp
          (go_at_call 94; (refine (HPF.out _).mono ?_); rintro r w7 ⟨rfl, ho, hb⟩; (try (have q := Lib.hid (HGM.out.keep hb); clear HGM; have HGM := q; clear q)); (try (have q := Lib.hid (HM.out.keep hb); clear HM; have HM := q; clear q)); (try (have q := Lib.hid (H8.out.keep hb); clear H8; have H8 := q; clear q)); (try (have q := Lib.hid (HS4.out.keep hb); clear HS4; have HS4 := q; clear q)); (try (have q := Lib.hid (HF4.out.keep hb); clear HF4; have HF4 := q; clear q)); (try (have q := Lib.hid (HN.out.keep hb); clear HN; have HN := q; clear q)); have HF4 := Lib.hid (FD.of (base := w.heap.size + 3) ho hS.2.2.2.sz); clear ho)
          refine hK.out _ _ ?_ (fun hS1 => ?_)
          · (first | exact hS | exact hN | exact LS.all (hS.2.2.2.next hb))
          clear hK K hS; have hS := hS1; clear hS1
          (try simp only [rgp])
          refine rg_one 1 ⟨some 7, .convert 49 49 (.tmp 6), 49, _, _, none⟩ (by kernel_rfl) rfl (fun K hK => ?_)
          rw [if_pos (by rfl)]; refine wp_conv_mark (.tmp 6) rfl gm rfl HGM.out ?_; intro w5b hsm hg5; have hN := LS.all (hS.2.2.2.overq hg5.out HGE.out); (try (have q := Lib.hid (H8.out.same hsm.out); clear H8; have H8 := q; clear q)); (try (have q := Lib.hid (HS4.out.same hsm.out); clear HS4; have HS4 := q; clear q)); (try (have q := Lib.hid (HF4.out.same hsm.out); clear HF4; have HF4 := q; clear q)); have HM := Lib.hid ((fd_mark (base := w.heap.size + 3) HGM.out HGE.out).same hsm.out); (have q := Lib.hid (HN.out.over hg5.out (by have := HGE.out; omega)); clear HN; have HN := q; clear q); clear HGM hsm hg5
        rotate_left
      rotate_left 2
    rotate_left 3
    focus
      go_simp
      (go_at_call 94; (refine (HPS.out _).mono ?_); rintro r w6 ⟨rfl, ho, hb⟩; (try (have q := Lib.hid (HGM.out.keep hb); clear HGM; have HGM := q; clear q)); (try (have q := Lib.hid (HM.out.keep hb); clear HM; have HM := q; clear q)); (try (have q := Lib.hid (H8.out.keep hb); clear H8; have H8 := q; clear q)); (try (have q := Lib.hid (HS4.out.keep hb); clear HS4; have HS4 := q; clear q)); (try (have q := Lib.hid (HF4.out.keep hb); clear HF4; have HF4 := q; clear q)); (try (have q := Lib.hid (HN.out.keep hb); clear HN; have HN := q; clear q)); have HS4 := Lib.hid (FD.of (base := w.heap.size + 3) ho hS.2.2.2.sz); clear ho)
      refine hK.out _ _ ?_ (fun hS1 => ?_)
      · (first | exact hS | exact hN | exact LS.all (hS.2.2.2.next hb))
      clear hK K hS; have hS := hS1; clear hS1
      (try simp only [rgp])
      refine rg_both 0 10 ⟨some 6, .buildSlice 49 5 #[(0, .const (.int .u8 115)), (1, .const (.int .u8 116)), (2, .const (.int .u8 114)), (3, .const (.int .u8 100)), (4, .const (.int .u8 1))], 49, _, _, none⟩ ⟨some 16, .call { callee := .value (.func 94), args := #[.tmp 15], argTypes := #[3] }, 49, _, _, none⟩ (by kernel_rfl) rfl rfl (fun K hK => ?_) (fun K hK => ?_)
      focus
        rw [if_pos (by rfl)]; refine wp_mark rfl ?_; intro gm w5 hm hgm5 hb5; have hb := hb5.out; (try (have q := Lib.hid (HGM.out.keep hb); clear HGM; have HGM := q; clear q)); (try (have q := Lib.hid (HM.out.keep hb); clear HM; have HM := q; clear q)); (try (have q := Lib.hid (H8.out.keep hb); clear H8; have H8 := q; clear q)); (try (have q := Lib.hid (HS4.out.keep hb); clear HS4; have HS4 := q; clear q)); (try (have q := Lib.hid (HF4.out.keep hb); clear HF4; have HF4 := q; clear q)); (try (have q := Lib.hid (HN.out.keep hb); clear HN; have HN := q; clear q)); have HGM := hm; have HGE := Lib.hid (Nat.le_trans hS.2.2.2.sz hgm5.out); clear hm hb5 hgm5
        refine hK.out _ _ ?_ (fun hS1 => ?_)
        · (first | exact hS | exact hN | exact LS.all (hS.2.2.2.next hb))
        clear hK K hS; have hS := hS1; clear hS1
        (try simp only [rgp])
        refine rg_both 1 10 ⟨some 7, .convert 49 49 (.tmp 6), 49, _, _, none⟩ ⟨some 16, .call { callee := .value (.func 94), args := #[.tmp 15], argTypes := #[3] }, 49, _, _, none⟩ (by kernel_rfl) rfl rfl (fun K hK => ?_) (fun K hK => ?_)
        focus
          rw [if_pos (by rfl)]; refine wp_conv_mark (.tmp 6) rfl gm rfl HGM.out ?_; intro w5b hsm hg5; have hN := LS.all (hS.2.2.2.overq hg5.out HGE.out); (try (have q := Lib.hid (H8.out.same hsm.out); clear H8; have H8 := q; clear q)); (try (have q := Lib.hid (HS4.out.same hsm.out); clear HS4; have HS4 := q; clear q)); (try (have q := Lib.hid (HF4.out.same hsm.out); clear HF4; have HF4 := q; clear q)); have HM := Lib.hid ((fd_mark (base := w.heap.size + 3) HGM.out HGE.out).same hsm.out); (have q := Lib.hid (HN.out.over hg5.out (by have := HGE.out; omega)); clear HN; have HN := q; clear q); clear HGM hsm hg5
          refine hK.out _ _ ?_ (fun hS1 => ?_)
          · (first | exact hS | exact hN | exact LS.all (hS.2.2.2.next hb))
          clear hK K hS; have hS := hS1; clear hS1
          (try simp only [rgp])
          refine rg_one 10 ⟨some 16, .call { callee := .value (.func 94), args := #[.tmp 15], argTypes := #[3] }, 49, _, _, none⟩ (by kernel_rfl) rfl (fun K hK => ?_)
          go_simp
          (go_at_call 94; (refine (HPF.out _).mono ?_); rintro r w7 ⟨rfl, ho, hb⟩; (try (have q := Lib.hid (HGM.out.keep hb); clear HGM; have HGM := q; clear q)); (try (have q := Lib.hid (HM.out.keep hb); clear HM; have HM := q; clear q)); (try (have q := Lib.hid (H8.out.keep hb); clear H8; have H8 := q; clear q)); (try (have q := Lib.hid (HS4.out.keep hb); clear HS4; have HS4 := q; clear q)); (try (have q := Lib.hid (HF4.out.keep hb); clear HF4; have HF4 := q; clear q)); (try (have q := Lib.hid (HN.out.keep hb); clear HN; have HN := q; clear q)); have HF4 := Lib.hid (FD.of (base := w.heap.size + 3) ho hS.2.2.2.sz); clear ho)
        rotate_left
        focus
          go_simp
          (go_at_call 94; (refine (HPF.out _).mono ?_); rintro r w7 ⟨rfl, ho, hb⟩; (try (have q := Lib.hid (HGM.out.keep hb); clear HGM; have HGM := q; clear q)); (try (have q := Lib.hid (HM.out.keep hb); clear HM; have HM := q; clear q)); (try (have q := Lib.hid (H8.out.keep hb); clear H8; have H8 := q; clear q)); (try (have q := Lib.hid (HS4.out.keep hb); clear HS4; have HS4 := q; clear q)); (try (have q := Lib.hid (HF4.out.keep hb); clear HF4; have HF4 := q; clear q)); (try (have q := Lib.hid (HN.out.keep hb); clear HN; have HN := q; clear q)); have HF4 := Lib.hid (FD.of (base := w.heap.size + 3) ho hS.2.2.2.sz); clear ho)
          refine hK.out _ _ ?_ (fun hS1 => ?_)
          · (first | exact hS | exact hN | exact LS.all (hS.2.2.2.next hb))
          clear hK K hS; have hS := hS1; clear hS1
          (try simp only [rgp])
          refine rg_one 1 ⟨some 7, .convert 49 49 (.tmp 6), 49, _, _, none⟩ (by kernel_rfl) rfl (fun K hK => ?_)
          rw [if_pos (by rfl)]; refine wp_conv_mark (.tmp 6) rfl gm rfl HGM.out ?_; intro w5b hsm hg5; have hN := LS.all (hS.2.2.2.overq hg5.out HGE.out); (try (have q := Lib.hid (H8.out.same hsm.out); clear H8; have H8 := q; clear q)); (try (have q := Lib.hid (HS4.out.same hsm.out); clear HS4; have HS4 := q; clear q)); (try (have q := Lib.hid (HF4.out.same hsm.out); clear HF4; have HF4 := q; clear q)); have HM := Lib.hid ((fd_mark (base := w.heap.size + 3) HGM.out HGE.out).same hsm.out); (have q := Lib.hid (HN.out.over hg5.out (by have := HGE.out; omega)); clear HN; have HN := q; clear q); clear HGM hsm hg5
        rotate_left
      rotate_left 2
      focus
        go_simp
        (go_at_call 94; (refine (HPF.out _).mono ?_); rintro r w7 ⟨rfl, ho, hb⟩; (try (have q := Lib.hid (HGM.out.keep hb); clear HGM; have HGM := q; clear q)); (try (have q := Lib.hid (HM.out.keep hb); clear HM; have HM := q; clear q)); (try (have q := Lib.hid (H8.out.keep hb); clear H8; have H8 := q; clear q)); (try (have q := Lib.hid (HS4.out.keep hb); clear HS4; have HS4 := q; clear q)); (try (have q := Lib.hid (HF4.out.keep hb); clear HF4; have HF4 := q; clear q)); (try (have q := Lib.hid (HN.out.keep hb); clear HN; have HN := q; clear q)); have HF4 := Lib.hid (FD.of (base := w.heap.size + 3) ho hS.2.2.2.sz); clear ho)
        refine hK.out _ _ ?_ (fun hS1 => ?_)
        · (first | exact hS | exact hN | exact LS.all (hS.2.2.2.next hb))
        clear hK K hS; have hS := hS1; clear hS1
        (try simp only [rgp])
        refine rg_one 0 ⟨some 6, .buildSlice 49 5 #[(0, .const (.int .u8 115)), (1, .const (.int .u8 116)), (2, .const (.int .u8 114)), (3, .const (.int .u8 100)), (4, .const (.int .u8 1))], 49, _, _, none⟩ (by kernel_rfl) rfl (fun K hK => ?_)
        rw [if_pos (by rfl)]; refine wp_mark rfl ?_; intro gm w5 hm hgm5 hb5; have hb := hb5.out; (try (have q := Lib.hid (HGM.out.keep hb); clear HGM; have HGM := q; clear q)); (try (have q := Lib.hid (HM.out.keep hb); clear HM; have HM := q; clear q)); (try (have q := Lib.hid (H8.out.keep hb); clear H8; have H8 := q; clear q)); (try (have q := Lib.hid (HS4.out.keep hb); clear HS4; have HS4 := q; clear q)); (try (have q := Lib.hid (HF4.out.keep hb); clear HF4; have HF4 := q; clear q)); (try (have q := Lib.hid (HN.out.keep hb); clear HN; have HN := q; clear q)); have HGM := hm; have HGE := Lib.hid (Nat.le_trans hS.2.2.2.sz hgm5.out); clear hm hb5 hgm5
        refine hK.out _ _ ?_ (fun hS1 => ?_)
        · (first | exact hS | exact hN | exact LS.all (hS.2.2.2.next hb))
        clear hK K hS; have hS := hS1; clear hS1
        (try simp only [rgp])
        refine rg_one 1 ⟨some 7, .convert 49 49 (.tmp 6), 49, _, _, none⟩ (by kernel_rfl) rfl (fun K hK => ?_)
        rw [if_pos (by rfl)]; refine wp_conv_mark (.tmp 6) rfl gm rfl HGM.out ?_; intro w5b hsm hg5; have hN := LS.all (hS.2.2.2.overq hg5.out HGE.out); (try (have q := Lib.hid (H8.out.same hsm.out); clear H8; have H8 := q; clear q)); (try (have q := Lib.hid (HS4.out.same hsm.out); clear HS4; have HS4 := q; clear q)); (try (have q := Lib.hid (HF4.out.same hsm.out); clear HF4; have HF4 := q; clear q)); have HM := Lib.hid ((fd_mark (base := w.heap.size + 3) HGM.out HGE.out).same hsm.out); (have q := Lib.hid (HN.out.over hg5.out (by have := HGE.out; omega)); clear HN; have HN := q; clear q); clear HGM hsm hg5
      rotate_left
    rotate_left 3
  rotate_left 6
  all_goals
    refine hK.out _ _ ?_ (fun hS1 => ?_)
    · (first | exact hS | exact hN | exact LS.all (hS.2.2.2.next hb))
    clear hK K hS; have hS := hS1; clear hS1
    (try simp only [rgp])
    refine rg_one 11 ⟨some 17, .buildSlice 23 4 #[(0, .tmp 7), (1, .tmp 10), (2, .tmp 13), (3, .tmp 16)], 23, _, _, none⟩ (by kernel_rfl) rfl (fun K hK => ?_)
    rw [if_pos (by rfl)]; refine wp_lit4 (.tmp 7) (.tmp 10) (.tmp 13) (.tmp 16) rfl _ _ _ _ _ _ _ _ _ _ _ _ rfl rfl rfl rfl ?_; intro gl w8 hl hgl hb8; have hb := hb8.out; (try (have q := Lib.hid (HGM.out.keep hb); clear HGM; have HGM := q; clear q)); (try (have q := Lib.hid (HM.out.keep hb); clear HM; have HM := q; clear q)); (try (have q := Lib.hid (H8.out.keep hb); clear H8; have H8 := q; clear q)); (try (have q := Lib.hid (HS4.out.keep hb); clear HS4; have HS4 := q; clear q)); (try (have q := Lib.hid (HF4.out.keep hb); clear HF4; have HF4 := q; clear q)); (try (have q := Lib.hid (HN.out.keep hb); clear HN; have HN := q; clear q)); have HRL := Lib.hid (rl_lit (g := w.heap.size + 2) (base := w.heap.size + 3) (n := 4) (ls := [mark, putL e 8, putL s 4, putL f 4]) hl.out (by omega) (Nat.le_trans hS.2.2.2.sz hgl.out) rfl rfl (by omega) (fd_four HM.out H8.out HS4.out HF4.out)); clear hl hgl hb8
    refine hK.out _ _ ?_ (fun hS1 => ?_)
    · (first | exact hS | exact hN | exact LS.all (hS.2.2.2.next hb))
    clear hK K hS; have hS := hS1; clear hS1
    (try simp only [rgp])
    refine rg_one 12 ⟨some 18, .call { callee := .value (.func 92), args := #[.tmp 3, .const (.int .i64 0), .tmp 17], argTypes := #[161, 3, 23] }, 0, _, _, none⟩ (by kernel_rfl) rfl (fun K hK => ?_)
    go_simp
    (go_at_call 92; (refine (hput_any (w.heap.size + 2) 0 4 z64 [mark, putL e 8, putL s 4, putL f 4] _ _ HN.out HRL.out (by intro y hy; simp only [List.mem_cons, List.not_mem_nil, or_false] at hy; rcases hy with rfl | rfl | rfl | rfl <;> simp [putL_length, mark_length]) (by rw [p0_flat, p0_length]; omega)).mono ?_); rintro r w9 ⟨rfl, hk9, hg9⟩; have hN := LS.all (hS.2.2.2.over hg9); clear HN; have HN := Lib.hid hk9; clear hk9 hg9)
    refine hK.out _ _ ?_ (fun hS1 => ?_)
    · (first | exact hS | exact hN | exact LS.all (hS.2.2.2.next hb))
    clear hK K hS; have hS := hS1; clear hS1
    (try simp only [rgp])
    refine wpAnyH_done (by kernel_rfl) ?_ _
    have HLS := Lib.hid hS.2.2.2
    have HN7 := Lib.hid HN.out
    clear hS HN HRL
    (try clear hN hb)
    (try clear HM H8 HS4 HF4 HGE)
    go_wp2_with (first
      | (refine wpl_load_l4 rfl (.tmp 19) rfl rfl HLS.out.hb ?_))
    go_loopw [21] (fun v wr => ∃ i : Nat, v = .int .i64 i ∧ i ≤ 4 ∧ Hid (LS w ⟨e, s, f, l⟩ wr) ∧ Hid (Blk wr (w.heap.size + 2) (splice z64 0 (p0 e s f ++ put4 (l.take i))))) (fun v _ => 4 - (intOf v).toNat)
    case atStart => exact ⟨0, rfl, by omega, HLS, Lib.hid (by have h1 := HN7.out; rw [p0_flat] at h1; simpa [put4] using h1)⟩
    case round =>
      obtain ⟨i, rfl, hi, HR, HNR⟩ := hrel
      by_cases hlt : i < 4
      · have hix := index_l4 l HLN.out i hlt
        obtain ⟨x, hx⟩ : ∃ x, l.getD i 0 = x := ⟨_, rfl⟩
        rw [hx] at hix
        have HXB := Lib.hid (show 0 ≤ x ∧ x ≤ 2147483647 from by rw [← hx]; exact HLB.out _ (getD_memH (by rw [HLN.out]; exact hlt)))
        have HPS := Lib.hid (put4_take l i (by rw [HLN.out]; exact hlt))
        rw [hx] at HPS
        have HNU : Hid (∀ w, Calls Tryz.prog 94 #[.int .i64 x] w fun r w' => r = .returned (.slice (some ⟨w.heap.size, 0, none⟩) 4 4) ∧ w'.ownsRow w.heap.size 5 1 (.slice (some ⟨w.heap.size, 0, none⟩) 4 4) 4 (il .u8 (putL x 4)) ∧ Below w.heap.size w w') := Lib.hid (number_any x HXB.out.1 HXB.out.2)
        obtain ⟨p, hp⟩ : ∃ p : Nat, 21 + 4 * i = p := ⟨_, rfl⟩
        have hp2 : (21 : Int) + 4 * (i : Int) = (p : Int) := by omega
        have hlt2 : (i : Int) < 4 := by omega
        have hpb : (p : Int) ≤ 33 := by omega
        have HPL := Lib.hid (show (p0 e s f ++ put4 (l.take i)).length = p from by rw [List.length_append, p0_length, put4_length, List.length_take, HLN.out]; omega)
        clear hx hp
        go_wp2_with (first
          | (go_at_call 94; (with_reducible refine (HNU.out _).mono ?_); rintro r w7 ⟨rfl, ho7, hb7⟩; have HF7 := Lib.hid (FD.of ho7 HR.out.sz); have HR7 := Lib.hid (HR.out.next hb7); have HN7 := Lib.hid (HNR.out.keep hb7); clear ho7 hb7)
          | (refine wpl_lit1 rfl (.tmp 29) rfl _ _ _ rfl ?_; intro gl w8 hl8 hgl8 hb8; have HR8 := Lib.hid (HR7.out.next hb8.out); have HN8 := Lib.hid (HN7.out.keep hb8.out); have HRL8 := Lib.hid (rl_lit (g := w.heap.size + 2) (base := w.heap.size + 3) (n := 1) (ls := [putL x 4]) hl8.out (by omega) (Nat.le_trans HR7.out.sz hgl8.out) rfl rfl (by omega) (fd_one (HF7.out.keep hb8.out))); clear hl8 hgl8 hb8)
          | (go_at_call 92; (refine (hput_any (w.heap.size + 2) p 1 _ [putL x 4] _ _ HN8.out HRL8.out (by intro y hy; simp only [List.mem_cons, List.not_mem_nil, or_false] at hy; subst hy; rw [putL_length]; omega) (by simp [putL_length]; omega)).mono ?_); rintro r w9 ⟨rfl, hk9, hg9⟩; have HR9 := Lib.hid (HR8.out.over hg9); have HN9 := Lib.hid hk9; clear hk9 hg9))
        go_roundw
        case rel =>
          refine ⟨i + 1, by go_num, by omega, HR9, Lib.hid ?_⟩
          have h1 := HN9.out
          simp only [List.flatten_cons, List.flatten_nil, List.append_nil] at h1
          have h2 := splice_more z64 0 (p0 e s f ++ put4 (l.take i)) (putL x 4) (by rw [HPL.out, z64_length]; omega)
          rw [HPL.out, Nat.zero_add] at h2
          rw [h2, List.append_assoc, HPS.out] at h1
          exact h1
        case measure => simp [intOf]; omega
      · obtain rfl : i = 4 := by omega
        have HNF := Lib.hid (show Blk wr (w.heap.size + 2) (splice z64 0 (headP ⟨e, s, f, l⟩)) from by have h1 := HNR.out; rwa [List.take_of_length_le (by rw [HLN.out]; omega)] at h1)
        have HFIN := Lib.hid (lay_done ⟨e, s, f, l⟩ HLN.out)
        obtain ⟨L, hL⟩ : ∃ L, splice z64 0 (headP ⟨e, s, f, l⟩) = L := ⟨_, rfl⟩
        rw [hL] at HNF HFIN
        obtain ⟨m, hm⟩ : ∃ m, headS ⟨e, s, f, l⟩ = m := ⟨_, rfl⟩
        rw [hm] at HFIN
        have HSU : Hid (Calls Tryz.prog 95 #[.agg (sv L)] wr fun r w' => ∃ p, r = .returned (.slice (some ⟨p, 0, none⟩) 4 4) ∧ w'.ownsRow wr.heap.size 5 1 (.slice (some ⟨p, 0, none⟩) 4 4) 4 (il .u8 (putL m 4)) ∧ Below wr.heap.size wr w') := Lib.hid (hsum_any (HT.out.keep HR.out.below) L HNF.out.2 HFIN.out.1 (by rw [HFIN.out.2.1]; exact hm))
        obtain ⟨wz, hwz⟩ : ∃ q, q = wr := ⟨_, rfl⟩
        subst hwz
        clear hL hm
        go_wp2_with (first
          | (refine wpl_load_sec (by rfl) (.tmp 3) rfl (w.heap.size + 2) rfl L HNF.out ?_)
          | (go_at_call 95; (with_reducible refine (HSU.out).mono ?_); rintro r w7 ⟨p7, rfl, ho7, hb7⟩; have HF7 := Lib.hid (FD.of ho7 HR.out.sz); have HR7 := Lib.hid (HR.out.next hb7); have HN7 := Lib.hid (HNF.out.keep hb7); clear ho7 hb7)
          | (refine wpl_lit1 rfl (.tmp 34) rfl _ _ _ rfl ?_; intro gl w8 hl8 hgl8 hb8; have HR8 := Lib.hid (HR7.out.next hb8.out); have HN8 := Lib.hid (HN7.out.keep hb8.out); have HRL8 := Lib.hid (rl_lit (g := w.heap.size + 2) (base := w.heap.size + 3) (n := 1) (ls := [putL m 4]) hl8.out (by omega) (Nat.le_trans HR7.out.sz hgl8.out) rfl rfl (by omega) (fd_one (HF7.out.keep hb8.out))); clear hl8 hgl8 hb8)
          | (go_at_call 92; (refine (hput_any (w.heap.size + 2) 37 1 _ [putL m 4] _ _ HN8.out HRL8.out (by intro y hy; simp only [List.mem_cons, List.not_mem_nil, or_false] at hy; subst hy; rw [putL_length]; omega) (by simp [putL_length])).mono ?_); rintro r w9 ⟨rfl, hk9, hg9⟩; have HR9 := Lib.hid (HR8.out.over hg9); have HN9 := Lib.hid (show Blk w9 (w.heap.size + 2) (secH ⟨e, s, f, l⟩) from by rw [← HFIN.out.2.2]; simpa using hk9); clear hk9 hg9)
          | (refine wpl_load_sec (by rfl) (.tmp 3) rfl (w.heap.size + 2) rfl (secH ⟨e, s, f, l⟩) HN9.out ?_)
          | (refine wpl_put_sec rfl (.tmp 2) (.tmp 37) rfl (w.heap.size + 1) z64 (secH ⟨e, s, f, l⟩) HR9.out.old (secH_length HLN.out) rfl rfl ?_; intro wf HO HGF))
        refine bodyPost_ret_by (v := .agg (sv (secH ⟨e, s, f, l⟩))) (results_cell_row rfl _ _ (w.heap.size + 1) _ (sv (secH ⟨e, s, f, l⟩)) (0, 0) _ rfl HO.out.1 Tryz.underlying92 rfl (sv_info _ (secH_length HLN.out))) rfl ⟨rfl, ?_⟩
        exact hbelow_grown HR9.out.below HGF.out (by omega) HR9.out.below.size
end Go.Proofs.YtnmplnemnfonfaaGreatDoor
namespace Go.Proofs.YtnmplnemnfonfaaGreatDoor
open Go.RowKit
def btwn (n a b : Int) : Bool := decide (a ≤ n ∧ n ≤ b)
theorem within_any (n a b : Int) (w : World) : Calls Tryz.prog 91 #[.int .i64 n, .int .i64 a, .int .i64 b] w fun e w' => e = .returned (.bool (btwn n a b)) ∧ w = w' := by
  by_cases h1 : a ≤ n
  · by_cases h2 : n ≤ b
    · rw [show btwn n a b = true from by simp [btwn, h1, h2]]
      go_enter Tryz.func91, Tryz.ntmps91
      go_wp2
      go_ret
      exact ⟨rfl, rfl⟩
    · rw [show btwn n a b = false from by simp [btwn, h2]]
      go_enter Tryz.func91, Tryz.ntmps91
      go_wp2
      go_ret
      exact ⟨rfl, rfl⟩
  · rw [show btwn n a b = false from by simp [btwn, h1]]
    go_enter Tryz.func91, Tryz.ntmps91
    go_wp2
    go_ret
    exact ⟨rfl, rfl⟩
def bndF (f : Int) : Int := IntKind.i64.wrap (f - 1)
def okF (f : Int) (l : List Int) (i : Nat) : Prop := ∀ j, j < i → btwn (l.getD j 0) 0 (bndF f) = true
theorem right_false {h : Hdr} (ht : HdT h) {i : Nat} (hi : i < 4) (hb : btwn (h.l.getD i 0) 0 (bndF h.f) = false) : hdOk h = false := by
  cases hk : hdOk h
  · rfl
  · obtain ⟨_, _, h3, h4⟩ := hdOk_parts hk
    have := h4 (h.l.getD i 0) (getD_mem (by rw [ht.n]; exact hi))
    have hw : bndF h.f = h.f - 1 := IntWalk.i64_in _ (by omega)
    rw [hw] at hb
    unfold btwn at hb
    simp only [decide_eq_false_iff_not] at hb
    omega
theorem right_all {h : Hdr} (ht : HdT h) (hf : okF h.f h.l 4) : hdOk h = (decide (h.e ≠ 0) && (btwn h.s 1 2147483647 && btwn h.f 1 2147483647)) := by
  rw [Bool.eq_iff_iff]
  constructor
  · intro hk
    obtain ⟨h1, h2, h3, _⟩ := hdOk_parts hk
    simp [h1, btwn, h2, h3]
  · intro hk
    simp only [Bool.and_eq_true, decide_eq_true_eq, btwn] at hk
    obtain ⟨h1, h2, h3⟩ := hk
    refine hdOk_of h1 (by simp [lsn, h2]) (by simp [lsn, h3]) fun x hx => ?_
    obtain ⟨j, hj, rfl⟩ := List.getElem_of_mem hx
    have := hf j (by rw [ht.n] at hj; exact hj)
    have hw : bndF h.f = h.f - 1 := IntWalk.i64_in _ (by omega)
    rw [hw] at this
    simp only [btwn, decide_eq_true_eq, List.getD, hj, getElem?_pos, Option.getD_some] at this
    omega
set_option maxRecDepth 8000 in
set_option maxHeartbeats 1000000 in
theorem hright_any (h : Hdr) (ht : HdT h) (w : World) : Calls Tryz.prog 70 #[.agg (hv h)] w fun e w' => e = .returned (.bool (hdOk h)) ∧ Below w.heap.size w w' := by
  obtain ⟨w0, hw0⟩ : ∃ q, w.alloc (.cells (hv h) 41) = q := ⟨_, rfl⟩
  have HK := Lib.hid (show HB w0 w.heap.size h from by rw [← hw0]; exact HB.new w h ht.n)
  have HW := Lib.hid (show Below w.heap.size w w0 from by rw [← hw0]; exact balloc w _)
  have HTY := Lib.hid ht
  obtain ⟨z0, z1, z2⟩ := HK.out.cells
  have he : 0 ≤ h.e ∧ h.e ≤ 18446744073709551615 := ht.e
  obtain ⟨m, hm⟩ : ∃ m, bndF h.f = m := ⟨_, rfl⟩
  have hm2 : IntKind.i64.wrap (h.f - 1) = m := hm
  obtain ⟨y, hy⟩ : ∃ y, hdOk h = y := ⟨_, rfl⟩
  have HY := Lib.hid hy
  have HM := Lib.hid hm
  rw [hy]
  obtain ⟨e, s, f, l⟩ := h
  dsimp only at *
  clear ht hy hm
  go_enter Tryz.func70, Tryz.ntmps70
  go_wp2_with (first
    | (refine wpl_load_l4 rfl (.tmp 5) rfl rfl HK.out ?_))
  go_loopw [7] (fun v wr => ∃ i : Nat, v = .int .i64 i ∧ i ≤ 4 ∧ Hid (okF f l i) ∧ wr = w0) (fun v _ => 4 - (intOf v).toNat)
  case atStart => exact ⟨0, rfl, by omega, Lib.hid (fun j hj => absurd hj (by omega)), rfl⟩
  case round =>
    obtain ⟨i, rfl, hi, HO, rfl⟩ := hrel
    by_cases hlt : i < 4
    · have hix := index_l4 l HTY.out.n i hlt wr
      obtain ⟨x, hx⟩ : ∃ x, l.getD i 0 = x := ⟨_, rfl⟩
      rw [hx] at hix
      obtain ⟨b, hb⟩ : ∃ b, btwn x 0 m = b := ⟨_, rfl⟩
      have HX := Lib.hid hx
      have HBT := Lib.hid hb
      have HC := Lib.hid (within_any x 0 m wr)
      rw [hb] at HC
      have hlt2 : (i : Int) < 4 := by omega
      clear hx hb
      cases b with
      | false =>
        go_wp2_with (first
          | (go_at_call 91; (with_reducible refine (HC.out).mono ?_); rintro r w' ⟨rfl, rfl⟩))
        go_ret
        exact ⟨ret_bool (by rw [← HY.out]; exact (right_false HTY.out hlt (by dsimp only; rw [HX.out, HM.out]; exact HBT.out)).symm), HW.out⟩
      | true =>
        go_wp2_with (first
          | (go_at_call 91; (with_reducible refine (HC.out).mono ?_); rintro r w' ⟨rfl, rfl⟩))
        go_roundw
        case rel =>
          refine ⟨i + 1, by go_num, by omega, Lib.hid fun j hj => ?_, trivial⟩
          by_cases hji : j = i
          · subst hji; rw [HX.out, HM.out]; exact HBT.out
          · exact HO.out j (by omega)
        case measure => simp [intOf]; omega
    · obtain rfl : i = 4 := by omega
      have HA := Lib.hid (right_all HTY.out HO.out)
      rw [HY.out] at HA
      dsimp only at HA
      obtain ⟨b1, hb1⟩ : ∃ b, btwn s 1 2147483647 = b := ⟨_, rfl⟩
      obtain ⟨b2, hb2⟩ : ∃ b, btwn f 1 2147483647 = b := ⟨_, rfl⟩
      have HC1 := Lib.hid (within_any s 1 2147483647 wr)
      have HC2 := Lib.hid (within_any f 1 2147483647 wr)
      rw [hb1] at HC1
      rw [hb2] at HC2
      rw [hb1, hb2] at HA
      clear hb1 hb2
      have hi4 : ¬ ((4 : Nat) : Int) < 4 := by omega
      by_cases h0 : e = 0
      · subst h0
        go_wp2
        go_ret
        exact ⟨ret_bool (by rw [HA.out]; simp), HW.out⟩
      · cases b1 with
        | false =>
          go_wp2_with (first
            | (go_at_call 91; (with_reducible refine (HC1.out).mono ?_); rintro r w' ⟨rfl, rfl⟩))
          go_ret
          exact ⟨ret_bool (by rw [HA.out]; simp), HW.out⟩
        | true =>
          go_wp2_with (first
            | (go_at_call 91; first | ((with_reducible refine (HC1.out).mono ?_); rintro r w' ⟨rfl, rfl⟩) | ((with_reducible refine (HC2.out).mono ?_); rintro r w' ⟨rfl, rfl⟩)))
          go_ret
          exact ⟨ret_bool (by rw [HA.out]; simp [h0]), HW.out⟩
end Go.Proofs.YtnmplnemnfonfaaGreatDoor
