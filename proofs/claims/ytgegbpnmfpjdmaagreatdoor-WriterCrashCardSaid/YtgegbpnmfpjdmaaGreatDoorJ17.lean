/-
  TEXTS JOINED: ImgYb, PlanPart, StampRef, StampSeal, PlanWrite, HeadBlk, HeadPut. Each one's own words stand at its head.
-/
import Derived.Test.YtgegbpnmfpjdmaaGreatDoorJ15
import Derived.Test.YtgegbpnmfpjdmaaGreatDoorJ13
import Derived.Test.YtgegbpnmfpjdmaaGreatDoorJ1
import Derived.Test.YtgegbpnmfpjdmaaGreatDoorJ0
import Derived.Test.YtgegbpnmfpjdmaaGreatDoorJ12
import Derived.Lib.SliceRun
import Derived.Test.YtgegbpnmfpjdmaaGreatDoorJ11
import Derived.Test.YtgegbpnmfpjdmaaGreatDoorJ5
namespace Go.Proofs.YtgegbpnmfpjdmaaGreatDoor
open Go.RowKit
theorem wpl_mk_yb {w : World} {ops : Array Oper} {rest : List Oper} {o : Oper} {a : Act} {Q : Exit → Act → World → Prop} (hgd : o.guard = none) (x y : Operand) (ho : o.op = Op.makeSlice 43 x y) (n : Nat) (hx : a.eval x = .int .i64 (n : Int)) (hy : a.eval y = .int .i64 (n : Int)) (hn : n ≤ 1000000)
    (h : ∀ g w', Hid (YB w' g (List.replicate n 0)) → Hid (w.heap.size ≤ g) → Hid (Below w.heap.size w w') → wpList Tryz.prog ops Q rest (a.put o.dst (.slice (some ⟨g, 0, none⟩) n n)) w') : wpList Tryz.prog ops Q (o :: rest) a w := by
  refine wpList_plain hgd fun K hK => ?_
  have hrun := make_bytes_run n (by omega) w
  unfold Oper.wp
  simp [execOp, ho, hx, hy, hrun, Result.andThen]
  exact hK _ _ (h _ _ (heap_alloc_last w _) (Nat.le_refl _) (below_alloc w _))
theorem wpl_copy_ybm {ops : Array Oper} {rest : List Oper} {o : Oper} {a : Act} {w : World} {Q : Exit → Act → World → Prop} (hgd : o.guard = none) (d s : Operand)
    (ho : o.op = .call { callee := .builtin .copy, args := #[d, s], argTypes := #[43, 43] }) (g off dLen dCap : Nat) (cur : List Int) (hblk : YB w g cur)
    (hd : a.eval d = .slice (some ⟨g, off, none⟩) dLen dCap) (v : Value) (n : Nat) (zs : List Int) (hs : a.eval s = v) (hri : RI .u8 w v n zs) (hfit : off + dLen ≤ cur.length)
    (h : ∀ w' k, Hid (YB w' g (splice cur off (zs.take dLen))) → Hid (w.grownBy w' (some g)) → wpList Tryz.prog ops Q rest (a.put o.dst (goInt k)) w') : wpList Tryz.prog ops Q (o :: rest) a w := by
  by_cases hnd : n ≤ dLen
  · refine wpl_copy_yb hgd d s ho g off dLen dCap cur hblk hd v n zs hs hri hnd hfit fun w' h1 h2 => ?_
    rw [List.take_of_length_le (by rw [hri.length]; exact hnd)] at h
    exact h w' _ h1 h2
  · obtain ⟨sp, sCap, rfl, hl, _, _, _, hc⟩ := hri
    obtain ⟨b, of2, rfl, hcell⟩ := hc (by omega)
    have hmin : Nat.min n dLen = dLen := Nat.min_eq_right (by omega)
    have htl : (zs.take dLen).length = dLen := by rw [List.length_take]; omega
    have hcl : (il .u8 (zs.take dLen)).length = dLen := by rw [il_length, htl]
    refine wpList_copy_own hgd d s 43 43 ho 5 Tryz.underlying43 u8_size1 g off dLen dCap ⟨b, of2, none⟩ n sCap hd hs (il .u8 cur).toArray 5 hblk (il .u8 (zs.take dLen)) (by rw [hcl, hmin]) ?_ (by rw [hcl]; simpa [il_length] using hfit) (il_one _ _) ?_
    · intro j u hj
      have hjl : j < (zs.take dLen).length := by have := (List.getElem?_eq_some_iff.1 hj).1; rwa [il_length] at this
      rw [il_get _ _ _ hjl] at hj
      rw [Addr.add_mid, hcell j (by omega)]
      rw [← hj]
      simp only [List.getD, List.getElem?_take, show j < dLen by omega, if_true]
    · rw [hcl]
      refine h _ _ (Lib.hid ?_) (grown_row _ _ _)
      unfold YB
      rw [← il_splice]
      have := setRow_at hblk ((il .u8 cur).toArray.toList.take off ++ (il .u8 (zs.take dLen) ++ (il .u8 cur).toArray.toList.drop (off + dLen))).toArray
      simpa [splice, hcl] using this
theorem YB.stored {w : World} {g : Nat} {zs : List Int} (h : YB w g zs) (j : Nat) (z : Int) : YB (w.setCell ⟨g, j, none⟩ (.int .u8 z)) g (zs.set j z) := by
  unfold YB at *
  have := Joins.block_setCell (i := j) h (.int .u8 z)
  simpa [il, List.map_set] using this
theorem YB.cell {w : World} {g : Nat} {zs : List Int} (h : YB w g zs) (j : Nat) (hj : j < zs.length) : w.cell? ⟨g, j, none⟩ = some (.int .u8 (zs.getD j 0)) := by
  rw [cell_of_row w g j _ _ _ h]
  simpa using il_get .u8 zs j hj
theorem YB.frozen {w : World} {g : Nat} {zs : List Int} (h : YB w g zs) (j : Nat) : w.frozen? ⟨g, j, none⟩ = false := Joins.unfrozen_of_block h j
theorem il_splice1 (zs : List Int) (i : Nat) (b : Int) (hi : i < zs.length) : splice (il .u8 zs) i [Value.int .u8 b] = il .u8 (zs.set i b) := by
  refine List.ext_getElem? fun q => ?_
  rw [splice_get _ _ _ (by rw [il_length]; simp; omega)]
  unfold il
  rw [List.map_set]
  by_cases h3 : q < i
  · rw [if_pos h3, List.getElem?_set_ne (by omega)]
  · rw [if_neg h3]
    by_cases h4 : q = i
    · subst h4
      rw [if_pos (by simp), List.getElem?_set_self (by simpa using hi), Nat.sub_self]; rfl
    · rw [if_neg (by simp; omega), List.getElem?_set_ne (by omega)]
theorem yb_store_run {w : World} {g i : Nat} {zs : List Int} (b : Int) (h : YB w g zs) (hi : i < zs.length) : (storeVar 5 ⟨g, i, none⟩ (.int .u8 b)).run Tryz.prog w = .ok () (w.setCells g i [.int .u8 b]) := by
  have hc := h.cell i hi
  have := run_storeCells_cells (P := Tryz.prog) g i [Value.int .u8 b] 0 w (fun j hj => by simp at hj; subst hj; simp [hc]) (fun j hj => Joins.unfrozen_of_block h _) (fun u hu => by simp at hu; subst hu; rfl)
  obtain ⟨n, hn, hs⟩ := Option.map_eq_some_iff.1 u8_size1
  simp only [Nat.add_zero] at this
  simp [storeVar, sizeOf, typeInfo, hn, show (Value.int .u8 b).cells = #[.int .u8 b] from rfl, hs, this]
theorem wp_put_yb {w : World} {o : Oper} {a : Act} {K : Act → World → Prop} {Q : Exit → Act → World → Prop} (x y : Operand) (ho : o.op = .store 5 x y)
    (g i : Nat) (zs : List Int) (b : Int) (h : YB w g zs) (hi : i < zs.length) (hx : a.eval x = .pointer (some ⟨g, i, none⟩)) (hy : a.eval y = .int .u8 b)
    (hK : ∀ w', Hid (YB w' g (zs.set i b)) → Hid (w.grownBy w' (some g)) → K (a.put o.dst undef) w') : Oper.wp Tryz.prog o a w K Q := by
  unfold Oper.wp execOp
  simp only [ho, hx, hy, Instr.storeAt, Instr.sureAddr, Sem.run_bind, Sem.run_pure, Result.andThen_ok, yb_store_run b h hi]
  refine hK _ ?_ (grown_setCells _ _ _ _)
  unfold YB
  have h1 := heap_setCells g 5 (0, 0) [Value.int .u8 b] i w (il .u8 zs) (by rw [il_length]; simp; omega) h
  rwa [il_splice1 _ _ _ hi] at h1
theorem wpl_put_yb {w : World} {ops : Array Oper} {rest : List Oper} {o : Oper} {a : Act} {Q : Exit → Act → World → Prop} (hgd : o.guard = none) (x y : Operand) (ho : o.op = .store 5 x y)
    (g i : Nat) (zs : List Int) (b : Int) (h : YB w g zs) (hi : i < zs.length) (hx : a.eval x = .pointer (some ⟨g, i, none⟩)) (hy : a.eval y = .int .u8 b)
    (hK : ∀ w', Hid (YB w' g (zs.set i b)) → Hid (w.grownBy w' (some g)) → wpList Tryz.prog ops Q rest (a.put o.dst undef) w') : wpList Tryz.prog ops Q (o :: rest) a w :=
  wpList_plain hgd fun _ hk => wp_put_yb x y ho g i zs b h hi hx hy fun w' h1 h2 => hk _ _ (hK w' h1 h2)
theorem splice_set (L cs : List Int) (off k : Nat) (hk : k < cs.length) (hf : off + cs.length ≤ L.length) : (splice L off (cs.take k)).set (off + k) (cs.getD k 0) = splice L off (cs.take (k + 1)) := by
  refine List.ext_getElem? fun q => ?_
  have h1 : (cs.take k).length = k := by rw [List.length_take]; omega
  have h2 : (cs.take (k + 1)).length = k + 1 := by rw [List.length_take]; omega
  have hl : (splice L off (cs.take k)).length = L.length := by unfold splice; simp; omega
  rw [splice_get _ _ _ (by omega), h2]
  by_cases e : q = off + k
  · subst e
    rw [List.getElem?_set_self (by omega), if_neg (by omega), if_pos (by omega), Nat.add_sub_cancel_left]
    simp [List.getD, hk]
  · rw [List.getElem?_set_ne (Ne.symm e), splice_get _ _ _ (by omega), h1]
    by_cases h3 : q < off
    · rw [if_pos h3, if_pos h3]
    · rw [if_neg h3, if_neg h3]
      by_cases h4 : q < off + k
      · rw [if_pos h4, if_pos (by omega), List.getElem?_take, List.getElem?_take, if_pos (by omega), if_pos (by omega)]
      · rw [if_neg h4, if_neg (by omega)]
end Go.Proofs.YtgegbpnmfpjdmaaGreatDoor
namespace Go.Proofs.YtgegbpnmfpjdmaaGreatDoor
open Go.RowKit
def qF (len i : Nat) : Nat := min (i * 52) len
def qN (len i : Nat) : Nat := min (qF len i + 52) len - qF len i
theorem part_list (zs : List Int) (len i : Nat) (h : zs.length = len) : (zs.drop (qF len i)).take (qN len i) = partB zs i := by
  unfold qN qF partB
  by_cases h1 : i * 52 ≤ len
  · rw [Nat.min_eq_left h1, Nat.mul_comm]
    by_cases h2 : 52 * i + 52 ≤ len
    · rw [Nat.min_eq_left h2]; congr 1; omega
    · rw [Nat.min_eq_right (by omega), List.take_of_length_le (by simp; omega), List.take_of_length_le (by simp; omega)]
  · rw [Nat.min_eq_right (by omega), List.drop_eq_nil_of_le (by omega), List.drop_eq_nil_of_le (by omega)]; simp
set_option maxRecDepth 8000 in
set_option maxHeartbeats 800000 in
theorem part_any (a : Option Addr) (len cap i : Nat) (hlc : len ≤ cap) (hl : len ≤ 1000000) (hi : i ≤ 1000) (w : World) :
    Calls Tryz.prog 95 #[.slice a len cap, .int .i64 (i : Int)] w fun e w' => e = .returned (sliced a (qF len i) (qF len i + qN len i) (qF len i + qN len i) 1) ∧ w' = w := by
  have h1 : ((qF len i : Nat) : Int) = min ((i : Int) * 52) (len : Int) := by unfold qF; omega
  have h2 : ((qF len i + qN len i : Nat) : Int) = min (((qF len i : Nat) : Int) + 52) (len : Int) := by unfold qN; have : qF len i ≤ len := by unfold qF; omega
                                                                                                        omega
  generalize qF len i = f at *
  generalize qN len i = n at *
  have hfn : f + n ≤ len := by omega
  rw [h1] at h2
  obtain ⟨v, hv⟩ : ∃ v, sliced a f (f + n) (f + n) 1 = v := ⟨_, rfl⟩
  rw [hv]
  have HV := Lib.hid hv
  clear hv
  by_cases c1 : (len : Int) < (i : Int) * 52
  · have h4 : (len : Int) < len + 52 := by omega
    obtain rfl : f = len := by omega
    obtain rfl : n = 0 := by omega
    clear h1 h2
    go_enter Tryz.func95, Tryz.ntmps95
    go_wp2
    go_ret
    exact ⟨by rw [← HV.out]; simp [sliced], rfl⟩
  · obtain rfl : f = i * 52 := by omega
    by_cases c2 : (len : Int) < (i : Int) * 52 + 52
    · obtain ⟨m, rfl⟩ : ∃ m, len = i * 52 + m := ⟨len - i * 52, by omega⟩
      obtain rfl : n = m := by omega
      clear h1 h2
      by_cases h0 : n = 0
      · subst h0
        go_enter Tryz.func95, Tryz.ntmps95
        go_wp2
        go_ret
        exact ⟨by rw [← HV.out]; simp [sliced], rfl⟩
      · go_enter Tryz.func95, Tryz.ntmps95
        go_wp2
        go_ret
        exact ⟨by rw [← HV.out]; simp [sliced, h0], rfl⟩
    · obtain rfl : n = 52 := by omega
      clear h1 h2
      go_enter Tryz.func95, Tryz.ntmps95
      go_wp2
      go_ret
      exact ⟨by rw [← HV.out]; simp [sliced], rfl⟩
theorem part_ri (v : Value) (len i : Nat) (zs : List Int) (hl : len ≤ 1000000) (hi : i ≤ 1000) (w : World) (h : RI .u8 w v len zs) :
    Calls Tryz.prog 95 #[v, .int .i64 (i : Int)] w fun e w' => ∃ v', e = .returned v' ∧ RI .u8 w v' (qN len i) (partB zs i) ∧ w' = w := by
  have hzl := h.length
  obtain ⟨a, cap, rfl, _, hc, _⟩ := id h
  refine (part_any a len cap i hc hl hi w).mono ?_
  rintro e w' ⟨rfl, rfl⟩
  refine ⟨_, rfl, ?_, rfl⟩
  have hfn : qF len i + qN len i ≤ len := by unfold qN; have : qF len i ≤ len := by unfold qF; omega
                                             omega
  have := h.cut (qF len i) (qN len i) (qF len i + qN len i) hfn (Nat.le_refl _) (by omega)
  rwa [part_list zs len i hzl] at this
end Go.Proofs.YtgegbpnmfpjdmaaGreatDoor
namespace Go.Proofs.YtgegbpnmfpjdmaaGreatDoor
open Go.RowKit
theorem rput_ri (x : Int) (hx : U64 x) (n : Nat) (hn : n ≤ 8) (w : World) :
    Calls Tryz.prog 122 #[.int .u64 x, .int .i64 n] w fun e w' => ∃ v, e = .returned v ∧ RI .u8 w' v n (putL x n) ∧ Below w.heap.size w w' :=
  (rput_any x n n hx (by unfold I63; omega) (by unfold clampI; omega) w).mono fun _ _ ⟨v, he, ho, hb⟩ => ⟨v, he, RI.own ho, hb⟩
theorem u64_wrap (i : Int) : IntKind.u64.wrap i = i % 18446744073709551616 := by
  simp [IntKind.wrap, IntKind.signed, IntKind.bits]
set_option maxRecDepth 8000 in
set_option maxHeartbeats 400000 in
theorem byte_any (x i : Int) (hx : U64 x) (hi : I63 i) (v : Value) (len : Nat) (zs : List Int) (w : World) (hri : RI .u8 w v len zs) (j : Nat) (hj : j < 64) (z : Int) (hz : (sealed x i zs).getD j 0 = z) :
    Calls Tryz.prog 125 #[.int .u64 x, .int .i64 i, v, .int .i64 j] w fun e w' => e = .returned (.int .u8 z) ∧ Below w.heap.size w w' := by
  have HR := Lib.hid hri
  have hlr := hri.le
  have hzl := hri.length
  obtain ⟨a, cap, rfl, _⟩ := hri
  have hi' : -9223372036854775808 ≤ i ∧ i ≤ 9223372036854775807 := hi
  by_cases h8 : j < 8
  · have HG := Lib.hid (hz.symm.trans (sealed_get1 x i zs j h8))
    have h8' : (j : Int) < 8 := by omega
    clear hz
    go_enter Tryz.func125, Tryz.ntmps125
    go_wp2_with (first
      | (go_at_call 122; (refine (rput_ri x hx 8 (by omega) _).mono ?_); rintro e w1 ⟨v1, rfl, hr, hb⟩; obtain ⟨b, off, cp, rfl, hcp, hcp2, hcell⟩ := hr.open_ (by omega); have hc1 := hcell j (by omega); rw [← HG.out] at hc1; have HB := Lib.hid hb; clear hb hr hcell))
    go_ret
    exact ⟨rfl, HB.out⟩
  by_cases h12 : j < 12
  · have HG := Lib.hid (hz.symm.trans (sealed_get2 x i zs j (by omega) h12))
    have h8' : ¬ (j : Int) < 8 := by omega
    have h12' : (j : Int) < 12 := by omega
    have hjj : (j : Int) - 8 = ((j - 8 : Nat) : Int) := by omega
    have hj4 : ((j - 8 : Nat) : Int) < 4 := by omega
    obtain ⟨y, hy⟩ : ∃ y, IntKind.u64.wrap i = y := ⟨_, rfl⟩
    have hyu : U64 y := by rw [u64_wrap] at hy; unfold U64; omega
    have HY := Lib.hid (show putL y 4 = putL i 4 from by rw [← hy, u64_wrap]; exact putL_wrap i)
    clear hz
    go_enter Tryz.func125, Tryz.ntmps125
    go_wp2_with (first
      | (go_at_call 122; go_loud (refine (rput_ri y hyu 4 (by omega) _).mono ?_); rintro e w1 ⟨v1, rfl, hr, hb⟩; obtain ⟨b, off, cp, rfl, hcp, hcp2, hcell⟩ := hr.open_ (by omega); have hc1 := hcell (j - 8) (by omega); rw [HY.out, ← HG.out] at hc1; have HB := Lib.hid hb; clear hb hr hcell))
    go_ret
    exact ⟨rfl, HB.out⟩
  · have HG := Lib.hid (hz.symm.trans (sealed_get3 x i zs j (by omega) hj))
    have h8' : ¬ (j : Int) < 8 := by omega
    have h12' : ¬ (j : Int) < 12 := by omega
    have hjj : (j : Int) - 12 = ((j - 12 : Nat) : Int) := by omega
    by_cases hlt : j - 12 < len
    · obtain ⟨b, off, cp, e, hcp, hcp2, hcell⟩ := HR.out.open_ (by omega)
      simp only [Value.slice.injEq, true_and] at e
      obtain ⟨rfl, rfl⟩ := e
      have hc1 := hcell (j - 12) hlt
      rw [← HG.out] at hc1
      have hlt' : ((j - 12 : Nat) : Int) < (len : Int) := by omega
      clear hcell hz
      go_enter Tryz.func125, Tryz.ntmps125
      go_wp2_with fail
      go_ret
      exact ⟨rfl, Below.refl _ _⟩
    · have HZ := Lib.hid (show zs.getD (j - 12) 0 = 0 from by simp [List.getD, List.getElem?_eq_none (l := zs) (i := j - 12) (by omega)])
      have hlt' : ¬ ((j - 12 : Nat) : Int) < (len : Int) := by omega
      clear hz
      go_enter Tryz.func125, Tryz.ntmps125
      go_wp2_with fail
      go_ret
      exact ⟨ret_int (by rw [HG.out, HZ.out]), Below.refl _ _⟩
structure TS (W : World) (l : List Int) (k : Nat) (w : World) : Prop where
  below : Below W.heap.size W w
  old : Blk w W.heap.size z64
  new : Blk w (W.heap.size + 1) (part l k)
theorem TS.keep {W w w' : World} {l : List Int} {k : Nat} (h : TS W l k w) (hb : Below w.heap.size w w') : TS W l k w' := ⟨chain h.below hb, h.old.keep hb, h.new.keep hb⟩
theorem TS.start (W : World) (l : List Int) : TS W l 0 ((W.alloc (.cells (sv z64) 60)).alloc (.cells (sv z64) 60)) := by
  have h0 := below_alloc W (.cells (sv z64) 60)
  have s0 := alloc_size W (.cells (sv z64) 60)
  have b0 := Blk.new W z64 z64_length
  generalize W.alloc (.cells (sv z64) 60) = w0 at *
  have h1 := below_alloc w0 (.cells (sv z64) 60)
  have b1 := Blk.new w0 z64 z64_length
  refine ⟨chain h0 h1, b0.keep h1, ?_⟩
  rw [s0] at b1
  rw [part_zero]; exact b1
theorem TS.stored {W w : World} {l : List Int} {k : Nat} (h : TS W l k w) (z : Int) (hz : l.getD k 0 = z) : TS W l (k + 1) (w.setCell ⟨W.heap.size + 1, k, none⟩ (.int .u8 z)) := by
  subst hz
  have hn := h.new.stored k (l.getD k 0)
  rw [part_set] at hn
  exact ⟨h.below.setCell (by show W.heap.size ≤ W.heap.size + 1; omega) _, h.old.apart (by omega) _ _, hn⟩
theorem TS.row0 {W w : World} {l : List Int} (h : TS W l 0 w) : TS W l 0 (w.setRow (W.heap.size + 1) (sv z64)) :=
  ⟨below_row h.below (by omega) _, h.old.row_apart (by omega) _, by rw [part_zero]; exact h.new.row z64_length⟩
theorem TS.last {W w : World} {l : List Int} (h : TS W l 64 w) (hl : l.length = 64) : Blk w (W.heap.size + 1) l := by
  have := h.new; rwa [part_all l hl] at this
set_option maxRecDepth 8000 in
set_option maxHeartbeats 1000000 in
theorem rseal_any (x i : Int) (hx : U64 x) (hi : I63 i) (v : Value) (len : Nat) (zs : List Int) (w : World) (hri : RI .u8 w v len zs) :
    Calls Tryz.prog 104 #[.int .u64 x, .int .i64 i, v] w fun e w' => e = .returned (.agg (sv (sealed x i zs))) ∧ Below w.heap.size w w' := by
  have HR := Lib.hid hri
  have HX := Lib.hid hx
  have HI := Lib.hid hi
  obtain ⟨l, hl⟩ : ∃ l, sealed x i zs = l := ⟨_, rfl⟩
  have HL := Lib.hid (show l.length = 64 from by rw [← hl]; exact sealed_length x i zs)
  have HE := Lib.hid hl
  rw [hl]
  have HS0 := Lib.hid (TS.start w l)
  have HZ := Lib.hid z64_cells
  clear hri hx hi hl
  go_enter Tryz.func104, Tryz.ntmps104
  go_wp2_with (first
    | (rw [← HZ.out]; refine wpList_store_row rfl 60 _ _ rfl (w.heap.size + 1) (sv z64) rfl rfl _ (sv z64) HS0.out.new.1 (sv_info _ z64_length) rfl (sv_one _) ?_))
  have HS1 := Lib.hid (TS.row0 HS0.out)
  go_loopw [8] (fun iv wr => ∃ k : Nat, iv = .int .i64 k ∧ k ≤ 64 ∧ Hid (TS w l k wr)) (fun iv _ => 64 - (intOf iv).toNat)
  case atStart => exact ⟨0, rfl, by omega, HS1⟩
  case round =>
    obtain ⟨k, rfl, hk, HS⟩ := hrel
    by_cases hlt : (k : Int) < 64
    · have hk2 : k < 64 := by omega
      obtain ⟨z, hz⟩ : ∃ z, l.getD k 0 = z := ⟨_, rfl⟩
      have HK := Lib.hid hz
      clear hz
      go_wp2_with (first
        | (go_at_call 125; (refine (byte_any x i HX.out HI.out v len zs _ (HR.out.keep HS.out.below) k hk2 z (by rw [HE.out]; exact HK.out)).mono ?_); rintro e w' ⟨rfl, hb⟩; have HS2 := Lib.hid (HS.out.keep hb); have hcell := HS2.out.new.cell k hk2; have hfr := HS2.out.new.frozen k; clear hb))
      go_roundw
      case rel => exact ⟨k + 1, by go_num, by omega, Lib.hid (HS2.out.stored z HK.out)⟩
      case measure => simp [intOf]; omega
    · have hk2 : k = 64 := by omega
      subst hk2
      have HS3 := Lib.hid (HS.out.last HL.out)
      go_wp2_with (first
        | (refine wpList_load_row rfl 60 _ rfl (w.heap.size + 1) rfl _ (sv l) (0, 0) _ HS3.out.1 Tryz.underlying60 rfl (sv_info _ HL.out) ?_)
        | (refine wpList_store_row rfl 60 _ _ rfl w.heap.size (sv l) rfl rfl _ (sv z64) HS.out.old.1 (sv_info _ HL.out) (by rw [sv_size, sv_size, HL.out, z64_length]) (sv_one _) ?_))
      refine bodyPost_ret_by (v := .agg (sv l)) (results_cell_row rfl _ _ w.heap.size _ (sv l) (0, 0) _ rfl (HS.out.old.row HL.out).1 Tryz.underlying60 rfl (sv_info _ HL.out)) rfl ⟨rfl, below_row HS.out.below (Nat.le_refl _) _⟩
end Go.Proofs.YtgegbpnmfpjdmaaGreatDoor
namespace Go.Proofs.YtgegbpnmfpjdmaaGreatDoor
open Go.RowKit
theorem put_ri (x : Int) (n : Nat) (hn : n ≤ 8) (w : World) :
    Calls Tryz.prog 115 #[.int .u64 x, .int .i64 n] w fun e w' => e = .returned (.slice (some ⟨w.heap.size, 0, none⟩) n n) ∧ RI .u8 w' (.slice (some ⟨w.heap.size, 0, none⟩) n n) n (putL x n) ∧ Below w.heap.size w w' :=
  (put_any x n n (by unfold I63; omega) (by unfold clampI; omega) w).mono fun _ _ ⟨he, ho, hb⟩ => ⟨he, RI.own ho, hb⟩
structure TE (W : World) (l : List Int) (rm : Value) (len : Nat) (zs : List Int) (w : World) : Prop where
  below : Below W.heap.size W w
  old : Blk w W.heap.size z64
  new : Blk w (W.heap.size + 1) l
  arg : RI .u8 w rm len zs
theorem TE.next {W w w' : World} {l : List Int} {rm : Value} {len : Nat} {zs : List Int} (h : TE W l rm len zs w) (hb : Below w.heap.size w w') : TE W l rm len zs w' := ⟨chain h.below hb, h.old.keep hb, h.new.keep hb, h.arg.keep hb⟩
theorem TE.copied {W w w' : World} {l l' : List Int} {rm : Value} {len : Nat} {zs : List Int} (h : TE W l rm len zs w) (hr : RI .u8 W rm len zs) (hk : Blk w' (W.heap.size + 1) l') (hb : Below (W.heap.size + 1) w w') : TE W l' rm len zs w' := by
  have h1 : Below W.heap.size W w' := h.below.trans (hb.mono (by omega))
  exact ⟨h1, h.old.keepB hb (by omega), hk, hr.keep h1⟩
set_option maxRecDepth 8000 in
set_option maxHeartbeats 1000000 in
theorem seal_any (x i : Int) (_hx : U64 x) (hi : I63 i) (v : Value) (len : Nat) (zs : List Int) (w : World) (hri : RI .u8 w v len zs) :
    Calls Tryz.prog 94 #[.int .u64 x, .int .i64 i, v] w fun e w' => e = .returned (.agg (sv (sealed x i zs))) ∧ Below w.heap.size w w' := by
  have HR := Lib.hid hri
  have hi' : -9223372036854775808 ≤ i ∧ i ≤ 9223372036854775807 := hi
  obtain ⟨a, c, rfl, hzl, _⟩ : ∃ a c, v = .slice a len c ∧ zs.length = len ∧ True := by obtain ⟨a, c, e, h, _⟩ := hri; exact ⟨a, c, e, h, trivial⟩
  obtain ⟨y, hy⟩ : ∃ y, IntKind.u64.wrap i = y := ⟨_, rfl⟩
  have HY := Lib.hid (show putL y 4 = putL i 4 from by rw [← hy, u64_wrap]; exact putL_wrap i)
  have HT0 : Hid (TE w z64 (.slice a len c) len zs ((w.alloc (.cells (sv z64) 60)).alloc (.cells (sv z64) 60))) := by
    have h := TS.start w (List.replicate 64 0)
    exact ⟨h.below, h.old, by have := h.new; rwa [part_zero] at this, hri.keep h.below⟩
  have HSP := Lib.hid (sealed_splice x i zs)
  have HSL := Lib.hid (sealed_length x i zs)
  rw [hzl] at HSP
  have HZ := Lib.hid z64_cells
  clear hri hzl
  go_enter Tryz.func94, Tryz.ntmps94
  go_wp2
  rw [← HZ.out]
  refine wp_region_held_drew (S := (fun w' => Below w.heap.size w w')) (by kernel_rfl) (HT0.out.below.drew) (fun hS => ?_)
  refine rgw 0 ⟨some 8, .slice 60 (.tmp 7) none (some (.const (.int .i64 8))) none, 43, _, _, none⟩ hS ?_
  refine rgw 1 ⟨some 9, .move (.tmp 0), 22, _, _, none⟩ hS ?_
  refine rg_one 2 ⟨some 10, .call { callee := .value (.func 115), args := #[.tmp 9, .const (.int .i64 8)], argTypes := #[22, 3] }, 43, _, _, none⟩ (by kernel_rfl) rfl (fun K hK => ?_)
  go_simp
  (go_at_call 115; (refine (put_ri x 8 (by omega) _).mono ?_); rintro e w2 ⟨rfl, hr2, hb⟩; have HT2 := Lib.hid ((HT0.out.next ((Below.refl _ _).drew)).next hb); have hN := HT2.out.below)
  refine hK.out _ _ ?_ (fun hS1 => ?_)
  · (exact hN)
  clear hK K hS; have hS := hS1; clear hS1
  (try simp only [rgp])
  refine rg_one 3 ⟨some 11, .call { callee := .builtin Builtin.copy, args := #[.tmp 8, .tmp 10], argTypes := #[43, 43] }, 3, _, _, none⟩ (by kernel_rfl) rfl (fun K hK => ?_)
  refine step_copy_sec rfl (.tmp 8) (.tmp 10) rfl (w.heap.size + 1) 0 8 64 z64 HT2.out.new rfl _ 8 (putL x 8) rfl hr2 (by omega) ?_; intro w3 HK3 hb3; rw [show (putL x 8).take (min 8 8) = putL x 8 from List.take_of_length_le (by rw [putL_length]; omega)] at HK3; have HT3 := Lib.hid (HT2.out.copied HR.out HK3.out hb3); clear hN; have hN := HT3.out.below
  refine hK.out _ _ ?_ (fun hS1 => ?_)
  · (exact hN)
  clear hK K hS; have hS := hS1; clear hS1
  (try simp only [rgp])
  refine wpAnyH_done (by kernel_rfl) ?_ _
  clear hS hb3 hb hr2 HT2 HK3 hN
  go_wp2
  refine wp_region_held_drew (S := (fun w' => Below w.heap.size w w')) (by kernel_rfl) (HT3.out.below.drew) (fun hS => ?_)
  refine rgw 0 ⟨some 12, .slice 60 (.tmp 7) (some (.const (.int .i64 8))) (some (.const (.int .i64 12))) none, 43, _, _, none⟩ hS ?_
  refine rgw 1 ⟨some 13, .move (.tmp 1), 3, _, _, none⟩ hS ?_
  refine rgw 2 ⟨some 14, .convert 3 22 (.tmp 13), 22, _, _, none⟩ hS ?_
  refine rg_one 3 ⟨some 15, .call { callee := .value (.func 115), args := #[.tmp 14, .const (.int .i64 4)], argTypes := #[22, 3] }, 43, _, _, none⟩ (by kernel_rfl) rfl (fun K hK => ?_)
  go_simp
  (go_at_call 115; (refine (put_ri y 4 (by omega) _).mono ?_); rintro e w4 ⟨rfl, hr4, hb⟩; rw [HY.out] at hr4; have HT4 := Lib.hid ((HT3.out.next ((Below.refl _ _).drew)).next hb); have hN := HT4.out.below)
  refine hK.out _ _ ?_ (fun hS1 => ?_)
  · (exact hN)
  clear hK K hS; have hS := hS1; clear hS1
  (try simp only [rgp])
  refine rg_one 4 ⟨some 16, .call { callee := .builtin Builtin.copy, args := #[.tmp 12, .tmp 15], argTypes := #[43, 43] }, 3, _, _, none⟩ (by kernel_rfl) rfl (fun K hK => ?_)
  refine step_copy_sec rfl (.tmp 12) (.tmp 15) rfl (w.heap.size + 1) 8 4 56 _ HT4.out.new rfl _ 4 (putL i 4) rfl hr4 (by omega) ?_; intro w5 HK5 hb5; rw [show (putL i 4).take (min 4 4) = putL i 4 from List.take_of_length_le (by rw [putL_length]; omega)] at HK5; have HT5 := Lib.hid (HT4.out.copied HR.out HK5.out hb5); clear hN; have hN := HT5.out.below
  refine hK.out _ _ ?_ (fun hS1 => ?_)
  · (exact hN)
  clear hK K hS; have hS := hS1; clear hS1
  (try simp only [rgp])
  refine wpAnyH_done (by kernel_rfl) ?_ _
  clear hS hb5 hb hr4 HT4 HK5 hN
  go_wp2_with (first
    | ((refine wpl_copy_sec rfl (.tmp 17) (.tmp 18) rfl (w.heap.size + 1) 12 52 52 _ HT5.out.new rfl _ len zs rfl HT5.out.arg (by omega) ?_; intro w6 HK6 hb6; rw [show z64 = List.replicate 64 0 from rfl, HSP.out] at HK6; have HT6 := Lib.hid (HT5.out.copied HR.out HK6.out hb6); clear hb6))
    | (refine wpList_load_row rfl 60 _ rfl (w.heap.size + 1) rfl _ (sv (sealed x i zs)) (0, 0) _ HT6.out.new.1 Tryz.underlying60 rfl (sv_info _ HSL.out) ?_)
    | (refine wpList_store_row rfl 60 _ _ rfl w.heap.size (sv (sealed x i zs)) rfl rfl _ (sv z64) HT6.out.old.1 (sv_info _ HSL.out) (by rw [sv_size, sv_size, HSL.out, z64_length]) (sv_one _) ?_))
  refine bodyPost_ret_by (v := .agg (sv (sealed x i zs))) (results_cell_row rfl _ _ w.heap.size _ (sv (sealed x i zs)) (0, 0) _ rfl (HT6.out.old.row HSL.out).1 Tryz.underlying60 rfl (sv_info _ HSL.out)) rfl ⟨rfl, below_row HT6.out.below (Nat.le_refl _) _⟩
end Go.Proofs.YtgegbpnmfpjdmaaGreatDoor
namespace Go.Proofs.YtgegbpnmfpjdmaaGreatDoor
open Go.RowKit
theorem wpl_make_row {w : World} {ops : Array Oper} {rest : List Oper} {o : Oper} {a : Act} {Q : Exit → Act → World → Prop} (hgd : o.guard = none) (x y : Operand) (ho : o.op = Op.makeSlice 48 x y) (n : Nat) (hx : a.eval x = .int .i64 (n : Int)) (hy : a.eval y = .int .i64 (n : Int)) (hn : n ≤ 1000000)
    (h : ∀ g w', Hid (RW w' g (List.replicate (n * 64) 0)) → Hid (w.heap.size ≤ g) → Hid (Below w.heap.size w w') → wpList Tryz.prog ops Q rest (a.put o.dst (.slice (some ⟨g, 0, none⟩) n n)) w') : wpList Tryz.prog ops Q (o :: rest) a w := by
  refine wpList_plain hgd fun K hK => ?_
  have hrun := make_row_run n (by omega) w
  unfold Oper.wp
  simp [execOp, ho, hx, hy, hrun, Result.andThen]
  exact hK _ _ (h _ _ (heap_alloc_last w _) (Nat.le_refl _) (below_alloc w _))
set_option maxRecDepth 8000 in
set_option maxHeartbeats 1000000 in
theorem write_new (x : Int) (hx : U64 x) (v : Value) (len : Nat) (zs : List Int) (hlen : len ≤ 1000000) (f t : Int) (hf : I63 f) (ht : I63 t) (w : World) (h : RI .u8 w v len zs) (a d : Nat) (ha : (touchN (nr f) (nr t)).1 = a) (hd : (touchN (nr f) (nr t)).2 - a = d) :
    Calls Tryz.prog 68 #[.int .u64 x, v, .int .i64 f, .int .i64 t] w fun e w' => ∃ g, e = .returned (.tuple #[.int .i64 (a : Int), .slice (some ⟨g, 0, none⟩) d d]) ∧
      RW w' g (writeB x zs a d) ∧ w.heap.size ≤ g ∧ Below w.heap.size w w' := by
  have HT : Hid (∀ w : World, Calls Tryz.prog 93 #[.int .i64 f, .int .i64 t] w fun e w' => e = .returned (.tuple #[.int .i64 ((touchN (nr f) (nr t)).1 : Int), .int .i64 ((touchN (nr f) (nr t)).2 : Int)]) ∧ Below w.heap.size w w') := fun w => touch_any f t hf ht w
  obtain ⟨hab, hb16, h0⟩ := touch_le (nr f) (nr t) (nr_le t)
  clear h0
  rw [ha] at HT hab
  generalize (touchN (nr f) (nr t)).2 = b at *
  clear ha
  have hdb : (b : Int) - (a : Int) = (d : Int) := by omega
  have hd16 : d ≤ 16 := by omega
  have ha16 : a + d ≤ 16 := by omega
  have HR := Lib.hid h
  have HX := Lib.hid hx
  clear h hx hf ht hd hab hb16
  go_enter Tryz.func68, Tryz.ntmps68
  go_wp2_with (first
    | (go_at_call 93; (with_reducible refine (HT.out _).mono ?_); rintro e w1 ⟨rfl, hb⟩; have HB1 := Lib.hid hb; clear hb)
    | (refine wpl_make_row rfl _ _ rfl d rfl rfl (by omega) ?_; intro g w2 HW0 HG hb; have HG := Lib.hid (Nat.le_trans HB1.out.size HG.out); have HB0 := Lib.hid (bch HB1.out hb.out); clear hb))
  have HWZ : Hid (RW w2 g (rowAt x zs a d 0)) := Lib.hid (by rw [rowAt_zero]; exact HW0.out)
  clear HW0
  go_wp2
  go_loopw [27] (fun iv wr => ∃ k : Nat, iv = .int .i64 k ∧ k ≤ d ∧ Hid (RW wr g (rowAt x zs a d k)) ∧ Hid (Below w.heap.size w wr)) (fun iv _ => d - (intOf iv).toNat)
  case atStart => exact ⟨0, rfl, by omega, HWZ, HB0⟩
  case round =>
    obtain ⟨k, rfl, hk, HW, HB⟩ := hrel
    by_cases hlt : (k : Int) < (d : Int)
    · obtain ⟨q, hq⟩ : ∃ q : Nat, a + k = q := ⟨_, rfl⟩
      have hqi : (a : Int) + (k : Int) = (q : Int) := by omega
      have hq16 : q ≤ 16 := by omega
      obtain ⟨l, hl⟩ : ∃ l, sealed x (q : Int) (partB zs q) = l := ⟨_, rfl⟩
      have HLL := Lib.hid (show l.length = 64 from by rw [← hl]; exact sealed_length _ _ _)
      have HRL := Lib.hid (rowAt_length x zs a d k hk)
      have HNX := Lib.hid (rowAt_next x zs a d k (by omega))
      rw [hq, hl] at HNX
      have HS : Hid (∀ (v : Value) (n : Nat) (w : World), RI .u8 w v n (partB zs q) → Calls Tryz.prog 94 #[.int .u64 x, .int .i64 (q : Int), v] w fun e w' => e = .returned (.agg (sv l)) ∧ Below w.heap.size w w') := fun v n w h => by
        rw [← hl]; exact seal_any x q HX.out (by unfold I63; omega) v n _ w h
      have HR1 := Lib.hid (HR.out.keep HB.out)
      clear hl hq
      go_wp2_with (first
        | (go_at_call 95; (with_reducible refine (part_ri v len q zs hlen (by omega) _ HR1.out).mono ?_); rintro e w3 ⟨v3, rfl, hr, rfl⟩; have HR3 := Lib.hid hr; clear hr)
        | (go_at_call 94; (with_reducible refine (HS.out _ _ _ HR3.out).mono ?_); rintro e w4 ⟨rfl, hb⟩; have HW4 := Lib.hid (HW.out.keep hb); have HB4 := Lib.hid (bch HB.out hb); clear hb)
        | (refine wpl_put_row rfl _ _ rfl g d k _ l HW4.out HRL.out (by omega) HLL.out (k * 64) rfl rfl rfl ?_; intro w5 HW5 hg5; have HW5 := Lib.hid (HNX.out ▸ HW5.out); have HB5 := Lib.hid (below_grown HB4.out hg5.out HG.out HB4.out.size); clear hg5))
      go_roundw
      case rel => exact ⟨k + 1, by simp, by omega, HW5, HB5⟩
      case measure => simp [intOf]; omega
    · obtain rfl : k = d := by omega
      go_wp2
      go_ret2
      have h1 := HW.out
      rw [rowAt_end] at h1
      exact ⟨g, rfl, h1, HG.out, HB.out⟩
end Go.Proofs.YtgegbpnmfpjdmaaGreatDoor
namespace Go.Proofs.YtgegbpnmfpjdmaaGreatDoor
open Go.RowKit
def hv (h : Hdr) : Array Value := (Value.int .u64 h.e :: Value.int .i64 h.s :: Value.int .i64 h.f :: il .i64 h.l).toArray
def lv (l : List Int) : Array Value := (il .i64 l).toArray
theorem hv_size {h : Hdr} (hn : h.l.length = 4) : (hv h).size = 7 := by simp [hv, il_length, hn]
theorem hv_one (h : Hdr) : (hv h).all (·.oneCell') = true := all_oneCell_toArray (fun u hu => by
  simp only [List.mem_cons] at hu
  rcases hu with rfl | rfl | rfl | hu
  · rfl
  · rfl
  · rfl
  · exact il_one _ _ u hu)
theorem hd_info (c : Array Value) (h : c.size = 7) : (Tryz.prog.info? 30).map (·.size) = some c.size := by rw [h]; kernel_rfl
theorem hv_info {h : Hdr} (hn : h.l.length = 4) : (Tryz.prog.info? 30).map (·.size) = some (hv h).size := hd_info _ (hv_size hn)
theorem hv_get {h : Hdr} (i : Nat) (hi : i < h.l.length) : (hv h)[3 + i]? = some (.int .i64 (h.l.getD i 0)) := by
  have := il_get .i64 h.l i hi
  rw [Nat.add_comm]
  simpa [hv] using this
def HB (w : World) (b : Nat) (h : Hdr) : Prop := w.heap[b]? = some (.cells (hv h) 30 (0, 0)) ∧ h.l.length = 4
section
variable {w w' : World} {b b' : Nat} {h h' : Hdr}
theorem HB.lt (k : HB w b h) : b < w.heap.size := (Array.getElem?_eq_some_iff.1 k.1).1
theorem HB.keep (k : HB w b h) (hb : Below w.heap.size w w') : HB w' b h := ⟨(hb.block b k.lt).trans k.1, k.2⟩
theorem HB.keepB {g : Nat} (k : HB w b h) (hb : Below g w w') (hlt : b < g) : HB w' b h := ⟨(hb.block b hlt).trans k.1, k.2⟩
theorem HB.load (k : HB w b h) : (loadVar 30 ⟨b, 0, none⟩).run Tryz.prog w = .ok (.agg (hv h)) w :=
  run_loadVar_row w b _ 30 (hv h) (0, 0) _ k.1 Tryz.underlying30 rfl (hv_info k.2)
theorem HB.new (w : World) (h : Hdr) (hn : h.l.length = 4) : HB (w.alloc (.cells (hv h) 30)) w.heap.size h := ⟨heap_alloc_last w _, hn⟩
theorem HB.row (k : HB w b h) (hn : h'.l.length = 4) : HB (w.setRow b (hv h')) b h' := ⟨setRow_heap w b _ _ _ _ k.1, hn⟩
theorem HB.apart (k : HB w b h) (hne : b ≠ b') (x : Array Value) : HB (w.setRow b' x) b h := ⟨(setRow_other w b' b x hne).trans k.1, k.2⟩
theorem HB.set_apart (k : HB w b h) (hne : b ≠ b') (j : Nat) (x : Value) : HB (w.setCell ⟨b', j, none⟩ x) b h := ⟨(heap_setCell_other w ⟨b', j, none⟩ b x hne).trans k.1, k.2⟩
theorem HB.frozen (k : HB w b h) (j : Nat) : w.frozen? ⟨b, j, none⟩ = false := Joins.unfrozen_of_block k.1 j
theorem HB.cells (k : HB w b h) : w.cell? ⟨b, 0, none⟩ = some (.int .u64 h.e) ∧ w.cell? ⟨b, 1, none⟩ = some (.int .i64 h.s) ∧ w.cell? ⟨b, 2, none⟩ = some (.int .i64 h.f) :=
  ⟨cell_of_row w b 0 _ _ _ k.1, cell_of_row w b 1 _ _ _ k.1, cell_of_row w b 2 _ _ _ k.1⟩
theorem HB.head (k : HB w b h) (i : Nat) (hi : i < 4) : w.cell? ⟨b, 3 + i, none⟩ = some (.int .i64 (h.l.getD i 0)) := by
  rw [cell_of_row w b (3 + i) _ _ _ k.1, hv_get i (by rw [k.2]; exact hi)]
theorem hv_set (h : Hdr) (i : Nat) (x : Int) : (hv h).setIfInBounds (3 + i) (.int .i64 x) = hv ⟨h.e, h.s, h.f, h.l.set i x⟩ := by
  unfold hv
  rw [← il_set, Nat.add_comm]
  simp
theorem HB.stored (k : HB w b h) (i : Nat) (x : Int) : HB (w.setCell ⟨b, 3 + i, none⟩ (.int .i64 x)) b ⟨h.e, h.s, h.f, h.l.set i x⟩ :=
  ⟨by rw [← hv_set]; exact Joins.block_setCell k.1 _, by simpa using k.2⟩
theorem HB.load4 (k : HB w b h) : (loadVar 28 ⟨b, 3, none⟩).run Tryz.prog w = .ok (.agg (lv h.l)) w := by
  have hl : (loadCells ⟨b, 3, none⟩ (il .i64 h.l).length).run Tryz.prog w = .ok (il .i64 h.l).toArray w :=
    run_loadCells_list (P := Tryz.prog) w ⟨b, 3, none⟩ (il .i64 h.l) (fun j v hv => by
      have hadd : (⟨b, 3, none⟩ : Addr).add j = ⟨b, 3 + j, none⟩ := by unfold Addr.add; split <;> simp_all
      have hj : j < h.l.length := by have := (List.getElem?_eq_some_iff.1 hv).1; rwa [il_length] at this
      rw [il_get _ _ _ hj] at hv
      rw [hadd, k.head j (by rw [← k.2]; exact hj)]
      exact hv)
  have hi : (Tryz.prog.info? 28).map (·.size) = some 4 := by kernel_rfl
  cases hq : Tryz.prog.info? 28 with
  | none => simp [hq] at hi
  | some i =>
    have hs : i.size = 4 := by simpa [hq] using hi
    have hagg : (isAgg 28).run Tryz.prog w = .ok true w := by
      unfold isAgg
      rw [Sem.run_bind, run_underlying Tryz.underlying28 w]
      rfl
    rw [il_length, k.2] at hl
    simp [loadVar, Sem.run_bind, hagg, sizeOf, typeInfo, hq, hs, hl, lv]
section
variable {o : Oper} {a : Act} {ops : Array Oper} {rest : List Oper} {Q : Exit → Act → World → Prop}
theorem exec_load_hd (x : Operand) (ho : o.op = .load 30 x) (hx : a.eval x = .pointer (some ⟨b, 0, none⟩)) (k : HB w b h) :
    (execOp a.eval o).run Tryz.prog w = .ok (.value (.agg (hv h))) w := by
  unfold execOp
  simp only [ho, hx, Instr.loadAt, Instr.sureAddr, Sem.run_bind, Sem.run_pure, Result.andThen_ok, k.load]
theorem exec_load_l4 (x : Operand) (ho : o.op = .load 28 x) (hx : a.eval x = .pointer (some ⟨b, 3, none⟩)) (k : HB w b h) :
    (execOp a.eval o).run Tryz.prog w = .ok (.value (.agg (lv h.l))) w := by
  unfold execOp
  simp only [ho, hx, Instr.loadAt, Instr.sureAddr, Sem.run_bind, Sem.run_pure, Result.andThen_ok, k.load4]
theorem wpl_load_hd (hw : Region.wanted o (yielded ops a.tmps) = true) (x : Operand) (ho : o.op = .load 30 x) (hx : a.eval x = .pointer (some ⟨b, 0, none⟩)) (k : HB w b h)
    (hk : wpList Tryz.prog ops Q rest (a.put o.dst (.agg (hv h))) w) : wpList Tryz.prog ops Q (o :: rest) a w := by
  unfold wpList
  rw [if_pos hw]
  exact Or.inl (wp_load_row 30 x ho b hx _ (hv h) (0, 0) _ k.1 Tryz.underlying30 rfl (hv_info k.2) hk)
theorem wpl_valh (hw : o.guard = none) {v : Value} (he : (execOp a.eval o).run Tryz.prog w = .ok (.value v) w) (hk : wpList Tryz.prog ops Q rest (a.put o.dst v) w) : wpList Tryz.prog ops Q (o :: rest) a w := by
  refine wpList_plain hw fun K hK => ?_
  unfold Oper.wp
  rw [he]
  simp only [Oper.upon]
  exact hK _ _ hk
theorem wpl_load_l4 (hg : o.guard = none) (x : Operand) (ho : o.op = .load 28 x) (hx : a.eval x = .pointer (some ⟨b, 3, none⟩)) (k : HB w b h)
    (hk : wpList Tryz.prog ops Q rest (a.put o.dst (.agg (lv h.l))) w) : wpList Tryz.prog ops Q (o :: rest) a w :=
  wpl_valh hg (exec_load_l4 x ho hx k) hk
theorem index_l4 (l : List Int) (hn : l.length = 4) (i : Nat) (hi : i < 4) (w : World) : (Instr.index 28 (.agg (lv l)) (.int .i64 i)).run Tryz.prog w = .ok (.int .i64 (l.getD i 0)) w := by
  have hg : (lv l)[i]? = some (.int .i64 (l.getD i 0)) := by have := il_get .i64 l i (by omega); simpa [lv] using this
  have hp := run_part_plain (P := Tryz.prog) (w := w) (e := 3) (by kernel_rfl) hg
  have hk : (0 : Int) ≤ i ∧ (i : Int) < (4 : Nat) := by omega
  have hs : (sizeOf 3).run Tryz.prog w = .ok 1 w := by
    have : (Tryz.prog.info? 3).map (·.size) = some 1 := by kernel_rfl
    cases hq : Tryz.prog.info? 3 with
    | none => simp [hq] at this
    | some i => simp [hq] at this; simp [sizeOf, typeInfo, hq, this]
  simp [Instr.index, run_underlying Tryz.underlying28, asIntOf, hk, Sem.run_bind, hs, hp]
  omega
end
end
end Go.Proofs.YtgegbpnmfpjdmaaGreatDoor
namespace Go.Proofs.YtgegbpnmfpjdmaaGreatDoor
open Go.RowKit
theorem hgrown_row (w : World) (g : Nat) (cs : Array Value) : w.grownBy (w.setRow g cs) (some g) :=
  ⟨rfl, rfl, rfl, by simp, fun i _ hne => setRow_other w g i cs (fun e => hne (by rw [e]))⟩
theorem hgrown_trans {a b c : World} {row : Option Nat} (h : a.grownBy b row) (k : b.grownBy c row) : a.grownBy c row :=
  ⟨k.os.trans h.os, k.tape.trans h.tape, k.output.trans h.output, Nat.le_trans h.size k.size, fun i hi hne => (k.block i (Nat.lt_of_lt_of_le hi h.size) hne).trans (h.block i hi hne)⟩
theorem hgrown_refl (w : World) (row : Option Nat) : w.grownBy w row := ⟨rfl, rfl, rfl, Nat.le_refl _, fun _ _ _ => rfl⟩
theorem splice_nul {α : Type} (L : List α) (off : Nat) : splice L off [] = L := by simp [splice]
theorem splice_more {α : Type} (L : List α) (off : Nat) (a b : List α) (h : off + a.length ≤ L.length) : splice (splice L off a) (off + a.length) b = splice L off (a ++ b) := by
  unfold splice
  have e1 : (L.take off ++ (a ++ L.drop (off + a.length))).take (off + a.length) = L.take off ++ a := by
    rw [← List.append_assoc, List.take_left' (by simp; omega)]
  have e2 : (L.take off ++ (a ++ L.drop (off + a.length))).drop (off + a.length + b.length) = L.drop (off + (a ++ b).length) := by
    rw [← List.append_assoc, ← List.drop_drop, List.drop_left' (by simp; omega), List.drop_drop]
    congr 1; simp; omega
  rw [e1, e2, List.append_assoc, List.append_assoc]
theorem wpl_copy_blk {ops : Array Oper} {rest : List Oper} {o : Oper} {a : Act} {w : World} {Q : Exit → Act → World → Prop} (hgd : o.guard = none) (d s : Operand)
    (ho : o.op = .call { callee := .builtin .copy, args := #[d, s], argTypes := #[43, 43] }) (g off dLen dCap : Nat) (cur : List Int) (hblk : Blk w g cur)
    (hd : a.eval d = .slice (some ⟨g, off, none⟩) dLen dCap) (v : Value) (n : Nat) (zs : List Int) (hs : a.eval s = v) (hri : RI .u8 w v n zs) (h0 : 0 < n) (hnd : n ≤ dLen) (hfit : off + dLen ≤ 64)
    (h : ∀ w', Hid (Blk w' g (splice cur off zs)) → Hid (w.grownBy w' (some g)) → wpList Tryz.prog ops Q rest (a.put o.dst (goInt (n : Int))) w') : wpList Tryz.prog ops Q (o :: rest) a w := by
  obtain ⟨sp, sCap, rfl, hl, _, _, _, hc⟩ := hri
  have hcl : (il .u8 zs).length = n := by rw [il_length, hl]
  have hmin : Nat.min n dLen = n := Nat.min_eq_left hnd
  obtain ⟨b, of2, rfl, hcell⟩ := hc (by omega)
  refine wpList_copy_own hgd d s 43 43 ho 5 Tryz.underlying43 u8_size1 g off dLen dCap ⟨b, of2, none⟩ n sCap hd hs (il .u8 cur).toArray 60 hblk.1 (il .u8 zs) (by rw [hcl, hmin]) ?_ (by rw [hcl]; simp [il_length, hblk.2]; omega) (il_one _ _) ?_
  · intro j u hj
    have hjl : j < zs.length := by have := (List.getElem?_eq_some_iff.1 hj).1; rwa [il_length] at this
    rw [il_get _ _ _ hjl] at hj
    rw [Addr.add_mid, hcell j (by omega)]
    exact hj
  · rw [hcl]
    refine h _ (Lib.hid ⟨?_, ?_⟩) (Lib.hid (hgrown_row _ _ _))
    · unfold sv
      rw [← il_splice]
      have := setRow_heap w g (sv cur) ((il .u8 cur).toArray.toList.take off ++ (il .u8 zs ++ (il .u8 cur).toArray.toList.drop (off + n))).toArray _ _ hblk.1
      simpa [splice, hcl] using this
    · rw [length_splice _ _ _ (by rw [hblk.2]; omega)]; exact hblk.2
theorem getD_memH {α : Type} {l : List α} {k : Nat} {d : α} (h : k < l.length) : l.getD k d ∈ l := by
  simp [List.getD, h]
def ups (ls : List (List Int)) (i : Nat) : List Int := (ls.take i).flatten
theorem ups_zero (ls : List (List Int)) : ups ls 0 = [] := rfl
theorem ups_succ (ls : List (List Int)) (i : Nat) (hi : i < ls.length) : ups ls (i + 1) = ups ls i ++ ls.getD i [] := by
  unfold ups
  rw [List.take_succ_eq_append_getElem hi, List.flatten_append]
  congr 1
  simp [List.getD, hi]
theorem ups_all (ls : List (List Int)) : ups ls ls.length = ls.flatten := by unfold ups; rw [List.take_length]
theorem ups_le (ls : List (List Int)) (i : Nat) : (ups ls i).length ≤ ls.flatten.length := by
  unfold ups
  have := congrArg List.length (congrArg List.flatten (List.take_append_drop i ls))
  rw [List.flatten_append, List.length_append] at this
  omega
set_option maxRecDepth 8000 in
set_option maxHeartbeats 1000000 in
theorem hput_any (g at_ n : Nat) (l : List Int) (ls : List (List Int)) (v : Value) (w : World) (hblk : Blk w g l) (hls : ∀ w', w.grownBy w' (some g) → RL .u8 w' v n ls) (hne : ∀ x ∈ ls, 0 < x.length) (hfit : at_ + ls.flatten.length ≤ 64) :
    Calls Tryz.prog 127 #[.pointer (some ⟨g, 0, none⟩), .int .i64 at_, v] w fun e w' => e = .returned (.tuple #[]) ∧ Blk w' g (splice l at_ ls.flatten) ∧ w.grownBy w' (some g) := by
  obtain ⟨a, cap, rfl, hcap, hcap2, _⟩ := (hls w (hgrown_refl _ _)).form
  have hn := (hls w (hgrown_refl _ _)).length
  have HN := Lib.hid hn
  have HE := Lib.hid hne
  have HL := Lib.hid hls
  have HBK := Lib.hid hblk
  have HFIT := Lib.hid hfit
  have hn9 : (n : Int) ≤ 9223372036854775807 := by omega
  have hat : at_ ≤ 64 := by omega
  clear hblk hls hne hfit hn
  go_enter Tryz.func127, Tryz.ntmps127
  go_wp2
  go_loopw [1, 10] (fun x iv wr => ∃ i p : Nat, iv = .int .i64 i ∧ x = .int .i64 p ∧ i ≤ n ∧ Hid (at_ + (ups ls i).length = p) ∧ Hid (Blk wr g (splice l at_ (ups ls i))) ∧ Hid (w.grownBy wr (some g))) (fun _ iv _ => n - (intOf iv).toNat)
  case atStart => exact ⟨0, at_, rfl, rfl, by omega, Lib.hid (by rw [ups_zero]; rfl), Lib.hid (by rw [ups_zero, splice_nul]; exact HBK.out), Lib.hid (hgrown_refl _ _)⟩
  case round =>
    obtain ⟨i, p, rfl, rfl, hi, HP, HB1, HG⟩ := hrel
    by_cases hlt : i < n
    · obtain ⟨b, off, rfl, hel⟩ := (HL.out wr HG.out).at_ (by omega)
      obtain ⟨x, c, hcell, hr⟩ := hel i hlt
      obtain ⟨m, hm⟩ : ∃ m, (ls.getD i []).length = m := ⟨_, rfl⟩
      rw [hm] at hcell hr
      have HR1 := Lib.hid hr
      have HU := Lib.hid (ups_succ ls i (by rw [HN.out]; exact hlt))
      have HM := Lib.hid hm
      have HM0 := Lib.hid (show 0 < m from by rw [← hm]; exact HE.out _ (getD_memH (by rw [HN.out]; exact hlt)))
      have HLE := Lib.hid (ups_le ls (i + 1))
      have hp64 : p + m ≤ 64 := by
        have h1 := HLE.out
        rw [HU.out, List.length_append] at h1
        have := HP.out; have := HFIT.out; omega
      have hp : p < 64 := by have := HM0.out; omega
      have hlt2 : (i : Int) < (n : Int) := by omega
      have hpi : (p : Int) ≤ 64 := by omega
      have hpm : (p : Int) + (m : Int) ≤ 64 := by omega
      clear hr hm hel
      go_wp2_with (first
        | (refine wpl_copy_blk rfl (.tmp 18) (.tmp 19) rfl g p (64 - p) (64 - p) _ HB1.out rfl _ m (ls.getD i []) rfl HR1.out HM0.out (by omega) (by omega) ?_; intro w2 HB2 HG2))
      go_roundw
      case rel =>
        refine ⟨i + 1, p + m, by go_num, by go_num, by omega, Lib.hid ?_, ?_, Lib.hid (hgrown_trans HG.out HG2.out)⟩
        · rw [HU.out, List.length_append, HM.out]; have := HP.out; omega
        · rw [HU.out]
          have h1 := HB2.out
          rw [← HP.out, splice_more _ _ _ _ (by have := HP.out; have := HFIT.out; rw [HBK.out.2]; omega)] at h1
          exact Lib.hid h1
      case measure => simp [intOf]; omega
    · obtain rfl : i = n := by omega
      have hfin := HB1.out
      rw [← HN.out, ups_all] at hfin
      have HF := Lib.hid hfin
      clear hfin
      go_wp2
      go_end0
      exact ⟨rfl, HF.out, HG.out⟩
end Go.Proofs.YtgegbpnmfpjdmaaGreatDoor
