/-
  BLOCKS OF BYTES (YB), further: made in a fixed order; a copy of as many bytes as there is room for; a byte stored. Nothing here speaks of the program's functions. No condition.
-/
import Derived.Test.YtjlnceldnbpapaaDoorPlanRow
namespace Go.Proofs.YtjlnceldnbpapaaDoor
open Go.RowKit
theorem wpl_mk_yb {w : World} {ops : Array Oper} {rest : List Oper} {o : Oper} {a : Act} {Q : Exit → Act → World → Prop} (hgd : o.guard = none) (x y : Operand) (ho : o.op = Op.makeSlice 26 x y) (n : Nat) (hx : a.eval x = .int .i64 (n : Int)) (hy : a.eval y = .int .i64 (n : Int)) (hn : n ≤ 1000000)
    (h : ∀ g w', Hid (YB w' g (List.replicate n 0)) → Hid (w.heap.size ≤ g) → Hid (Below w.heap.size w w') → wpList Tryd.prog ops Q rest (a.put o.dst (.slice (some ⟨g, 0, none⟩) n n)) w') : wpList Tryd.prog ops Q (o :: rest) a w := by
  refine wpList_plain hgd fun K hK => ?_
  have hrun := make_bytes_run n (by omega) w
  unfold Oper.wp
  simp [execOp, ho, hx, hy, hrun, Result.andThen]
  exact hK _ _ (h _ _ (heap_alloc_last w _) (Nat.le_refl _) (below_alloc w _))
/-- a copy of as many bytes as there is room for -/
theorem wpl_copy_ybm {ops : Array Oper} {rest : List Oper} {o : Oper} {a : Act} {w : World} {Q : Exit → Act → World → Prop} (hgd : o.guard = none) (d s : Operand)
    (ho : o.op = .call { callee := .builtin .copy, args := #[d, s], argTypes := #[26, 26] }) (g off dLen dCap : Nat) (cur : List Int) (hblk : YB w g cur)
    (hd : a.eval d = .slice (some ⟨g, off, none⟩) dLen dCap) (v : Value) (n : Nat) (zs : List Int) (hs : a.eval s = v) (hri : RI .u8 w v n zs) (hfit : off + dLen ≤ cur.length)
    (h : ∀ w' k, Hid (YB w' g (splice cur off (zs.take dLen))) → Hid (w.grownBy w' (some g)) → wpList Tryd.prog ops Q rest (a.put o.dst (goInt k)) w') : wpList Tryd.prog ops Q (o :: rest) a w := by
  by_cases hnd : n ≤ dLen
  · refine wpl_copy_yb hgd d s ho g off dLen dCap cur hblk hd v n zs hs hri hnd hfit fun w' h1 h2 => ?_
    rw [List.take_of_length_le (by rw [hri.length]; exact hnd)] at h
    exact h w' _ h1 h2
  · obtain ⟨sp, sCap, rfl, hl, _, _, _, hc⟩ := hri
    obtain ⟨b, of2, rfl, hcell⟩ := hc (by omega)
    have hmin : Nat.min n dLen = dLen := Nat.min_eq_right (by omega)
    have htl : (zs.take dLen).length = dLen := by rw [List.length_take]; omega
    have hcl : (il .u8 (zs.take dLen)).length = dLen := by rw [il_length, htl]
    refine wpList_copy_own hgd d s 26 26 ho 5 Tryd.underlying26 u8_size1 g off dLen dCap ⟨b, of2, none⟩ n sCap hd hs (il .u8 cur).toArray 5 hblk (il .u8 (zs.take dLen)) (by rw [hcl, hmin]) ?_ (by rw [hcl]; simpa [il_length] using hfit) (il_one _ _) ?_
    · intro j u hj
      have hjl : j < (zs.take dLen).length := by have := (List.getElem?_eq_some_iff.1 hj).1; rwa [il_length] at this
      rw [il_get _ _ _ hjl] at hj
      rw [Addr.add_mid, hcell j (by omega)]
      rw [← hj]
      simp only [List.getD, List.getElem?_take, show j < dLen by omega, if_true]
    · rw [hcl]
      refine h _ _ (Lib.hid ?_) (grown_row _ _ _)
      unfold YB
      rw [← il_splice]
      have := setRow_at hblk ((il .u8 cur).toArray.toList.take off ++ (il .u8 (zs.take dLen) ++ (il .u8 cur).toArray.toList.drop (off + dLen))).toArray
      simpa [splice, hcl] using this
/-- a row of something else lies elsewhere -/
theorem YB.ne_row {w : World} {g : Nat} {zs : List Int} (h : YB w g zs) {base n size : Nat} {e : TypeId} {u : Value} {xs : List Value} (ho : w.ownsRow base e size u n xs) (he : 5 ≠ e) : ∀ q, u.ownBlock = some q → q ≠ g := by
  intro q hq e'
  subst e'
  rcases ho.2 with ⟨rfl, _⟩ | ⟨q', cap, cur, rfl, _, hcur, _⟩
  · simp [Value.ownBlock] at hq
  · simp only [Value.ownBlock, Option.some.injEq] at hq
    subst hq
    unfold YB at h
    rw [h] at hcur
    simp only [Option.some.injEq, Obj.cells.injEq] at hcur
    exact he hcur.2.1
/-- a byte is stored -/
theorem YB.stored {w : World} {g : Nat} {zs : List Int} (h : YB w g zs) (j : Nat) (z : Int) : YB (w.setCell ⟨g, j, none⟩ (.int .u8 z)) g (zs.set j z) := by
  unfold YB at *
  have := Joins.block_setCell (i := j) h (.int .u8 z)
  simpa [il, List.map_set] using this
theorem YB.cell {w : World} {g : Nat} {zs : List Int} (h : YB w g zs) (j : Nat) (hj : j < zs.length) : w.cell? ⟨g, j, none⟩ = some (.int .u8 (zs.getD j 0)) := by
  rw [cell_of_row w g j _ _ _ h]
  simpa using il_get .u8 zs j hj
theorem YB.frozen {w : World} {g : Nat} {zs : List Int} (h : YB w g zs) (j : Nat) : w.frozen? ⟨g, j, none⟩ = false := Joins.unfrozen_of_block h j
theorem il_splice1 (zs : List Int) (i : Nat) (b : Int) (hi : i < zs.length) : splice (il .u8 zs) i [Value.int .u8 b] = il .u8 (zs.set i b) := by
  refine List.ext_getElem? fun q => ?_
  rw [splice_get _ _ _ (by rw [il_length]; simp; omega)]
  unfold il
  rw [List.map_set]
  by_cases h3 : q < i
  · rw [if_pos h3, List.getElem?_set_ne (by omega)]
  · rw [if_neg h3]
    by_cases h4 : q = i
    · subst h4
      rw [if_pos (by simp), List.getElem?_set_self (by simpa using hi), Nat.sub_self]; rfl
    · rw [if_neg (by simp; omega), List.getElem?_set_ne (by omega)]
theorem yb_store_run {w : World} {g i : Nat} {zs : List Int} (b : Int) (h : YB w g zs) (hi : i < zs.length) : (storeVar 5 ⟨g, i, none⟩ (.int .u8 b)).run Tryd.prog w = .ok () (w.setCells g i [.int .u8 b]) := by
  have hc := h.cell i hi
  have := run_storeCells_cells (P := Tryd.prog) g i [Value.int .u8 b] 0 w (fun j hj => by simp at hj; subst hj; simp [hc]) (fun j hj => Joins.unfrozen_of_block h _) (fun u hu => by simp at hu; subst hu; rfl)
  obtain ⟨n, hn, hs⟩ := Option.map_eq_some_iff.1 u8_size1
  simp only [Nat.add_zero] at this
  simp [storeVar, sizeOf, typeInfo, hn, show (Value.int .u8 b).cells = #[.int .u8 b] from rfl, hs, this]
/-- a byte is stored into the block, in an open order; in a fixed one -/
theorem wp_put_yb {w : World} {o : Oper} {a : Act} {K : Act → World → Prop} {Q : Exit → Act → World → Prop} (x y : Operand) (ho : o.op = .store 5 x y)
    (g i : Nat) (zs : List Int) (b : Int) (h : YB w g zs) (hi : i < zs.length) (hx : a.eval x = .pointer (some ⟨g, i, none⟩)) (hy : a.eval y = .int .u8 b)
    (hK : ∀ w', Hid (YB w' g (zs.set i b)) → Hid (w.grownBy w' (some g)) → K (a.put o.dst undef) w') : Oper.wp Tryd.prog o a w K Q := by
  unfold Oper.wp execOp
  simp only [ho, hx, hy, Instr.storeAt, Instr.sureAddr, Sem.run_bind, Sem.run_pure, Result.andThen_ok, yb_store_run b h hi]
  refine hK _ ?_ (grown_setCells _ _ _ _)
  unfold YB
  have h1 := heap_setCells g 5 (0, 0) [Value.int .u8 b] i w (il .u8 zs) (by rw [il_length]; simp; omega) h
  rwa [il_splice1 _ _ _ hi] at h1
theorem wpl_put_yb {w : World} {ops : Array Oper} {rest : List Oper} {o : Oper} {a : Act} {Q : Exit → Act → World → Prop} (hgd : o.guard = none) (x y : Operand) (ho : o.op = .store 5 x y)
    (g i : Nat) (zs : List Int) (b : Int) (h : YB w g zs) (hi : i < zs.length) (hx : a.eval x = .pointer (some ⟨g, i, none⟩)) (hy : a.eval y = .int .u8 b)
    (hK : ∀ w', Hid (YB w' g (zs.set i b)) → Hid (w.grownBy w' (some g)) → wpList Tryd.prog ops Q rest (a.put o.dst undef) w') : wpList Tryd.prog ops Q (o :: rest) a w :=
  wpList_plain hgd fun _ hk => wp_put_yb x y ho g i zs b h hi hx hy fun w' h1 h2 => hk _ _ (hK w' h1 h2)
/-- .. one behind the other -/
theorem splice_set (L cs : List Int) (off k : Nat) (hk : k < cs.length) (hf : off + cs.length ≤ L.length) : (splice L off (cs.take k)).set (off + k) (cs.getD k 0) = splice L off (cs.take (k + 1)) := by
  refine List.ext_getElem? fun q => ?_
  have h1 : (cs.take k).length = k := by rw [List.length_take]; omega
  have h2 : (cs.take (k + 1)).length = k + 1 := by rw [List.length_take]; omega
  have hl : (splice L off (cs.take k)).length = L.length := by unfold splice; simp; omega
  rw [splice_get _ _ _ (by omega), h2]
  by_cases e : q = off + k
  · subst e
    rw [List.getElem?_set_self (by omega), if_neg (by omega), if_pos (by omega), Nat.add_sub_cancel_left]
    simp [List.getD, hk]
  · rw [List.getElem?_set_ne (Ne.symm e), splice_get _ _ _ (by omega), h1]
    by_cases h3 : q < off
    · rw [if_pos h3, if_pos h3]
    · rw [if_neg h3, if_neg h3]
      by_cases h4 : q < off + k
      · rw [if_pos h4, if_pos (by omega), List.getElem?_take, List.getElem?_take, if_pos (by omega), if_pos (by omega)]
      · rw [if_neg h4, if_neg (by omega)]
end Go.Proofs.YtjlnceldnbpapaaDoor
