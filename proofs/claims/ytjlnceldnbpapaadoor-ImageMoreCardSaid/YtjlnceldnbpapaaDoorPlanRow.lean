/-
  BLOCKS OF BYTES AND OF BOOLS THAT A CALL MADE AND FILLS (YB, KB): copies into them, stores; copies of sectors into a row of sectors (RW). Nothing here speaks of the program's functions. No condition.
-/
import Derived.Test.YtjlnceldnbpapaaDoorFill
import Derived.Test.YtjlnceldnbpapaaDoorList
namespace Go.Proofs.YtjlnceldnbpapaaDoor
open Go.RowKit
/-- a block of bytes; one of bools -/
def YB (w : World) (g : Nat) (zs : List Int) : Prop := w.heap[g]? = some (.cells (il .u8 zs).toArray 5 (0, 0))
theorem YB.keep {w w' : World} {g : Nat} {zs : List Int} (h : YB w g zs) (hb : Below w.heap.size w w') : YB w' g zs := by
  unfold YB at *; rw [hb.block g (Array.getElem?_eq_some_iff.1 h).1]; exact h
theorem YB.over {w w' : World} {g g2 : Nat} {zs : List Int} (h : YB w g zs) (hg : w.grownBy w' (some g2)) (hne : g ≠ g2) : YB w' g zs := by
  unfold YB at *; rw [hg.block g (Array.getElem?_eq_some_iff.1 h).1 (fun e => hne (Option.some.inj e))]; exact h
theorem YB.ri {w : World} {g n : Nat} {zs : List Int} (h : YB w g zs) (hz : zs.length = n) (hn : n ≤ 1000000) : RI .u8 w (.slice (some ⟨g, 0, none⟩) n n) n zs := by
  refine ⟨_, n, rfl, hz, Nat.le_refl _, by omega, fun h => by simp at h, fun _ => ⟨g, 0, rfl, fun j hj => ?_⟩⟩
  rw [Nat.zero_add, cell_of_row w g j _ _ _ h]
  simpa using il_get .u8 zs j (by omega)
theorem below_grown {w0 w w' : World} {B g : Nat} (h : Below B w0 w) (hg : w.grownBy w' (some g)) (hB : B ≤ g) (h0 : B ≤ w.heap.size) : Below B w0 w' :=
  h.grown hg h0 (fun q hq => by obtain rfl := Option.some.inj hq; exact hB)
/-- made -/
theorem make_bytes_run (k : Nat) (hk : (k : Int) ≤ 1000000000) (w : World) :
    (Instr.makeSlice 26 (.int .i64 (k : Int)) (.int .i64 (k : Int))).run Tryd.prog w = .ok (.slice (some ⟨w.heap.size, 0, none⟩) k k) (w.alloc (.cells (il .u8 (List.replicate k 0)).toArray 5)) := by
  obtain ⟨i, hi, hz0, hz1, hz2⟩ := info_parts Tryd.info_u8
  have h := run_make (P := Tryd.prog) w 26 5 i _ Tryd.underlying26 hi hz0 .i64 .i64 k k (by omega) (by omega) (by rw [hz2]; omega) (by omega)
  simp only [Int.toNat_natCast, hz1, Nat.mul_one] at h
  rw [h]
  have : madeCells (Value.int .u8 0).cells k = (il .u8 (List.replicate k 0)).toArray := by
    rw [show (Value.int .u8 0).cells = #[.int .u8 0] from rfl, ← Array.toList_inj, toList_madeCells_one]
    simp [il]
  rw [this]
theorem make_row_run (k : Nat) (hk : (k : Int) ≤ 1000000000) (w : World) :
    (Instr.makeSlice 34 (.int .i64 (k : Int)) (.int .i64 (k : Int))).run Tryd.prog w = .ok (.slice (some ⟨w.heap.size, 0, none⟩) k k) (w.alloc (.cells (il .u8 (List.replicate (k * 64) 0)).toArray 53)) := by
  obtain ⟨i, hi, hz0, hz1, hz2⟩ := info_parts sec_parts
  have h := run_make (P := Tryd.prog) w 34 53 i _ Tryd.underlying34 hi hz0 .i64 .i64 k k (by omega) (by omega) (by rw [hz2]; omega) (by omega)
  simp only [Int.toNat_natCast, hz1] at h
  rw [h]
  have : madeCells (Value.agg (sv z64)).cells (k * 64) = (il .u8 (List.replicate (k * 64) 0)).toArray := by
    rw [← Array.toList_inj, made_secs]
  rw [this]
theorem setRow_at {w : World} {g : Nat} {C : Array Value} {t : TypeId} (h : w.heap[g]? = some (.cells C t (0, 0))) (C' : Array Value) : (w.setRow g C').heap[g]? = some (.cells C' t (0, 0)) := setRow_heap w g C C' _ _ h
theorem grown_row (w : World) (g : Nat) (cs : Array Value) : w.grownBy (w.setRow g cs) (some g) :=
  ⟨rfl, rfl, rfl, by simp, fun i _ hne => setRow_other w g i cs (fun e => hne (by rw [e]))⟩
/-- a copy of bytes into the block -/
theorem wpl_copy_yb {ops : Array Oper} {rest : List Oper} {o : Oper} {a : Act} {w : World} {Q : Exit → Act → World → Prop} (hgd : o.guard = none) (d s : Operand)
    (ho : o.op = .call { callee := .builtin .copy, args := #[d, s], argTypes := #[26, 26] }) (g off dLen dCap : Nat) (cur : List Int) (hblk : YB w g cur)
    (hd : a.eval d = .slice (some ⟨g, off, none⟩) dLen dCap) (v : Value) (n : Nat) (zs : List Int) (hs : a.eval s = v) (hri : RI .u8 w v n zs) (hnd : n ≤ dLen) (hfit : off + dLen ≤ cur.length)
    (h : ∀ w', Hid (YB w' g (splice cur off zs)) → Hid (w.grownBy w' (some g)) → wpList Tryd.prog ops Q rest (a.put o.dst (goInt (n : Int))) w') : wpList Tryd.prog ops Q (o :: rest) a w := by
  obtain ⟨sp, sCap, rfl, hl, _, _, _, hc⟩ := hri
  have hcl : (il .u8 zs).length = n := by rw [il_length, hl]
  have hmin : Nat.min n dLen = n := Nat.min_eq_left hnd
  by_cases h0 : n = 0
  · subst h0
    obtain rfl : zs = [] := List.eq_nil_of_length_eq_zero hl
    refine wpList_copy_nothing hgd d s 26 26 ho 5 Tryd.underlying26 u8_size1 (some ⟨g, off, none⟩) sp dLen dCap 0 sCap hd hs hmin ?_
    exact h w (Lib.hid (by simpa [splice] using hblk)) (grown_refl _ _)
  · obtain ⟨b, of2, rfl, hcell⟩ := hc (by omega)
    refine wpList_copy_own hgd d s 26 26 ho 5 Tryd.underlying26 u8_size1 g off dLen dCap ⟨b, of2, none⟩ n sCap hd hs (il .u8 cur).toArray 5 hblk (il .u8 zs) (by rw [hcl, hmin]) ?_ (by rw [hcl]; simp [il_length]; omega) (il_one _ _) ?_
    · intro j u hj
      have hjl : j < zs.length := by have := (List.getElem?_eq_some_iff.1 hj).1; rwa [il_length] at this
      rw [il_get _ _ _ hjl] at hj
      rw [Addr.add_mid, hcell j (by omega)]; exact hj
    · rw [hcl]
      refine h _ (Lib.hid ?_) (grown_row _ _ _)
      unfold YB
      rw [← il_splice]
      have := setRow_at hblk ((il .u8 cur).toArray.toList.take off ++ (il .u8 zs ++ (il .u8 cur).toArray.toList.drop (off + n))).toArray
      simpa [splice, hcl] using this
/-- a copy of sectors into a row of sectors -/
theorem wpl_copy_row {ops : Array Oper} {rest : List Oper} {o : Oper} {a : Act} {w : World} {Q : Exit → Act → World → Prop} (hgd : o.guard = none) (d s : Operand)
    (ho : o.op = .call { callee := .builtin .copy, args := #[d, s], argTypes := #[34, 34] }) (g dLen dCap : Nat) (cur : List Int) (hblk : RW w g cur) (hcur : cur.length = dLen * 64)
    (hd : a.eval d = .slice (some ⟨g, 0, none⟩) dLen dCap) (v : Value) (n : Nat) (fs : List Int) (hs : a.eval s = v) (hfs : FS w v n fs) (hnd : n ≤ dLen)
    (h : ∀ w', Hid (RW w' g (splice cur 0 fs)) → Hid (w.grownBy w' (some g)) → wpList Tryd.prog ops Q rest (a.put o.dst (goInt (n : Int))) w') : wpList Tryd.prog ops Q (o :: rest) a w := by
  obtain ⟨sp, sCap, rfl, hl, _, _, _, hc⟩ := hfs
  have hcl : (il .u8 fs).length = n * 64 := by rw [il_length, hl]
  have hmin : Nat.min n dLen = n := Nat.min_eq_left hnd
  have hsz : (Tryd.prog.info? 53).map (·.size) = some 64 := by kernel_rfl
  obtain ⟨i, hi, hi64⟩ := Option.map_eq_some_iff.1 hsz
  refine wpList_plain hgd fun K hK => ?_
  by_cases h0 : n = 0
  · subst h0
    obtain rfl : fs = [] := List.eq_nil_of_length_eq_zero (by simpa using hl)
    have hrun : (Builtin.copy_ #[34, 34] o.type #[.slice (some ⟨g, 0, none⟩) dLen dCap, .slice sp 0 sCap]).run Tryd.prog w = .ok (goInt 0) w := by
      cases sp <;> simp [Builtin.copy_, run_underlying Tryd.underlying34, Builtin.lenOf, Builtin.firstCells, loadCells, loadCellsFrom, sizeOf, typeInfo, hi, storeCells]
    unfold Oper.wp
    simp [execOp, ho, resolve, invoke, builtin, hd, hs, hrun, Result.andThen]
    exact hK _ _ (h w (Lib.hid (by simpa [splice] using hblk)) (grown_refl _ _))
  · obtain ⟨b, of2, rfl, hcell⟩ := hc (by omega)
    have hsrc : ∀ j u, (il .u8 fs)[j]? = some u → w.cell? ((⟨b, of2, none⟩ : Addr).add j) = some u := by
      intro j u hj
      have hjl : j < fs.length := by have := (List.getElem?_eq_some_iff.1 hj).1; rwa [il_length] at this
      rw [il_get _ _ _ hjl] at hj
      rw [Addr.add_mid, hcell j (by omega)]; exact hj
    have hle : n * 64 ≤ dLen * 64 := Nat.mul_le_mul_right _ hnd
    have hld := run_loadCells_list (P := Tryd.prog) w ⟨b, of2, none⟩ (il .u8 fs) hsrc
    have hst := run_storeCells_at (P := Tryd.prog) g 0 53 (il .u8 fs) 0 (il .u8 cur).toArray w hblk (by rw [hcl]; simp [il_length, hcur]; omega) (il_one _ _)
    rw [hcl] at hld
    have hrun : (Builtin.copy_ #[34, 34] o.type #[.slice (some ⟨g, 0, none⟩) dLen dCap, .slice (some ⟨b, of2, none⟩) n sCap]).run Tryd.prog w = .ok (goInt (n : Int)) (w.setRow g (splice (il .u8 cur) 0 (il .u8 fs)).toArray) := by
      simp [Builtin.copy_, run_underlying Tryd.underlying34, Builtin.lenOf, Builtin.firstCells, sizeOf, typeInfo, hi, hi64, hmin, hld, hst, splice]
    unfold Oper.wp
    simp [execOp, ho, resolve, invoke, builtin, hd, hs, hrun, Result.andThen]
    refine hK _ _ (h _ ?_ (grown_row _ _ _))
    unfold RW
    rw [← il_splice]
    exact setRow_at hblk _
end Go.Proofs.YtjlnceldnbpapaaDoor
