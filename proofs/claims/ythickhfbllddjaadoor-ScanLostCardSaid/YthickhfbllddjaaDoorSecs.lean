/-
  SECTORS: arrays of 64 bytes as values, and where they lie in memory (a block of their own). Nothing here speaks of the program's functions. No condition.
-/
import Derived.Test.YthickhfbllddjaaDoorBase
import Derived.Deep.MidRow
import Derived.Deep.WholeRow
import Derived.Lib.SmallJoins
import Derived.ChangeKeysEq
import Derived.DeepKeys
import Derived.Laws.StructEq
namespace Go.Proofs.YthickhfbllddjaaDoor
open Go.RowKit
/-- a sector, as a value: its bytes -/
def sv (zs : List Int) : Array Value := (il .u8 zs).toArray
theorem sv_size (zs : List Int) : (sv zs).size = zs.length := by simp [sv, il_length]
theorem sv_one (zs : List Int) : (sv zs).all (·.oneCell') = true := all_oneCell_toArray (il_one _ _)
theorem sv_get (zs : List Int) (j : Nat) (h : j < zs.length) : (sv zs)[j]? = some (.int .u8 (zs.getD j 0)) := by
  have := il_get .u8 zs j h
  simpa [sv] using this
theorem sv_inj {a b : List Int} (h : sv a = sv b) : a = b := by
  have h1 := congrArg Array.toList h
  simp only [sv, il] at h1
  exact (List.map_inj_right (fun x y e => by injection e)).1 h1
theorem sv_set (zs : List Int) (j : Nat) (x : Int) : (sv zs).setIfInBounds j (.int .u8 x) = sv (zs.set j x) := by
  unfold sv; rw [← il_set]; simp
def z64 : List Int := List.replicate 64 0
theorem z64_length : z64.length = 64 := by simp [z64]
theorem z64_cells : sv z64 = #[.int .u8 0, .int .u8 0, .int .u8 0, .int .u8 0, .int .u8 0, .int .u8 0, .int .u8 0, .int .u8 0, .int .u8 0, .int .u8 0, .int .u8 0, .int .u8 0, .int .u8 0, .int .u8 0, .int .u8 0, .int .u8 0, .int .u8 0, .int .u8 0, .int .u8 0, .int .u8 0, .int .u8 0, .int .u8 0, .int .u8 0, .int .u8 0, .int .u8 0, .int .u8 0, .int .u8 0, .int .u8 0, .int .u8 0, .int .u8 0, .int .u8 0, .int .u8 0, .int .u8 0, .int .u8 0, .int .u8 0, .int .u8 0, .int .u8 0, .int .u8 0, .int .u8 0, .int .u8 0, .int .u8 0, .int .u8 0, .int .u8 0, .int .u8 0, .int .u8 0, .int .u8 0, .int .u8 0, .int .u8 0, .int .u8 0, .int .u8 0, .int .u8 0, .int .u8 0, .int .u8 0, .int .u8 0, .int .u8 0, .int .u8 0, .int .u8 0, .int .u8 0, .int .u8 0, .int .u8 0, .int .u8 0, .int .u8 0, .int .u8 0, .int .u8 0] := rfl
theorem sec_info (c : Array Value) (h : c.size = 64) : (Tryd.prog.info? 74).map (·.size) = some c.size := by rw [h]; kernel_rfl
theorem sv_info (zs : List Int) (h : zs.length = 64) : (Tryd.prog.info? 74).map (·.size) = some (sv zs).size := sec_info _ (by rw [sv_size, h])
/-- a block that holds a sector -/
def Blk (w : World) (b : Nat) (zs : List Int) : Prop := w.heap[b]? = some (.cells (sv zs) 74 (0, 0)) ∧ zs.length = 64
theorem Blk.keep {w w' : World} {b : Nat} {c : List Int} (h : Blk w b c) (hb : Below w.heap.size w w') : Blk w' b c :=
  ⟨by rw [hb.block b (Array.getElem?_eq_some_iff.1 h.1).1]; exact h.1, h.2⟩
theorem Blk.cell {w : World} {b : Nat} {c : List Int} (h : Blk w b c) (j : Nat) (hj : j < 64) : w.cell? ⟨b, j, none⟩ = some (.int .u8 (c.getD j 0)) := by
  rw [Joins.cell_of_block h.1 j, sv_get _ _ (by rw [h.2]; exact hj)]
theorem Blk.frozen {w : World} {b : Nat} {c : List Int} (h : Blk w b c) (j : Nat) : w.frozen? ⟨b, j, none⟩ = false := Joins.unfrozen_of_block h.1 j
theorem Blk.stored {w : World} {b : Nat} {c : List Int} (h : Blk w b c) (j : Nat) (x : Int) : Blk (w.setCell ⟨b, j, none⟩ (.int .u8 x)) b (c.set j x) := ⟨by rw [← sv_set]; exact Joins.block_setCell h.1 _, by simpa using h.2⟩
theorem Blk.apart {w : World} {b b' : Nat} {c : List Int} (h : Blk w b c) (hne : b ≠ b') (j : Nat) (v : Value) : Blk (w.setCell ⟨b', j, none⟩ v) b c := ⟨by rw [Below.heap_setCell w ⟨b', j, none⟩ v b hne]; exact h.1, h.2⟩
theorem Blk.row {w : World} {b : Nat} {c c' : List Int} (h : Blk w b c) (hc : c'.length = 64) : Blk (w.setRow b (sv c')) b c' := ⟨setRow_heap w b (sv c) (sv c') _ _ h.1, hc⟩
theorem Blk.row_apart {w : World} {b b' : Nat} {c : List Int} (h : Blk w b c) (hne : b ≠ b') (c' : Array Value) : Blk (w.setRow b' c') b c := ⟨by rw [setRow_other w b' b c' hne]; exact h.1, h.2⟩
theorem below_row {B b : Nat} {a w : World} (h : Below B a w) (hB : B ≤ b) (c : Array Value) : Below B a (w.setRow b c) :=
  h.trans ⟨rfl, rfl, rfl, by simp, fun k hk => setRow_other w b k c (by omega)⟩
theorem Blk.new (w : World) (zs : List Int) (h : zs.length = 64) : Blk (w.alloc (.cells (sv zs) 74)) w.heap.size zs := ⟨heap_alloc_last w _, h⟩
theorem alloc_size (w : World) (o : Obj) : (w.alloc o).heap.size = w.heap.size + 1 := by show (w.heap.push o).size = _; simp
theorem below_alloc (w : World) (o : Obj) : Below w.heap.size w (w.alloc o) := (Below.refl _ _).alloc (Nat.le_refl _) _
theorem run_items {w : World} (a b : List Int) (ha : a.length = 64) (hb : b.length = 64) : ∀ is : List Nat, (∀ i ∈ is, i < 64) →
    (Op.eqItems 9999 5 1 (sv a) (sv b) is).run Tryd.prog w = .ok (is.all fun i => a.getD i 0 == b.getD i 0) w
  | [], _ => by simp [Op.eqItems]
  | i :: is, h => by
    have hi : i < 64 := h i (by simp)
    have p1 := run_part_plain (P := Tryd.prog) (w := w) (e := 5) (by kernel_rfl) (xs := sv a) (off := i * 1) (v := .int .u8 (a.getD i 0)) (by rw [Nat.mul_one]; exact sv_get a i (by omega))
    have p2 := run_part_plain (P := Tryd.prog) (w := w) (e := 5) (by kernel_rfl) (xs := sv b) (off := i * 1) (v := .int .u8 (b.getD i 0)) (by rw [Nat.mul_one]; exact sv_get b i (by omega))
    have p3 := run_equalIn_int (P := Tryd.prog) w 9998 5 .u8 .u8 (a.getD i 0) (b.getD i 0) Tryd.underlying5
    have p4 := run_items (w := w) a b ha hb is (fun j hj => h j (List.mem_cons_of_mem _ hj))
    simp only [Op.eqItems, Sem.run_bind, p1, p2, Result.andThen_ok, List.all_cons]
    rw [p3]
    simp only [Result.andThen_ok]
    cases hc : (a.getD i 0 == b.getD i 0)
    · simp
    · simpa using p4
theorem run_eq_sec (a b : List Int) (ha : a.length = 64) (hb : b.length = 64) (w : World) : (Op.equalIn 10000 74 (.agg (sv a)) (.agg (sv b))).run Tryd.prog w = .ok (decide (a = b)) w := by
  obtain ⟨i, hi⟩ : ∃ i, Tryd.prog.info? 5 = some i := info_of_underlying Tryd.underlying5
  have hc : Tryd.prog.cellsOf 5 = 1 := by kernel_rfl
  have h1 := run_equalIn_array w (P := Tryd.prog) 9999 (sv a) (sv b) Tryd.underlying74 hi
  rw [hc, run_items a b ha hb _ (fun i hi => List.mem_range.1 hi)] at h1
  rw [h1]
  refine congrArg (fun x => Result.ok x w) ?_
  rw [Bool.eq_iff_iff, List.all_eq_true, decide_eq_true_eq]
  constructor
  · intro h
    refine List.ext_getElem (by omega) fun j h1 h2 => ?_
    have := h j (List.mem_range.2 (by omega))
    simpa [List.getD, h1, h2] using this
  · rintro rfl j _
    simp
/-- a sector is loaded out of its block, in a statement whose order is open -/
theorem exec_load_sec {a : Act} {o : Oper} {w : World} {g : Nat} {zs : List Int} (x : Operand) (ho : o.op = .load 74 x) (hx : a.eval x = .pointer (some ⟨g, 0, none⟩)) (h : Blk w g zs) :
    (execOp a.eval o).run Tryd.prog w = .ok (.value (.agg (sv zs))) w := by
  unfold execOp
  simp only [ho, hx, Instr.loadAt, Instr.sureAddr, Sem.run_bind, Sem.run_pure, Result.andThen_ok, run_loadVar_row w g _ 74 (sv zs) (0, 0) _ h.1 Tryd.underlying74 rfl (sv_info zs h.2)]
/-- a sector's cells lie there -/
def At (w : World) (b off : Nat) (zs : List Int) : Prop := zs.length = 64 ∧ ∀ k, k < 64 → w.cell? ⟨b, off + k, none⟩ = some (.int .u8 (zs.getD k 0))
theorem At.keep {w w' : World} {b off : Nat} {zs : List Int} (h : At w b off zs) (hb : Below w.heap.size w w') : At w' b off zs := ⟨h.1, fun k hk => cell_keep hb (h.2 k hk)⟩
theorem run_loadVar_at {w : World} {b off : Nat} {zs : List Int} (h : At w b off zs) : (loadVar 74 ⟨b, off, none⟩).run Tryd.prog w = .ok (.agg (sv zs)) w := by
  have hl : (loadCells ⟨b, off, none⟩ (il .u8 zs).length).run Tryd.prog w = .ok (il .u8 zs).toArray w :=
    run_loadCells_list (P := Tryd.prog) w ⟨b, off, none⟩ (il .u8 zs) (fun j v hv => by
      have hadd : (⟨b, off, none⟩ : Addr).add j = ⟨b, off + j, none⟩ := by unfold Addr.add; split <;> simp_all
      have hj : j < zs.length := by have := (List.getElem?_eq_some_iff.1 hv).1; rwa [il_length] at this
      rw [il_get _ _ _ hj] at hv
      rw [hadd, h.2 j (by rw [← h.1]; exact hj)]
      exact hv)
  have hi := sv_info zs h.1
  cases hq : Tryd.prog.info? 74 with
  | none => simp [hq] at hi
  | some i =>
    have hs : i.size = 64 := by simpa [hq, sv_size, h.1] using hi
    have hagg : (isAgg 74).run Tryd.prog w = .ok true w := by
      unfold isAgg
      rw [Sem.run_bind, run_underlying Tryd.underlying74 w]
      rfl
    rw [il_length, h.1] at hl
    simp [loadVar, Sem.run_bind, hagg, sizeOf, typeInfo, hq, hs, hl, sv]
/-- a sector is loaded out of a list of sectors, in a statement whose order is open -/
theorem exec_load_at {a : Act} {o : Oper} {w : World} {b off : Nat} {zs : List Int} (x : Operand) (ho : o.op = .load 74 x) (hx : a.eval x = .pointer (some ⟨b, off, none⟩)) (h : At w b off zs) :
    (execOp a.eval o).run Tryd.prog w = .ok (.value (.agg (sv zs))) w := by
  unfold execOp
  simp only [ho, hx, Instr.loadAt, Instr.sureAddr, Sem.run_bind, Sem.run_pure, Result.andThen_ok, run_loadVar_at h]
/-- where a slice that isn't empty lies -/
theorem RI.open_ {k : IntKind} {w : World} {v : Value} {len : Nat} {zs : List Int} (h : RI k w v len zs) (h0 : 0 < len) :
    ∃ b off cap, v = .slice (some ⟨b, off, none⟩) len cap ∧ len ≤ cap ∧ cap ≤ 9223372036854775807 ∧ ∀ j, j < len → w.cell? ⟨b, off + j, none⟩ = some (.int k (zs.getD j 0)) := by
  obtain ⟨a, cap, rfl, _, h2, h3, _, hc⟩ := h
  obtain ⟨b, off, rfl, hcell⟩ := hc h0
  exact ⟨b, off, cap, rfl, h2, h3, hcell⟩
/-- a slice of n sectors, told by all their bytes -/
def FS (w : World) (v : Value) (n : Nat) (fs : List Int) : Prop :=
  ∃ a cap, v = .slice a n cap ∧ fs.length = n * 64 ∧ n ≤ cap ∧ cap ≤ 9223372036854775807 ∧ (a = none → cap = 0) ∧
    (0 < n → ∃ b off, a = some ⟨b, off, none⟩ ∧ ∀ j, j < n * 64 → w.cell? ⟨b, off + j, none⟩ = some (.int .u8 (fs.getD j 0)))
theorem FS.keep {w w' : World} (hb : Below w.heap.size w w') {v : Value} {n : Nat} {fs : List Int} (h : FS w v n fs) : FS w' v n fs := by
  obtain ⟨a, cap, rfl, h1, h2, h3, h4, hc⟩ := h
  refine ⟨a, cap, rfl, h1, h2, h3, h4, fun h0 => ?_⟩
  obtain ⟨b, off, rfl, hcell⟩ := hc h0
  exact ⟨b, off, rfl, fun j hj => cell_keep hb (hcell j hj)⟩
theorem FS.nil (w : World) : FS w (.slice none 0 0) 0 [] := ⟨none, 0, rfl, rfl, Nat.le_refl _, by omega, fun _ => rfl, fun h => absurd h (by omega)⟩
theorem FS.length {w : World} {v : Value} {n : Nat} {fs : List Int} (h : FS w v n fs) : fs.length = n * 64 := h.choose_spec.choose_spec.2.1
theorem FS.own {w : World} {base : Nat} {v : Value} {n : Nat} {fs : List Int} (h : w.ownsRow base 74 64 v n (il .u8 fs)) : FS w v n fs := by
  have hl : fs.length = n * 64 := by have := h.1; rwa [il_length] at this
  rcases h.2 with ⟨rfl, rfl⟩ | ⟨g, cap, cur, rfl, _, _, hnc, hcm, _⟩
  · obtain rfl : fs = [] := List.length_eq_zero_iff.1 (by omega)
    exact FS.nil w
  · refine ⟨_, cap, rfl, hl, hnc, by unfold maxLen at hcm; omega, fun h => by simp at h, fun _ => ⟨g, 0, rfl, fun j hj => ?_⟩⟩
    rw [Nat.zero_add, h.cellAt j hj, il_get .u8 fs j (by omega)]
/-- a row of sectors that a call made and that isn't empty: where it lies -/
theorem own_formp {w : World} {base size : Nat} {e : TypeId} {v : Value} {n : Nat} {xs : List Value} (h : w.ownsRow base e size v n xs) (h0 : 0 < n) :
    ∃ g cap, v = .slice (some ⟨g, 0, none⟩) n cap ∧ base ≤ g ∧ n ≤ cap ∧ cap ≤ maxLen ∧ g < w.heap.size := by
  rcases h.2 with ⟨_, rfl⟩ | ⟨g, cap, cur, rfl, hb, hg, hnc, hcm, _⟩
  · omega
  · exact ⟨g, cap, rfl, hb, hnc, hcm, (Array.getElem?_eq_some_iff.1 hg).1⟩
/-- the sectors of bytes -/
def chunks (n : Nat) (fs : List Int) : List (List Int) := (List.range n).map fun j => (fs.drop (j * 64)).take 64
theorem chunks_get (n : Nat) (fs : List Int) (j : Nat) (h : j < n) : (chunks n fs).getD j [] = (fs.drop (j * 64)).take 64 := by simp [chunks, List.getD, h]
theorem FS.at_ {w : World} {a : Option Addr} {n cap : Nat} {fs : List Int} (h : FS w (.slice a n cap) n fs) (i : Nat) (hi : i < n) :
    ∃ b off, a = some ⟨b, off, none⟩ ∧ At w b (off + i * 64) ((fs.drop (i * 64)).take 64) := by
  obtain ⟨a', cap', e, hl, _, _, _, hc⟩ := h
  simp only [Value.slice.injEq, true_and] at e
  obtain ⟨rfl, rfl⟩ := e
  obtain ⟨b, off, rfl, hcell⟩ := hc (by omega)
  refine ⟨b, off, rfl, by simp; omega, fun k hk => ?_⟩
  rw [Nat.add_assoc, hcell (i * 64 + k) (by omega)]
  simp only [List.getD, List.getElem?_take, hk, if_true, List.getElem?_drop]
theorem sec_parts : (Tryd.prog.info? 74).map (fun i => (i.zero, i.size, i.bytes)) = some (some (.agg (sv z64)), 64, 64) := by kernel_rfl
theorem chain {a b c : World} (h : Below a.heap.size a b) (k : Below b.heap.size b c) : Below a.heap.size a c := h.trans (k.mono h.size)
/-- a sector is stored into a variable that was made for it -/
theorem wpl_store_new {w w1 : World} {ops : Array Oper} {rest : List Oper} {o : Oper} {a : Act} {Q : Exit → Act → World → Prop} (hgd : o.guard = none) (x y : Operand)
    (ho : o.op = .store 74 x y) (hw : w = w1.alloc (.cells (sv z64) 74)) (g : Nat) (hg : w1.heap.size = g) (l : List Int) (hl : l.length = 64)
    (hx : a.eval x = .pointer (some ⟨g, 0, none⟩)) (hy : a.eval y = .agg (sv l)) (W : World) (hb : Hid (Below W.heap.size W w1))
    (h : ∀ w', Hid (Blk w' g l) → Hid (Below W.heap.size W w') → Hid (Below w1.heap.size w1 w') → wpList Tryd.prog ops Q rest (a.put o.dst undef) w') : wpList Tryd.prog ops Q (o :: rest) a w := by
  subst hw; subst hg
  have hk := Blk.new w1 z64 z64_length
  have h1 : Below w1.heap.size w1 ((w1.alloc (.cells (sv z64) 74)).setRow w1.heap.size (sv l)) := below_row (below_alloc w1 _) (Nat.le_refl _) _
  refine wpList_store_row hgd 74 x y ho w1.heap.size (sv l) hx hy _ (sv z64) hk.1 (sv_info _ hl) (by rw [sv_size, sv_size, hl, z64_length]) (sv_one _) ?_
  exact h _ (hk.row hl) (chain hb.out h1) h1
/-- a sector is loaded out of its block, guarded or not -/
theorem wpl_load_sec {w : World} {ops : Array Oper} {rest : List Oper} {o : Oper} {a : Act} {Q : Exit → Act → World → Prop} (hw : Region.wanted o (yielded ops a.tmps) = true) (x : Operand) (ho : o.op = .load 74 x)
    (g : Nat) (hx : a.eval x = .pointer (some ⟨g, 0, none⟩)) (zs : List Int) (hk : Blk w g zs) (h : wpList Tryd.prog ops Q rest (a.put o.dst (.agg (sv zs))) w) : wpList Tryd.prog ops Q (o :: rest) a w := by
  unfold wpList
  rw [if_pos hw]
  exact Or.inl (wp_load_row 74 x ho g hx _ (sv zs) (0, 0) _ hk.1 Tryd.underlying74 rfl (sv_info _ hk.2) h)
theorem u8_size1 : (Tryd.prog.info? 5).map (·.size) = some 1 := by kernel_rfl
theorem il_splice (k : IntKind) (l cs : List Int) (off : Nat) : splice (il k l) off (il k cs) = il k (splice l off cs) := by simp [splice, il]
theorem Blk.keepB {w w' : World} {b g : Nat} {c : List Int} (h : Blk w b c) (hb : Below g w w') (hlt : b < g) : Blk w' b c := ⟨by rw [hb.block b hlt]; exact h.1, h.2⟩
/-- a part of a sector, as a slice of bytes -/
theorem Blk.ri {w : World} {g : Nat} {l : List Int} (h : Blk w g l) (m d c : Nat) (hm : m + d ≤ 64) (hc : d ≤ c) (hc2 : c ≤ 64) : RI .u8 w (.slice (some ⟨g, m, none⟩) d c) d ((l.drop m).take d) := by
  refine ⟨_, c, rfl, by simp [h.2]; omega, hc, by omega, fun h => by simp at h, fun _ => ⟨g, m, rfl, fun j hj => ?_⟩⟩
  rw [h.cell (m + j) (by omega)]
  simp only [List.getD, List.getElem?_take, hj, if_true, List.getElem?_drop]
/-- copy into a sector that the call holds in a block of its own, in a statement whose order is open -/
theorem step_copy_sec {ops : Array Oper} {o : Oper} {a : Act} {w : World} {K : Act → World → Prop} {Q : Exit → Act → World → Prop} {E : Prop} (hgd : o.guard = none) (d s : Operand)
    (ho : o.op = .call { callee := .builtin .copy, args := #[d, s], argTypes := #[38, 38] }) (g off dLen dCap : Nat) (l : List Int) (hblk : Blk w g l)
    (hd : a.eval d = .slice (some ⟨g, off, none⟩) dLen dCap) (v : Value) (n : Nat) (zs : List Int) (hs : a.eval s = v) (hri : RI .u8 w v n zs) (hfit : off + dLen ≤ 64)
    (h : ∀ w', Hid (Blk w' g (splice l off (zs.take (min n dLen)))) → Below g w w' → K (a.put o.dst (goInt ((min n dLen : Nat) : Int))) w') :
    if Region.wanted o (yielded ops a.tmps) = true then Oper.wp Tryd.prog o a w K Q else E := by
  obtain ⟨sp, sCap, rfl, hl, _, _, _, hc⟩ := hri
  have hcl : (il .u8 (zs.take (min n dLen))).length = min n dLen := by rw [il_length]; simp; omega
  refine step_copy_splice hgd d s 38 38 ho 5 Tryd.underlying38 u8_size1 (some ⟨g, off, none⟩) sp dLen dCap n sCap hd hs g off (il .u8 l) 74 hblk.1 (il .u8 (zs.take (min n dLen))) hcl ?_ (by rw [hcl, il_length, hblk.2]; omega) (il_one _ _) g w (Below.refl _ _) (Nat.le_refl _) ?_
  · intro hp
    rw [hcl] at hp
    obtain ⟨b, of2, rfl, hcell⟩ := hc (by omega)
    refine ⟨rfl, _, rfl, fun j u hj => ?_⟩
    have hjl : j < min n dLen := by have := (List.getElem?_eq_some_iff.1 hj).1; rwa [hcl] at this
    rw [il_get _ _ _ (by simp; omega)] at hj
    have h2 := hcell j (by omega)
    have h3 : (zs.take (min n dLen)).getD j 0 = zs.getD j 0 := by simp only [List.getD, List.getElem?_take, hjl, if_true]
    rw [h3] at hj
    rw [← hj]
    by_cases h0 : j = 0
    · subst h0; simpa [Addr.add] using h2
    · simpa [Addr.add, h0] using h2
  · intro w' hg hb
    have e : goInt (il .u8 (zs.take (min n dLen))).length = goInt ((min n dLen : Nat) : Int) := by rw [hcl]
    rw [e]
    refine h w' ⟨?_, by rw [length_splice _ _ _ (by rw [hblk.2]; simp; omega)]; exact hblk.2⟩ hb
    have := hg.out
    rwa [il_splice] at this
/-- .. and in one whose order is not -/
theorem wpl_copy_sec {ops : Array Oper} {rest : List Oper} {o : Oper} {a : Act} {w : World} {Q : Exit → Act → World → Prop} (hgd : o.guard = none) (d s : Operand)
    (ho : o.op = .call { callee := .builtin .copy, args := #[d, s], argTypes := #[38, 38] }) (g off dLen dCap : Nat) (l : List Int) (hblk : Blk w g l)
    (hd : a.eval d = .slice (some ⟨g, off, none⟩) dLen dCap) (v : Value) (n : Nat) (zs : List Int) (hs : a.eval s = v) (hri : RI .u8 w v n zs) (hfit : off + dLen ≤ 64)
    (h : ∀ w', Hid (Blk w' g (splice l off (zs.take (min n dLen)))) → Below g w w' → wpList Tryd.prog ops Q rest (a.put o.dst (goInt ((min n dLen : Nat) : Int))) w') : wpList Tryd.prog ops Q (o :: rest) a w := by
  refine wpList_plain hgd fun K hK => ?_
  have h1 := step_copy_sec (ops := ops) (K := K) (Q := Q) (E := True) hgd d s ho g off dLen dCap l hblk hd v n zs hs hri hfit (fun w' h2 h3 => hK _ _ (h w' h2 h3))
  rwa [if_pos (by simp [Region.wanted, hgd])] at h1
/-- a sector is loaded out of a list of sectors -/
theorem wpl_load_at {w : World} {ops : Array Oper} {rest : List Oper} {o : Oper} {a : Act} {Q : Exit → Act → World → Prop} (hgd : o.guard = none) (x : Operand) (ho : o.op = .load 74 x)
    (b off : Nat) (hx : a.eval x = .pointer (some ⟨b, off, none⟩)) (zs : List Int) (hk : At w b off zs) (h : wpList Tryd.prog ops Q rest (a.put o.dst (.agg (sv zs))) w) : wpList Tryd.prog ops Q (o :: rest) a w := by
  refine wpList_plain hgd fun K hK => ?_
  unfold Oper.wp
  rw [exec_load_at x ho hx hk]
  simp only [Oper.upon]
  exact hK _ _ h
/-- sectors that were just made -/
theorem made_secs (n : Nat) : (madeCells (Value.agg (sv z64)).cells n).toList = il .u8 (List.replicate n 0) := by
  refine List.ext_getElem (by simp [madeCells, il]) fun j h1 h2 => ?_
  have hs : (Value.agg (sv z64)).cells = sv z64 := rfl
  have hj : j % 64 < (sv z64).size := by rw [sv_size, z64_length]; omega
  have hg : (sv z64)[j % (sv z64).size]! = .int .u8 0 := by
    have h3 := sv_get z64 (j % 64) (by rw [z64_length]; omega)
    have h4 : z64.getD (j % 64) 0 = 0 := by simp only [z64, List.getD, List.getElem?_replicate]; split <;> rfl
    rw [h4] at h3
    rw [sv_size, z64_length, getElem!_def, h3]
  simp only [madeCells, hs, il, Array.toList_map, List.getElem_map, List.getElem_replicate]
  simpa using hg
/-- a slice literal's bytes -/
theorem RI.lit (w : World) (e : TypeId) (k : IntKind) (zs : List Int) (n : Nat) (hn : zs.length = n) (h63 : n ≤ 9223372036854775807) :
    RI k (w.alloc (.cells (il k zs).toArray e)) (.slice (some ⟨w.heap.size, 0, none⟩) n n) n zs := by
  refine ⟨_, n, rfl, hn, Nat.le_refl _, h63, fun h => by simp at h, fun _ => ⟨w.heap.size, 0, rfl, fun j hj => ?_⟩⟩
  have hg : (w.alloc (.cells (il k zs).toArray e)).heap[w.heap.size]? = some (.cells (il k zs).toArray e (0, 0)) := by
    show (w.heap.push _)[w.heap.size]? = _
    simp
  rw [Nat.zero_add, cell_of_row _ w.heap.size j _ e _ hg]
  simpa using il_get k zs j (by omega)
end Go.Proofs.YthickhfbllddjaaDoor
