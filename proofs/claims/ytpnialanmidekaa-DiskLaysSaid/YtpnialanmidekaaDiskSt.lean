/-
  LAYER 8 (disk): where a call of the document's disk stands (a box with the disk, a cell for the result, both set aside), and what its calls come to (plain mathematics). Nothing here speaks of the program's functions. No condition.
-/
import Derived.Test.YtpnialanmidekaaDiskPut
import Derived.Test.YtpnialanmidekaaNameRight
namespace Go.Proofs.Ytpnialanmidekaa
open Go.RowKit
def boxF (F : Nat → Bool) (w : World) : Nat → Bool := plusF F w.heap.size (w.heap.size + 2)
/-- where a call stands: w is where it began -/
structure St (F : Nat → Bool) (w : World) (cs : Array Value) (d : AD) (W : World) : Prop where
  below : Below w.heap.size w W
  size : w.heap.size + 2 ≤ W.heap.size
  d0 : DB W w.heap.size cs
  d1 : DB W (w.heap.size + 1) dz
  foot : Foot (boxF F w) W.heap.size
  rd : RD (mask (boxF F w) W) (.agg cs) d
theorem St.next {F : Nat → Bool} {w W W' : World} {cs : Array Value} {d : AD} (h : St F w cs d W) (hb : Below W.heap.size W W') : St F w cs d W' :=
  ⟨chain h.below hb, Nat.le_trans h.size hb.size, h.d0.below hb (by have := h.size; omega), h.d1.below hb (by have := h.size; omega), h.foot.mono hb.size, h.rd.kin (kin_mask hb)⟩
theorem box_ext {F : Nat → Bool} {w W : World} (h : Below w.heap.size w W) : Ext F w W (boxF F w) :=
  ⟨h.os, h.tape, h.output, h.size, fun k hk _ => h.block k hk, fun k hk => by simp [boxF, plusF]; intro h1; omega⟩
theorem box_foot {F : Nat → Bool} {w : World} (h : Foot F w.heap.size) : Foot (boxF F w) (w.heap.size + 2) := plusF_foot h (by omega)
theorem box_sub (F : Nat → Bool) (w : World) (k : Nat) (h : F k = true) : boxF F w k = true := plusF_mono F _ _ k h
theorem box_in0 (F : Nat → Bool) (w : World) : boxF F w w.heap.size = true := plusF_in F _ _ _ (Nat.le_refl _) (by omega)
theorem box_in1 (F : Nat → Bool) (w : World) : boxF F w (w.heap.size + 1) = true := plusF_in F _ _ _ (by omega) (by omega)
theorem St.start {F : Nat → Bool} {w : World} {cs : Array Value} {d : AD} (hF : Foot F w.heap.size) (h6 : cs.size = 6) (h : RD (mask F w) (.agg cs) d) :
    St F w cs d ((w.alloc (.cells cs 29)).alloc (.cells #[.slice none 0 0, .int .i64 0, .int .i64 0, .bool false, .bool false, .int .i64 0] 29)) := by
  obtain ⟨h0, h1⟩ := DB.start w cs h6
  have hb := below2 w (.cells cs 29) (.cells dz 29)
  have hs : ((w.alloc (.cells cs 29)).alloc (.cells dz 29)).heap.size = w.heap.size + 2 := by rw [alloc_size, alloc_size]
  exact ⟨hb, Nat.le_of_eq hs.symm, h0, h1, (box_foot hF).mono (Nat.le_of_eq hs.symm), h.kin (box_ext hb).kin⟩
/-- the result is put into its cell -/
theorem St.done {F : Nat → Bool} {w W : World} {cs : Array Value} {d : AD} (h : St F w cs d W) {cs' : Array Value} {d' : AD} (hr : RD (mask (boxF F w) W) (.agg cs') d') (h6 : cs'.size = 6) :
    DB (W.setRow (w.heap.size + 1) cs') (w.heap.size + 1) cs' ∧ RD (mask F (W.setRow (w.heap.size + 1) cs')) (.agg cs') d' ∧ Below w.heap.size w (W.setRow (w.heap.size + 1) cs') :=
  ⟨h.d1.row h6, (hr.kin ((Ext.refl (boxF F w) W).setRow _ (box_in1 F w) _).kin).kin (mask_mono (box_sub F w) _), below_row h.below (by omega) _⟩
theorem DB.six {w : World} {b : Nat} {v0 v1 v2 v3 v4 v5 : Value} (h : DB w b #[v0, v1, v2, v3, v4, v5]) :
    w.cell? ⟨b, 0, none⟩ = some v0 ∧ w.cell? ⟨b, 1, none⟩ = some v1 ∧ w.cell? ⟨b, 2, none⟩ = some v2 ∧ w.cell? ⟨b, 3, none⟩ = some v3 ∧ w.cell? ⟨b, 4, none⟩ = some v4 ∧ w.cell? ⟨b, 5, none⟩ = some v5 :=
  ⟨h.cell 0, h.cell 1, h.cell 2, h.cell 3, h.cell 4, h.cell 5⟩
theorem RD.agg {w : World} {v : Value} {d : AD} (h : RD w v d) : ∃ (a : Option Addr) (n c : Nat), v = .agg #[.slice a n c, .int .i64 d.cap, .int .i64 d.ops, .bool d.down, .bool d.told, .int .i64 d.after] ∧ d.L.length = n ∧ n ≤ c ∧ c ≤ 9223372036854775807 := by
  obtain ⟨a, c, h1, _, h2, h3, _⟩ := h.form
  exact ⟨a, _, c, h1, rfl, h2, h3⟩
/-- another disk with the same files -/
theorem RD.re {w : World} {vl v1 v2 v3 v4 v5 : Value} {d d' : AD} (h : RD w (.agg #[vl, v1, v2, v3, v4, v5]) d) (hl : d'.L = d.L) :
    RD w (.agg #[vl, .int .i64 d'.cap, .int .i64 d'.ops, .bool d'.down, .bool d'.told, .int .i64 d'.after]) d' := by
  obtain ⟨vl', e, h1⟩ := h
  simp only [dv, Value.agg.injEq] at e
  have e0 := congrArg (fun x : Array Value => x[0]?) e
  simp at e0
  subst e0
  exact ⟨vl, rfl, by rw [hl]; exact h1⟩
/-- a disk is stored into a variable that was made for it -/
theorem wpl_store_newD {w w1 : World} {ops : Array Oper} {rest : List Oper} {o : Oper} {a : Act} {Q : Exit → Act → World → Prop} (hgd : o.guard = none) (x y : Operand)
    (ho : o.op = .store 29 x y) (hw : w = w1.alloc (.cells dz 29)) (g : Nat) (hg : w1.heap.size = g) (cs : Array Value) (h6 : cs.size = 6) (h1 : cs.all (·.oneCell') = true)
    (hx : a.eval x = .pointer (some ⟨g, 0, none⟩)) (hy : a.eval y = .agg cs)
    (h : ∀ w', Hid (DB w' g cs) → Hid (Below w1.heap.size w1 w') → wpList Try.prog ops Q rest (a.put o.dst undef) w') : wpList Try.prog ops Q (o :: rest) a w := by
  subst hw; subst hg
  have hk : DB (w1.alloc (.cells dz 29)) w1.heap.size dz := ⟨heap_alloc_last w1 _, rfl⟩
  refine wpList_store_row hgd 29 x y ho w1.heap.size cs hx hy _ dz hk.1 (by rw [h6]; exact disk_info) (by rw [h6]; rfl) h1 ?_
  exact h _ (hk.row h6) (below_row (below_alloc w1 _) (Nat.le_refl _) _)
theorem RD.fls {w : World} {vl v1 v2 v3 v4 v5 : Value} {d : AD} (h : RD w (.agg #[vl, v1, v2, v3, v4, v5]) d) : FLs w vl d.L := by
  obtain ⟨vl', e, h1⟩ := h
  simp only [dv, Value.agg.injEq] at e
  have e0 := congrArg (fun x : Array Value => x[0]?) e
  simp at e0
  subst e0
  exact h1
/-- a disk is loaded out of its block, in a statement whose order is open -/
theorem exec_load_db {a : Act} {o : Oper} {w : World} {g : Nat} {cs : Array Value} (x : Operand) (ho : o.op = .load 29 x) (hx : a.eval x = .pointer (some ⟨g, 0, none⟩)) (h : DB w g cs) :
    (execOp a.eval o).run Try.prog w = .ok (.value (.agg cs)) w := by
  unfold execOp
  simp only [ho, hx, Instr.loadAt, Instr.sureAddr, Sem.run_bind, Sem.run_pure, Result.andThen_ok, disk_load h.1 h.2]
/-- another disk, and a file, in blocks of their own -/
structure Sq (g : Nat) (xs : Array Value) (q : Nat) (v0 v1 v2 v3 : Value) (W : World) : Prop where
  x : DB W g xs
  f : W.heap[q]? = some (.cells #[v0, v1, v2, v3] 82 (0, 0))
theorem Sq.next {W W' : World} {xs : Array Value} {g q : Nat} {v0 v1 v2 v3 : Value} (h : Sq g xs q v0 v1 v2 v3 W) (hb : Below W.heap.size W W') : Sq g xs q v0 v1 v2 v3 W' :=
  ⟨h.x.below hb (Array.getElem?_eq_some_iff.1 h.x.1).1, by rw [hb.block q (Array.getElem?_eq_some_iff.1 h.f).1]; exact h.f⟩
theorem Sq.cells {W : World} {xs : Array Value} {g q : Nat} {v0 v1 v2 v3 : Value} (h : Sq g xs q v0 v1 v2 v3 W) :
    W.cell? ⟨q, 0, none⟩ = some v0 ∧ W.cell? ⟨q, 1, none⟩ = some v1 ∧ W.cell? ⟨q, 2, none⟩ = some v2 ∧ W.cell? ⟨q, 3, none⟩ = some v3 := by
  have hc := fun j => cell_of_row W q j _ _ _ h.f
  exact ⟨hc 0, hc 1, hc 2, hc 3⟩
theorem Sq.start {W : World} {xs : Array Value} {g : Nat} {v0 v1 v2 v3 : Value} (hx : DB W g xs) : Sq g xs W.heap.size v0 v1 v2 v3 (W.alloc (.cells #[v0, v1, v2, v3] 82)) :=
  ⟨hx.below (below_alloc W _) (Array.getElem?_eq_some_iff.1 hx.1).1, heap_alloc_last W _⟩
theorem Sq.row {W : World} {xs : Array Value} {g q : Nat} {v0 v1 v2 v3 : Value} (h : Sq g xs q v0 v1 v2 v3 W) (b : Nat) (hg : g ≠ b) (hq : q ≠ b) (cs : Array Value) : Sq g xs q v0 v1 v2 v3 (W.setRow b cs) :=
  ⟨⟨by rw [setRow_other W b g cs hg]; exact h.x.1, h.x.2⟩, by rw [setRow_other W b q cs hq]; exact h.f⟩
/-- another disk, the box' list, and a cell of a file -/
structure Sk (F1 : Nat → Bool) (b0 : Nat) (lv : Value) (g : Nat) (xs : Array Value) (q : Addr) (v : Value) (W : World) : Prop where
  x : DB W g xs
  c0 : W.cell? ⟨b0, 0, none⟩ = some lv
  k : (mask F1 W).cell? q = some v
theorem Sk.next {F1 : Nat → Bool} {b0 : Nat} {lv : Value} {W W' : World} {xs : Array Value} {g : Nat} {q : Addr} {v : Value} (h : Sk F1 b0 lv g xs q v W) (hb : Below W.heap.size W W') : Sk F1 b0 lv g xs q v W' :=
  ⟨h.x.below hb (Array.getElem?_eq_some_iff.1 h.x.1).1, cell_keep hb h.c0, kin_mask hb _ _ h.k⟩
theorem Sk.row {F1 : Nat → Bool} {b0 : Nat} {lv : Value} {W : World} {xs : Array Value} {g : Nat} {q : Addr} {v : Value} (h : Sk F1 b0 lv g xs q v W) (b : Nat) (hg : g ≠ b) (h0 : b0 ≠ b) (hb : F1 b = true) (cs : Array Value) : Sk F1 b0 lv g xs q v (W.setRow b cs) := by
  refine ⟨⟨by rw [setRow_other W b g cs hg]; exact h.x.1, h.x.2⟩, ?_, ((Ext.refl F1 W).setRow b hb cs).kin _ _ h.k⟩
  have := h.c0
  unfold World.cell? at this ⊢
  rw [setRow_other W b b0 cs h0]; exact this
theorem bool_parts : (Try.prog.info? 4).map (fun i => (i.zero, i.size, i.bytes)) = some (some (.bool false), 1, 1) := by kernel_rfl
theorem bools_cells (k : Nat) : ((List.replicate k false).map Value.bool).toArray = Array.replicate k (Value.bool false) := by simp
theorem make_bools_run (k : Nat) (hk : (k : Int) ≤ 1000000000000) (w : World) :
    (Instr.makeSlice 80 (.int .i64 (k : Int)) (.int .i64 (k : Int))).run Try.prog w = .ok (.slice (some ⟨w.heap.size, 0, none⟩) k k) (w.alloc (.cells (Array.replicate k (Value.bool false)) 4)) := by
  obtain ⟨i, hi, hz0, hz1, hz2⟩ := info_parts bool_parts
  have h := run_make (P := Try.prog) w 80 4 i _ Try.underlying80 hi hz0 .i64 .i64 k k (by omega) (by omega) (by rw [hz2]; omega) (by omega)
  simp only [Int.toNat_natCast, hz1, Nat.mul_one] at h
  rw [h]
  have : madeCells (Value.bool false).cells k = Array.replicate k (Value.bool false) := by
    rw [show (Value.bool false).cells = #[.bool false] from rfl, ← Array.toList_inj, toList_madeCells_one]
    simp
  rw [this]
theorem make_secs_run (k : Nat) (hk : (k : Int) ≤ 1000000000) (w : World) :
    (Instr.makeSlice 42 (.int .i64 (k : Int)) (.int .i64 (k : Int))).run Try.prog w = .ok (.slice (some ⟨w.heap.size, 0, none⟩) k k) (w.alloc (.cells (il .u8 (List.replicate (k * 64) 0)).toArray 67)) := by
  obtain ⟨i, hi, hz0, hz1, hz2⟩ := info_parts sec_parts
  have h := run_make (P := Try.prog) w 42 67 i _ Try.underlying42 hi hz0 .i64 .i64 k k (by omega) (by omega) (by rw [hz2]; omega) (by omega)
  simp only [Int.toNat_natCast, hz1] at h
  rw [h]
  have : madeCells (Value.agg (sv z64)).cells (k * 64) = (il .u8 (List.replicate (k * 64) 0)).toArray := by
    rw [← Array.toList_inj, made_secs]
  rw [this]
theorem below_drew_alloc (w : World) (o : Obj) : Below w.drew.heap.size w.drew (w.alloc o).drew := below_alloc w.drew o
theorem DB.next {W W' : World} {b : Nat} {cs : Array Value} (h : DB W b cs) (hb : Below W.heap.size W W') : DB W' b cs := h.below hb (Array.getElem?_eq_some_iff.1 h.1).1
theorem DB.over {W : World} {b : Nat} {cs : Array Value} (h : DB W b cs) (q : Nat) (hq : b ≠ q) (xs : Array Value) : DB (W.setRow q xs) b cs := ⟨by rw [setRow_other W q b xs hq]; exact h.1, h.2⟩
/-- what was just made -/
theorem BS.new {F : Nat → Bool} {w : World} (hF : Foot F w.heap.size) (k : Nat) (bs : List Bool) (hl : bs.length = k) (hk : k ≤ 9223372036854775807) (t : TypeId) :
    BS (mask F (w.alloc (.cells ((bs.map Value.bool).toArray) t))) (.slice (some ⟨w.heap.size, 0, none⟩) k k) k bs := by
  refine ⟨_, k, rfl, by simp [hl], Nat.le_refl _, hk, fun h => by simp at h, fun _ => ⟨w.heap.size, 0, rfl, fun j hj => ?_⟩⟩
  have hf : F w.heap.size = false := by
    cases hq : F w.heap.size with
    | false => rfl
    | true => have := hF _ hq; omega
  have h1 : (mask F (w.alloc (.cells ((bs.map Value.bool).toArray) t))).heap[w.heap.size]? = some (.cells ((bs.map Value.bool).toArray) t (0, 0)) := by
    rw [mask_heap, heap_alloc_last]; simp [hf]
  rw [Nat.zero_add, cell_of_row _ _ j _ _ _ h1, List.getElem?_toArray]
theorem BS.fresh {F : Nat → Bool} {w : World} (hF : Foot F w.heap.size) (k : Nat) (hk : k ≤ 9223372036854775807) (t : TypeId) :
    BS (mask F (w.alloc (.cells (Array.replicate k (Value.bool false)) t))) (.slice (some ⟨w.heap.size, 0, none⟩) k k) k (List.replicate k false) := by
  have := BS.new hF k (List.replicate k false) (by simp) hk t
  rwa [bools_cells] at this
theorem FS.new {F : Nat → Bool} {w : World} (hF : Foot F w.heap.size) (k : Nat) (fs : List Int) (hl : fs.length = k * 64) (hk : k ≤ 9223372036854775807) (t : TypeId) :
    FS (mask F (w.alloc (.cells (il .u8 fs).toArray t))) (.slice (some ⟨w.heap.size, 0, none⟩) k k) k fs := by
  refine ⟨_, k, rfl, hl, Nat.le_refl _, hk, fun h => by simp at h, fun _ => ⟨w.heap.size, 0, rfl, fun j hj => ?_⟩⟩
  have hf : F w.heap.size = false := by
    cases hq : F w.heap.size with
    | false => rfl
    | true => have := hF _ hq; omega
  have h1 : (mask F (w.alloc (.cells (il .u8 fs).toArray t))).heap[w.heap.size]? = some (.cells (il .u8 fs).toArray t (0, 0)) := by
    rw [mask_heap, heap_alloc_last]; simp [hf]
  rw [Nat.zero_add, cell_of_row _ _ j _ _ _ h1]
  simpa using il_get .u8 fs j (by omega)
/-! what the calls come to -/
def AD.newD (c : Int) : AD := { L := [], cap := min (max c 0) 1048576, ops := 0, down := false, told := false, after := 0 }
def AD.has (d : AD) (s : ByteArray) : Prop := idxN d.L s < d.L.length
instance (d : AD) (s : ByteArray) : Decidable (d.has s) := inferInstanceAs (Decidable (_ < _))
def newF (s : ByteArray) (k : Nat) : AF := ⟨s, k, List.replicate (k * 64) 0, List.replicate (k * 64) 0, List.replicate k false⟩
/-- the file of that name (if there is none: any) -/
def AD.get (d : AD) (s : ByteArray) : AF := (d.L[idxN d.L s]?).getD (newF s 0)
def rightB (s : ByteArray) : Bool := nameN s.data.toList
/-- an op, and what it does if it is done -/
def AD.opR (d : AD) (g : AD → AD) : AD × Int := if d.ope ≠ 0 then (d.opd, d.ope) else (g d.opd, 0)
def AD.failR (d : AD) (n : Int) : AD × Int := if d.down = true then (d, 9) else if n < 0 then (d, 4) else ({ d with told := true, after := n }, 0)
def AD.removeR (d : AD) (s : ByteArray) : AD × Int := if d.down = true then (d, 9) else if ¬ d.has s then (d, 7) else d.opR fun x => x.without s
def AD.makeR (d : AD) (s : ByteArray) (n : Int) : AD × Int :=
  if d.down = true then (d, 9) else if rightB s = false then (d, 10) else if d.has s then (d, 8) else if n < 1 ∨ 64 < n then (d, 4)
  else if d.cap < (usedN d.L : Int) + n ∨ 64 ≤ d.L.length then (d, 6) else d.opR fun x => x.withF (newF s n.toNat)
def AD.syncR (d : AD) (s : ByteArray) : AD × Int :=
  if d.down = true then (d, 9) else if ¬ d.has s then (d, 7) else d.opR fun x => x.withF { d.get s with las := (d.get s).seen, ws := List.replicate (d.get s).n false }
def AD.renameR (d : AD) (s t : ByteArray) : AD × Int :=
  if d.down = true then (d, 9) else if ¬ d.has s then (d, 7) else if rightB t = false then (d, 10) else if s = t then (d, 0) else d.opR fun x => (x.without s).withF { d.get s with name := t }
def AD.readR (d : AD) (s : ByteArray) (at_ n : Int) : List Int × Nat × Int :=
  if d.down = true then ([], 0, 9) else if ¬ d.has s then ([], 0, 7) else if at_ < 0 ∨ n < 0 ∨ ((d.get s).n : Int) < at_ ∨ ((d.get s).n : Int) - at_ < n then ([], 0, 4)
  else (((d.get s).seen.drop (at_.toNat * 64)).take (n.toNat * 64), n.toNat, 0)
def AD.writeR (d : AD) (s : ByteArray) (at_ : Int) (m : Nat) (fs : List Int) : AD × Int :=
  if d.down = true then (d, 9) else if ¬ d.has s then (d, 7) else if at_ < 0 ∨ ((d.get s).n : Int) < at_ ∨ ((d.get s).n : Int) - at_ < m then (d, 4)
  else d.opR fun x => x.withF { d.get s with seen := (d.get s).seen.take (at_.toNat * 64) ++ fs ++ (d.get s).seen.drop (at_.toNat * 64 + m * 64), ws := (d.get s).ws.take at_.toNat ++ List.replicate m true ++ (d.get s).ws.drop (at_.toNat + m) }
theorem AD.opd_L (d : AD) : d.opd.L = d.L := by unfold AD.opd; split <;> rfl
theorem AD.ope_or (d : AD) : d.ope = 0 ∨ d.ope = 9 := by unfold AD.ope; split <;> simp
theorem AD.opR_done (d : AD) (g : AD → AD) (h : d.ope = 0) : d.opR g = (g d.opd, 0) := by unfold AD.opR; rw [if_neg (by simpa using h)]
theorem AD.opR_not (d : AD) (g : AD → AD) (h : ¬ d.ope = 0) : d.opR g = (d.opd, 9) := by
  unfold AD.opR; rw [if_pos (by simpa using h)]; rcases d.ope_or with h1 | h1
  · exact absurd h1 h
  · rw [h1]
theorem AD.find_neg (d : AD) (s : ByteArray) : findI d.L s < 0 ↔ ¬ d.has s := by unfold findI AD.has; split <;> omega
theorem AD.find_has (d : AD) (s : ByteArray) (h : d.has s) : findI d.L s = (idxN d.L s : Int) := if_pos h
theorem AD.get_at (d : AD) (s : ByteArray) (h : d.has s) : d.L[idxN d.L s]? = some (d.get s) := by
  unfold AD.get AD.has at *; rw [List.getElem?_eq_getElem h]; rfl
theorem AD.get_name (d : AD) (s : ByteArray) (h : d.has s) : (d.get s).name = s := by
  have h1 := d.get_at s h
  obtain ⟨hi, e⟩ := List.getElem?_eq_some_iff.1 h1
  rw [← e]
  exact of_decide_eq_true (List.findIdx_getElem (p := fun f : AF => decide (f.name = s)) (xs := d.L) (w := hi))
end Go.Proofs.Ytpnialanmidekaa
