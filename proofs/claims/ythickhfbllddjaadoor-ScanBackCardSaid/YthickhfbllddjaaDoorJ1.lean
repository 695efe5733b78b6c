/-
  TEXTS JOINED: FragBlk, List, JoinBlk, ScanRecs. Each one's own words stand at its head.
-/
import Derived.Test.YthickhfbllddjaaDoorInfo
import Derived.Test.YthickhfbllddjaaDoorBelow
import Derived.Test.YthickhfbllddjaaDoorKeep
import Derived.Test.YthickhfbllddjaaDoorRegion
import Derived.Test.YthickhfbllddjaaDoorBase
import Derived.Test.YthickhfbllddjaaDoorSlices
/-
  A FRAGMENT IN A BLOCK: its cells, what stays and what changes, loads. Nothing here speaks of the program's functions. No condition.
-/
namespace Go.Proofs.YthickhfbllddjaaDoor
open Go.RowKit
abbrev fA (k e : Int) (v : Value) : Array Value := #[.int .i64 k, .int .u32 e, v]
theorem fr_info (c : Array Value) (h : c.size = 3) : (Tryd.prog.info? 64).map (·.size) = some c.size := by rw [h]; kernel_rfl
theorem fr_one (k e : Int) (a : Option Addr) (n m : Nat) : (fA k e (.slice a n m)).all (·.oneCell') = true := by simp [fA, Value.oneCell']
/-- the block b holds a fragment, its data's slice is v -/
def FO (w : World) (b : Nat) (k e : Int) (v : Value) : Prop := w.heap[b]? = some (.cells (fA k e v) 64 (0, 0))
section
variable {w w' : World} {b b' : Nat} {k e : Int} {v : Value}
theorem FO.lt (h : FO w b k e v) : b < w.heap.size := (Array.getElem?_eq_some_iff.1 h).1
theorem FO.keep (h : FO w b k e v) (hb : Below w.heap.size w w') : FO w' b k e v := (hb.block b h.lt).trans h
theorem FO.keepB {g : Nat} (h : FO w b k e v) (hb : Below g w w') (hlt : b < g) : FO w' b k e v := (hb.block b hlt).trans h
theorem FO.load (h : FO w b k e v) : (loadVar 64 ⟨b, 0, none⟩).run Tryd.prog w = .ok (.agg (fA k e v)) w :=
  run_loadVar_row w b _ 64 (fA k e v) (0, 0) _ h Tryd.underlying64 rfl (fr_info _ rfl)
theorem FO.row (h : FO w b k e v) (k' e' : Int) (v' : Value) : FO (w.setRow b (fA k' e' v')) b k' e' v' := setRow_heap w b _ _ _ _ h
theorem FO.apart (h : FO w b k e v) (hne : b ≠ b') (x : Array Value) : FO (w.setRow b' x) b k e v := (setRow_other w b' b x hne).trans h
theorem FO.set2 (h : FO w b k e v) (v' : Value) : FO (w.setCell ⟨b, 2, none⟩ v') b k e v' := Joins.block_setCell h _
theorem FO.set_apart (h : FO w b k e v) (hne : b ≠ b') (j : Nat) (x : Value) : FO (w.setCell ⟨b', j, none⟩ x) b k e v := (heap_setCell_other w ⟨b', j, none⟩ b x hne).trans h
theorem FO.frozen (h : FO w b k e v) (j : Nat) : w.frozen? ⟨b, j, none⟩ = false := Joins.unfrozen_of_block h j
theorem FO.cells (h : FO w b k e v) : w.cell? ⟨b, 0, none⟩ = some (.int .i64 k) ∧ w.cell? ⟨b, 1, none⟩ = some (.int .u32 e) ∧ w.cell? ⟨b, 2, none⟩ = some v :=
  ⟨cell_of_row w b 0 _ _ _ h, cell_of_row w b 1 _ _ _ h, cell_of_row w b 2 _ _ _ h⟩
theorem FO.alloc (w : World) : FO (w.alloc (.cells (fA k e v) 64)) w.heap.size k e v := heap_alloc_last w _
theorem FO.new (x : Array Value) : FO ((w.alloc (.cells x 64)).setRow w.heap.size (fA k e v)) w.heap.size k e v := setRow_heap _ _ _ _ _ _ (heap_alloc_last w _)
/-- a row of bytes is not the block of a fragment -/
theorem FO.ne_own (h : FO w b k e v) {base n : Nat} {u : Value} {xs : List Value} (ho : w.ownsRow base 5 1 u n xs) : ∀ q, u.ownBlock = some q → q ≠ b := by
  intro q hq e
  subst e
  rcases ho.2 with ⟨rfl, _⟩ | ⟨q', cap, cur, rfl, _, hcur, _⟩
  · simp [Value.ownBlock] at hq
  · simp only [Value.ownBlock, Option.some.injEq] at hq
    subst hq
    rw [h] at hcur
    simp only [Option.some.injEq, Obj.cells.injEq] at hcur
    exact absurd hcur.2.1 (by decide)
theorem FO.grown (h : FO w b k e v) {base n : Nat} {u : Value} {xs : List Value} (ho : w.ownsRow base 5 1 u n xs) (hg : w.grownBy w' u.ownBlock) : FO w' b k e v :=
  (hg.block b h.lt (fun e => h.ne_own ho b e.symm rfl)).trans h
theorem FO.row_own (h : FO w b k e v) (x : Array Value) {base n : Nat} {u : Value} {xs : List Value} (ho : w.ownsRow base 5 1 u n xs) : (w.setRow b x).ownsRow base 5 1 u n xs :=
  own_over ho ⟨rfl, rfl, rfl, by simp, fun i _ hne => setRow_other w b i x (fun e => hne (by rw [e]))⟩ (fun g hg e => h.ne_own ho g hg (Option.some.inj e))
theorem FO.set_own (h : FO w b k e v) (j : Nat) (x : Value) {base n : Nat} {u : Value} {xs : List Value} (ho : w.ownsRow base 5 1 u n xs) : (w.setCell ⟨b, j, none⟩ x).ownsRow base 5 1 u n xs :=
  own_over ho ⟨rfl, rfl, rfl, by simp, fun i _ hne => heap_setCell_other w ⟨b, j, none⟩ i x (fun e => hne (by rw [e]))⟩ (fun g hg e => h.ne_own ho g hg (Option.some.inj e))
theorem exec_load_fr {o : Oper} {a : Act} (x : Operand) (ho : o.op = .load 64 x) (hx : a.eval x = .pointer (some ⟨b, 0, none⟩)) (h : FO w b k e v) :
    (execOp a.eval o).run Tryd.prog w = .ok (.value (.agg (fA k e v))) w := by
  unfold execOp
  simp only [ho, hx, Instr.loadAt, Instr.sureAddr, Sem.run_bind, Sem.run_pure, Result.andThen_ok, h.load]
/-- .. guarded or not -/
theorem wpl_load_fr {ops : Array Oper} {rest : List Oper} {o : Oper} {a : Act} {Q : Exit → Act → World → Prop} (hw : Region.wanted o (yielded ops a.tmps) = true) (x : Operand) (ho : o.op = .load 64 x) (hx : a.eval x = .pointer (some ⟨b, 0, none⟩)) (h : FO w b k e v)
    (hk : wpList Tryd.prog ops Q rest (a.put o.dst (.agg (fA k e v))) w) : wpList Tryd.prog ops Q (o :: rest) a w := by
  unfold wpList
  rw [if_pos hw]
  exact Or.inl (wp_load_row 64 x ho b hx _ (fA k e v) (0, 0) _ h Tryd.underlying64 rfl (fr_info _ rfl) hk)
end
theorem fbelow2 (w : World) (x y : Obj) : Below w.heap.size w ((w.alloc x).alloc y) := bch (balloc w x) (balloc _ y)
theorem own_fin {w : World} {base : Nat} {e : TypeId} {v : Value} {n m : Nat} {xs ys : List Int} (h : w.ownsRow base e 1 v n (il .u8 xs)) (hx : xs = ys) (hm : ys.length = m) : w.ownsRow base e 1 v m (il .u8 ys) := by
  subst hx
  have h1 := h.1
  rw [il_length] at h1
  rw [show m = n from by omega]
  exact h
end Go.Proofs.YthickhfbllddjaaDoor
/-
  LISTS IN MEMORY: cells that stay what they are from one world to another (Kin); slices of structs, told by their cells (CS); slices of bools (BS). Nothing here speaks of the program's functions. No condition.
-/
namespace Go.Proofs.YthickhfbllddjaaDoor
open Go.RowKit
/-- each cell of w is in w' what it is in w -/
def Kin (w w' : World) : Prop := ∀ (a : Addr) (v : Value), w.cell? a = some v → w'.cell? a = some v
theorem Kin.refl (w : World) : Kin w w := fun _ _ h => h
theorem Kin.trans {a b c : World} (h : Kin a b) (k : Kin b c) : Kin a c := fun x v hx => k x v (h x v hx)
theorem Kin.below {w w' : World} (h : Below w.heap.size w w') : Kin w w' := fun _ _ hx => cell_keep h hx
theorem RI.kin {k : IntKind} {w w' : World} (hb : Kin w w') {v : Value} {len : Nat} {zs : List Int} (h : RI k w v len zs) : RI k w' v len zs := by
  obtain ⟨a, cap, rfl, h1, h2, h3, h4, hc⟩ := h
  refine ⟨a, cap, rfl, h1, h2, h3, h4, fun h0 => ?_⟩
  obtain ⟨b, off, rfl, hcell⟩ := hc h0
  exact ⟨b, off, rfl, fun j hj => hb _ _ (hcell j hj)⟩
/-- a slice of n elements of k cells each, told by all their cells -/
def CS (k : Nat) (w : World) (v : Value) (n : Nat) (cs : List Value) : Prop :=
  ∃ a cap, v = .slice a n cap ∧ cs.length = n * k ∧ n ≤ cap ∧ cap ≤ 9223372036854775807 ∧ (a = none → cap = 0) ∧
    (0 < n → ∃ b off, a = some ⟨b, off, none⟩ ∧ ∀ j, j < n * k → w.cell? ⟨b, off + j, none⟩ = cs[j]?)
theorem CS.length {k : Nat} {w : World} {v : Value} {n : Nat} {cs : List Value} (h : CS k w v n cs) : cs.length = n * k := h.choose_spec.choose_spec.2.1
theorem CS.le {k : Nat} {w : World} {v : Value} {n : Nat} {cs : List Value} (h : CS k w v n cs) : n ≤ 9223372036854775807 := by
  obtain ⟨_, _, _, _, h1, h2, _⟩ := h; omega
theorem CS.form {k : Nat} {w : World} {v : Value} {n : Nat} {cs : List Value} (h : CS k w v n cs) : ∃ a cap, v = .slice a n cap ∧ n ≤ cap ∧ cap ≤ 9223372036854775807 ∧ (a = none → cap = 0) := by
  obtain ⟨a, cap, h1, _, h2, h3, h4, _⟩ := h; exact ⟨a, cap, h1, h2, h3, h4⟩
theorem CS.nil (k : Nat) (w : World) : CS k w (.slice none 0 0) 0 [] := ⟨none, 0, rfl, by simp, Nat.le_refl _, by omega, fun _ => rfl, fun h => absurd h (by omega)⟩
theorem CS.kin {k : Nat} {w w' : World} (hb : Kin w w') {v : Value} {n : Nat} {cs : List Value} (h : CS k w v n cs) : CS k w' v n cs := by
  obtain ⟨a, cap, rfl, h1, h2, h3, h4, hc⟩ := h
  refine ⟨a, cap, rfl, h1, h2, h3, h4, fun h0 => ?_⟩
  obtain ⟨b, off, rfl, hcell⟩ := hc h0
  refine ⟨b, off, rfl, fun j hj => ?_⟩
  have hj2 : cs[j]? = some cs[j] := List.getElem?_eq_getElem (by omega)
  have := hcell j hj
  rw [hj2] at this ⊢
  exact hb _ _ this
theorem CS.own {w : World} {base k : Nat} {e : TypeId} {v : Value} {n : Nat} {cs : List Value} (h : w.ownsRow base e k v n cs) : CS k w v n cs := by
  have hl : cs.length = n * k := h.1
  rcases h.2 with ⟨rfl, rfl⟩ | ⟨g, cap, cur, rfl, _, _, hnc, hcm, _⟩
  · exact ⟨none, 0, rfl, hl, Nat.le_refl _, by omega, fun _ => rfl, fun h => absurd h (by omega)⟩
  · refine ⟨_, cap, rfl, hl, hnc, by unfold maxLen at hcm; omega, fun h => by simp at h, fun _ => ⟨g, 0, rfl, fun j hj => ?_⟩⟩
    rw [Nat.zero_add, h.cellAt j (by omega)]
/-- where an element lies -/
theorem CS.at_ {k : Nat} {w : World} {a : Option Addr} {n cap : Nat} {cs : List Value} (h : CS k w (.slice a n cap) n cs) (i : Nat) (hi : i < n) :
    ∃ b off, a = some ⟨b, off, none⟩ ∧ ∀ j, j < k → w.cell? ⟨b, off + i * k + j, none⟩ = cs[i * k + j]? := by
  obtain ⟨a', cap', e, _, _, _, _, hc⟩ := h
  simp only [Value.slice.injEq, true_and] at e
  obtain ⟨rfl, rfl⟩ := e
  obtain ⟨b, off, rfl, hcell⟩ := hc (by omega)
  refine ⟨b, off, rfl, fun j hj => ?_⟩
  rw [Nat.add_assoc]
  refine hcell (i * k + j) ?_
  have : (i + 1) * k ≤ n * k := Nat.mul_le_mul_right k hi
  rw [Nat.add_mul, Nat.one_mul] at this
  omega
/-- a slice of bools -/
def BS (w : World) (v : Value) (n : Nat) (bs : List Bool) : Prop := CS 1 w v n (bs.map .bool)
theorem BS.length {w : World} {v : Value} {n : Nat} {bs : List Bool} (h : BS w v n bs) : bs.length = n := by have := CS.length h; simpa using this
theorem BS.kin {w w' : World} (hb : Kin w w') {v : Value} {n : Nat} {bs : List Bool} (h : BS w v n bs) : BS w' v n bs := CS.kin hb h
theorem BS.at_ {w : World} {a : Option Addr} {n cap : Nat} {bs : List Bool} (h : BS w (.slice a n cap) n bs) (i : Nat) (hi : i < n) :
    ∃ b off, a = some ⟨b, off, none⟩ ∧ w.cell? ⟨b, off + i, none⟩ = some (.bool (bs.getD i false)) := by
  obtain ⟨b, off, rfl, hc⟩ := CS.at_ h i hi
  refine ⟨b, off, rfl, ?_⟩
  have h1 := hc 0 (by omega)
  have hl := h.length
  have hi2 : i < bs.length := by omega
  simpa [hi2, List.getD] using h1
theorem flat_length (k : Nat) : ∀ es : List (List Value), (∀ e ∈ es, e.length = k) → es.flatten.length = es.length * k
  | [], _ => by simp
  | e :: es, h => by
    rw [List.flatten_cons, List.length_append, flat_length k es (fun x hx => h x (List.mem_cons_of_mem _ hx)), h e (List.mem_cons_self ..), List.length_cons, Nat.add_mul]; omega
theorem flat_get (k : Nat) : ∀ (es : List (List Value)) (i j : Nat), (∀ e ∈ es, e.length = k) → j < k → ∀ e, es[i]? = some e → es.flatten[i * k + j]? = e[j]?
  | [], i, j, _, _, e, he => by simp at he
  | a :: es, 0, j, h, hj, e, he => by
    simp at he; subst he
    rw [List.flatten_cons, Nat.zero_mul, Nat.zero_add, List.getElem?_append_left (by rw [h a (List.mem_cons_self ..)]; exact hj)]
  | a :: es, i + 1, j, h, hj, e, he => by
    have ha := h a (List.mem_cons_self ..)
    rw [List.flatten_cons, List.getElem?_append_right (by rw [ha, Nat.add_mul]; omega), ha, show (i + 1) * k + j - k = i * k + j from by rw [Nat.add_mul]; omega]
    exact flat_get k es i j (fun x hx => h x (List.mem_cons_of_mem _ hx)) hj e (by simpa using he)
end Go.Proofs.YthickhfbllddjaaDoor
/-
  A JOINER IN A BLOCK (layer 15): its cells, its row of bytes, what stays when it takes a fragment. Nothing here speaks of the program's functions. No condition.
-/
namespace Go.Proofs.YthickhfbllddjaaDoor
open Go.RowKit
abbrev jA (o : Bool) (v : Value) : Array Value := #[.bool o, v]
theorem jo_info (o : Bool) (v : Value) : (Tryd.prog.info? 105).map (·.size) = some (jA o v).size := by
  rw [show (jA o v).size = 2 from rfl]; kernel_rfl
theorem jo_one (o : Bool) (a : Option Addr) (n m : Nat) : (jA o (.slice a n m)).all (·.oneCell') = true := by simp [jA, Value.oneCell']
/-- the block b holds a joiner -/
def JO (w : World) (b : Nat) (o : Bool) (v : Value) : Prop := w.heap[b]? = some (.cells (jA o v) 105 (0, 0))
section
variable {w w' : World} {b b' : Nat} {o : Bool} {v : Value}
theorem JO.lt (h : JO w b o v) : b < w.heap.size := (Array.getElem?_eq_some_iff.1 h).1
theorem JO.keep (h : JO w b o v) (hb : Below w.heap.size w w') : JO w' b o v := (hb.block b h.lt).trans h
theorem JO.row (h : JO w b o v) (o' : Bool) (v' : Value) : JO (w.setRow b (jA o' v')) b o' v' := setRow_heap w b _ _ _ _ h
theorem JO.cells (h : JO w b o v) : w.cell? ⟨b, 0, none⟩ = some (.bool o) ∧ w.cell? ⟨b, 1, none⟩ = some v := ⟨cell_of_row w b 0 _ _ _ h, cell_of_row w b 1 _ _ _ h⟩
/-- a block of another kind is another block -/
theorem JO.ne (h : JO w b o v) {g : Nat} {c : Array Value} {t : TypeId} {q : Nat × Nat} (hg : w.heap[g]? = some (.cells c t q)) (ht : t ≠ 105) : g ≠ b := by
  intro e; subst e
  rw [h] at hg
  simp only [Option.some.injEq, Obj.cells.injEq] at hg
  exact ht hg.2.1.symm
theorem JO.ne_own (h : JO w b o v) {base n k : Nat} {t : TypeId} {u : Value} {xs : List Value} (ho : w.ownsRow base t k u n xs) (ht : t ≠ 105) : ∀ q, u.ownBlock = some q → q ≠ b := by
  intro q hq
  rcases ho.2 with ⟨rfl, _⟩ | ⟨q', cap, cur, rfl, _, hcur, _⟩
  · simp [Value.ownBlock] at hq
  · simp only [Value.ownBlock, Option.some.injEq] at hq
    subst hq
    exact h.ne hcur ht
theorem JO.row_own (h : JO w b o v) (x : Array Value) {base n k : Nat} {t : TypeId} {u : Value} {xs : List Value} (ho : w.ownsRow base t k u n xs) (ht : t ≠ 105) : (w.setRow b x).ownsRow base t k u n xs :=
  own_over ho ⟨rfl, rfl, rfl, by simp, fun i _ hne => setRow_other w b i x (fun e => hne (by rw [e]))⟩ (fun g hg e => h.ne_own ho ht g hg (Option.some.inj e))
theorem JO.grown (h : JO w b o v) {base n k : Nat} {t : TypeId} {u : Value} {xs : List Value} (ho : w.ownsRow base t k u n xs) (ht : t ≠ 105) (hg : w.grownBy w' u.ownBlock) : JO w' b o v :=
  (hg.block b h.lt (fun e => h.ne_own ho ht b e.symm rfl)).trans h
end
/-- a joiner, and the bytes that it has -/
structure JB (w : World) (base jb : Nat) (o : Bool) (v : Value) (h : List Int) : Prop where
  blk : JO w jb o v
  row : w.ownsRow base 5 1 v h.length (il .u8 h)
  idle : o = false → v = .slice none 0 0 ∧ h = []
  few : h.length ≤ 512
  low : base ≤ jb
theorem JB.keep {w w' : World} {base jb : Nat} {o : Bool} {v : Value} {h : List Int} (j : JB w base jb o v h) (hb : Below w.heap.size w w') : JB w' base jb o v h :=
  ⟨j.blk.keep hb, own_keep j.row hb, j.idle, j.few, j.low⟩
/-- w' is w but for the joiner's block, the block of its bytes, and new ones -/
structure Oth (w w' : World) (jb : Nat) (v : Value) : Prop where
  os : w'.os = w.os
  tape : w'.tape = w.tape
  output : w'.output = w.output
  size : w.heap.size ≤ w'.heap.size
  block : ∀ g, g < w.heap.size → g ≠ jb → some g ≠ v.ownBlock → w'.heap[g]? = w.heap[g]?
theorem Oth.refl (w : World) (jb : Nat) (v : Value) : Oth w w jb v := ⟨rfl, rfl, rfl, Nat.le_refl _, fun _ _ _ _ => rfl⟩
theorem Oth.of_below {w w' : World} {jb : Nat} {v : Value} (h : Below w.heap.size w w') : Oth w w' jb v := ⟨h.os, h.tape, h.output, h.size, fun g hg _ _ => h.block g hg⟩
theorem Oth.trans {a b c : World} {jb : Nat} {v : Value} (h : Oth a b jb v) (k : Oth b c jb v) : Oth a c jb v :=
  ⟨k.os.trans h.os, k.tape.trans h.tape, k.output.trans h.output, Nat.le_trans h.size k.size, fun g hg h1 h2 => (k.block g (Nat.lt_of_lt_of_le hg h.size) h1 h2).trans (h.block g hg h1 h2)⟩
theorem Oth.row (w : World) (jb : Nat) (v : Value) (x : Array Value) : Oth w (w.setRow jb x) jb v := ⟨rfl, rfl, rfl, by simp, fun i _ hne _ => setRow_other w jb i x hne⟩
theorem Oth.grown {w w' : World} {jb : Nat} {v : Value} (h : w.grownBy w' v.ownBlock) : Oth w w' jb v := ⟨h.os, h.tape, h.output, h.size, fun g hg _ hn => h.block g hg hn⟩
theorem JB.below {w w' : World} {base jb : Nat} {o : Bool} {v : Value} {h : List Int} (j : JB w base jb o v h) (k : Oth w w' jb v) : Below base w w' :=
  ⟨k.os, k.tape, k.output, k.size, fun g hg => k.block g (Nat.lt_trans (Nat.lt_of_lt_of_le hg j.low) j.blk.lt) (fun e => by have := j.low; omega) (fun e => by have := (j.row.lt g e.symm).1; omega)⟩
/-- a row that was there stays, where it isn't the joiner's -/
theorem JB.oth {w w' : World} {base jb : Nat} {o : Bool} {v : Value} {h : List Int} (j : JB w base jb o v h) (k : Oth w w' jb v) {base' s n : Nat} {t : TypeId} {u : Value} {xs : List Value} (ho : w.ownsRow base' t s u n xs) (ht : t ≠ 105)
    (hne : ∀ g, u.ownBlock = some g → some g ≠ v.ownBlock) : w'.ownsRow base' t s u n xs := by
  refine ⟨ho.1, ?_⟩
  rcases id ho.2 with h2 | ⟨g, cap, cur, hv, hb, hcur, h3⟩
  · exact .inl h2
  · refine .inr ⟨g, cap, cur, hv, hb, ?_, h3⟩
    rw [k.block g (Array.getElem?_eq_some_iff.1 hcur).1 (j.blk.ne_own ho ht g (by rw [hv]; rfl)) (hne g (by rw [hv]; rfl))]; exact hcur
/-- a block of another kind than the joiner and its bytes stays -/
theorem JB.oth_blk {w w' : World} {base jb : Nat} {o : Bool} {v : Value} {h : List Int} (j : JB w base jb o v h) (k : Oth w w' jb v) {g : Nat} {c : Array Value} {t : TypeId} {q : Nat × Nat} (hg : w.heap[g]? = some (.cells c t q))
    (h1 : t ≠ 105) (h2 : t ≠ 5) : w'.heap[g]? = some (.cells c t q) := by
  refine (k.block g (Array.getElem?_eq_some_iff.1 hg).1 (j.blk.ne hg h1) (fun e => ?_)).trans hg
  rcases j.row.2 with ⟨rfl, _⟩ | ⟨q', cap, cur, rfl, _, hcur, _⟩
  · simp [Value.ownBlock] at e
  · simp only [Value.ownBlock, Option.some.injEq] at e
    subst e
    rw [hg] at hcur
    simp only [Option.some.injEq, Obj.cells.injEq] at hcur
    exact h2 hcur.2.1
/-- where what a call tells lies: where the joiner's bytes lay, or in a new block -/
def Lies (w : World) (v u : Value) : Prop := ∀ g, u.ownBlock = some g → some g = v.ownBlock ∨ w.heap.size ≤ g
theorem Lies.nil (w : World) (v : Value) (n c : Nat) : Lies w v (.slice none n c) := fun g hg => by simp [Value.ownBlock] at hg
end Go.Proofs.YthickhfbllddjaaDoor
/-
  RECORDS THAT A CALL MAKES (SR), each one's bytes in a row of its own that lies apart from the joiner's; an append to them (out of layer 15's lists, by names alone). Nothing here speaks of the program's functions. No condition.
-/
namespace Go.Proofs.YthickhfbllddjaaDoor
open Go.RowKit
theorem Tryd.info_sl : (Tryd.prog.info? 38).map (fun i => (i.zero, i.size, i.bytes)) = some (some (.slice none 0 0), 1, 24) := by kernel_rfl
/-- records that a call makes; bl is where the joiner's bytes lie -/
structure SR (base : Nat) (w : World) (v : Value) (m : Nat) (es : List (List Int × Value)) (bl : Value) : Prop where
  row : w.ownsRow base 38 1 v m (es.map Prod.snd)
  data : ∀ e ∈ es, w.ownsRow base 5 1 e.2 e.1.length (il .u8 e.1)
  apart : ∀ e ∈ es, ∀ g, e.2.ownBlock = some g → some g ≠ bl.ownBlock
section
variable {base jb : Nat} {w w' : World} {v v' bl bl' hv hv' : Value} {m : Nat} {es : List (List Int × Value)} {o : Bool} {h : List Int}
theorem SR.len (r : SR base w v m es bl) : es.length = m := by have := r.row.1; simpa using this
theorem SR.nil (base : Nat) (w : World) (bl : Value) : SR base w (.slice none 0 0) 0 [] bl := ⟨World.ownsRow_nil _ _ _ _, fun e he => by simp at he, fun e he => by simp at he⟩
theorem SR.keep (r : SR base w v m es bl) (hb : Below w.heap.size w w') : SR base w' v m es bl := ⟨own_keep r.row hb, fun e he => own_keep (r.data e he) hb, r.apart⟩
theorem SR.rl (r : SR base w v m es bl) : RL .u8 w v m (es.map Prod.fst) := by
  have hl := r.len
  refine ⟨es.map Prod.snd, RV.own r.row, by simpa using hl, fun j e l he hl => ?_⟩
  have hj : j < es.length := by have := (List.getElem?_eq_some_iff.1 he).1; simpa using this
  simp [hj] at he hl
  subst he hl
  exact RI.own (r.data _ (List.getElem_mem hj))
/-- a fragment is fed -/
theorem SR.feed (r : SR base w v m es hv) (j : JB w base jb o hv h) (k : Oth w w' jb hv) (l : Lies w hv hv') : SR base w' v m es hv' := by
  refine ⟨j.oth k r.row (by decide) (own_types r.row j.row (by decide)), fun e he => j.oth k (r.data e he) (by decide) (r.apart e he), fun e he g hg e2 => ?_⟩
  have h1 := ((r.data e he).lt g hg).2
  rcases l g e2.symm with h2 | h2
  · exact r.apart e he g hg h2
  · omega
theorem SR.snoc (r : SR base w v m es bl) (hg : w.grownBy w' v.ownBlock) (e : List Int × Value) (hd : w.ownsRow base 5 1 e.2 e.1.length (il .u8 e.1)) (ha : ∀ g, e.2.ownBlock = some g → some g ≠ bl.ownBlock)
    (ho : w'.ownsRow base 38 1 v' (m + 1) (es.map Prod.snd ++ [e.2])) : SR base w' v' (m + 1) (es ++ [e]) bl := by
  refine ⟨by rw [List.map_append]; exact ho, fun x hx => ?_, fun x hx => ?_⟩
  · rcases List.mem_append.1 hx with hx | hx
    · exact own_over (r.data x hx) hg (own_types (r.data x hx) r.row (by decide))
    · obtain rfl : x = e := by simpa using hx
      exact own_over hd hg (own_types hd r.row (by decide))
  · rcases List.mem_append.1 hx with hx | hx
    · exact r.apart x hx
    · obtain rfl : x = e := by simpa using hx
      exact ha
/-- a row that was there stays, where the list grows -/
theorem SR.other (r : SR base w v m es bl) (hg : w.grownBy w' v.ownBlock) {t : TypeId} {k n base' : Nat} {u : Value} {xs : List Value} (ho : w.ownsRow base' t k u n xs) (ht : t ≠ 38) : w'.ownsRow base' t k u n xs :=
  own_over ho hg (own_types ho r.row ht)
theorem SR.blk (r : SR base w v m es bl) (hg : w.grownBy w' v.ownBlock) {g : Nat} {c : Array Value} {t : TypeId} (hk : w.heap[g]? = some (.cells c t (0, 0))) (ht : t ≠ 38) : w'.heap[g]? = some (.cells c t (0, 0)) := by
  refine (hg.block g (Array.getElem?_eq_some_iff.1 hk).1 (fun e => ?_)).trans hk
  rcases r.row.2 with ⟨rfl, _⟩ | ⟨q, cap, cur, rfl, _, hcur, _⟩
  · simp [Value.ownBlock] at e
  · simp only [Value.ownBlock, Option.some.injEq] at e
    subst e
    rw [hk] at hcur
    simp only [Option.some.injEq, Obj.cells.injEq] at hcur
    exact ht hcur.2.1
theorem SR.joiner (r : SR base w v m es bl) (hg : w.grownBy w' v.ownBlock) (j : JB w base jb o hv h) : JB w' base jb o hv h :=
  ⟨r.blk hg j.blk (by decide), r.other hg j.row (by decide), j.idle, j.few, j.low⟩
/-- append of one record -/
theorem wpl_app_sr {ops : Array Oper} {rest : List Oper} {o : Oper} {a : Act} {Q : Exit → Act → World → Prop} (hgd : o.guard = none) (s x : Operand)
    (ho : o.op = .call { callee := .builtin .append, args := #[s, x], argTypes := #[25, 25] }) (hs : a.eval s = v) (r : SR base w v m es bl)
    (g : Nat) (e : List Int × Value) (hx : a.eval x = .slice (some ⟨g, 0, none⟩) 1 1) (hblk : w.heap[g]? = some (.cells #[e.2] 38 (0, 0)))
    (hd : w.ownsRow base 5 1 e.2 e.1.length (il .u8 e.1)) (ha : ∀ g, e.2.ownBlock = some g → some g ≠ bl.ownBlock) (hm : m ≤ 1000000) (hbase : base ≤ w.heap.size)
    (hq : ∀ v' w', Hid (SR base w' v' (m + 1) (es ++ [e]) bl) → Hid (w.grownBy w' v.ownBlock) → wpList Tryd.prog ops Q rest (a.put o.dst v') w') : wpList Tryd.prog ops Q (o :: rest) a w := by
  obtain ⟨i, hi, hz0, hz1, hz2⟩ := info_parts Tryd.info_sl
  obtain ⟨p, c, hv⟩ := own_form hd
  refine wpList_append_own_wide w hgd s x 25 ho base 38 i (.slice none 0 0) 1 24 Tryd.underlying25 hi hz0 hz1 hz2 rfl (by omega) v m (es.map Prod.snd) hs r.row ⟨g, 0, none⟩ 1 1 [e.2] hx rfl ?_ (by simp [Value.oneCell', hv]) (by unfold maxLen; omega) (by omega) hbase ?_
  · intro j u hj
    match j, hj with
    | 0, hj => simp at hj; subst hj; simpa [Addr.add] using cell_of_row w g 0 _ _ _ hblk
  · intro v' w' ho' hg _
    exact hq v' w' (r.snoc hg e hd ha ho') hg
end
end Go.Proofs.YthickhfbllddjaaDoor
