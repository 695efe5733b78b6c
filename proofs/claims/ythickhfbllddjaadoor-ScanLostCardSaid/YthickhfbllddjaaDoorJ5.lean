/-
  TEXTS JOINED: Appw, ScanBlk, ScanFr. Each one's own words stand at its head.
-/
import Derived.Test.YthickhfbllddjaaDoorSlices
import Derived.Test.YthickhfbllddjaaDoorJ1
import Derived.Test.YthickhfbllddjaaDoorJ4
/-
  APPEND OF A SLICE'S NUMBERS TO A ROW THAT A CALL MADE, as a step of the walk that tells where the row lies then, and that nothing but its block has changed. Nothing here speaks of the program's functions. No condition.
-/
namespace Go.Proofs.YthickhfbllddjaaDoor
open Go.RowKit
section
variable {P : Program} {w : World} {ops : Array Oper} {rest : List Oper} {o : Oper} {a : Act} {Q : Exit → Act → World → Prop}
theorem wpl_appw (hgd : o.guard = none) (s x : Operand) (t : TypeId) (ho : o.op = .call { callee := .builtin .append, args := #[s, x], argTypes := #[t, t] })
    (e : TypeId) (k : IntKind) (bytes : Nat) (ht : P.underlying t = some (.slice e)) (hinfo : (P.info? e).map (fun i => (i.zero, i.size, i.bytes)) = some (some (.int k 0), 1, bytes))
    (base : Nat) (v : Value) (n : Nat) (xs : List Int) (hs : a.eval s = v) (hown : w.ownsRow base e 1 v n (il k xs))
    (v2 : Value) (m : Nat) (ys : List Int) (hx : a.eval x = v2) (hri : RI k w v2 m ys) (hbytes : ((n + m) + (n + m) / 4 + 192) * bytes ≤ 281474976710656) (h63 : n + m ≤ 9223372036854775807) (hbase : base ≤ w.heap.size)
    (h : ∀ v' w', Hid (w'.ownsRow base e 1 v' (n + m) (il k (xs ++ ys))) → Hid (w.grownBy w' v.ownBlock) → Hid (v'.ownBlock = v.ownBlock ∨ v'.ownBlock = some w.heap.size) → wpList P ops Q rest (a.put o.dst v') w') : wpList P ops Q (o :: rest) a w :=
  wpList_plain hgd fun _ hK => wp_appn s x t ho e k bytes ht hinfo base v n xs hs hown v2 m ys hx hri hbytes h63 hbase fun v' w' h1 h2 h3 => hK _ _ (h v' w' h1 h2 h3)
end
end Go.Proofs.YthickhfbllddjaaDoor
/-
  A SCANNER OF LAYER 19 IN A BLOCK, its joiner, and what it has told (SC): what stays where a callee turns the joiner, where a list grows, where a field is stored. Nothing here speaks of the program's functions. No condition.
-/
namespace Go.Proofs.YthickhfbllddjaaDoor
open Go.RowKit
abbrev sA (ep : Int) (bv kv : Value) (jb : Nat) (a b : Int) (rv pv : Value) (e k : Int) : Array Value :=
  #[.int .u32 ep, bv, kv, .pointer (some ⟨jb, 0, none⟩), .int .i64 a, .int .i64 b, rv, pv, .int .i64 e, .int .i64 k]
def SO (w : World) (sb : Nat) (ep : Int) (bv kv : Value) (jb : Nat) (a b : Int) (rv pv : Value) (e k : Int) : Prop := w.heap[sb]? = some (.cells (sA ep bv kv jb a b rv pv e k) 57 (0, 0))
section
variable {w w' : World} {sb jb : Nat} {ep a b e k : Int} {bv kv rv pv : Value}
theorem SO.lt (h : SO w sb ep bv kv jb a b rv pv e k) : sb < w.heap.size := (Array.getElem?_eq_some_iff.1 h).1
theorem SO.keep (h : SO w sb ep bv kv jb a b rv pv e k) (hb : Below w.heap.size w w') : SO w' sb ep bv kv jb a b rv pv e k := (hb.block sb h.lt).trans h
theorem SO.cells (h : SO w sb ep bv kv jb a b rv pv e k) :
    w.cell? ⟨sb, 0, none⟩ = some (.int .u32 ep) ∧ w.cell? ⟨sb, 1, none⟩ = some bv ∧ w.cell? ⟨sb, 2, none⟩ = some kv ∧ w.cell? ⟨sb, 3, none⟩ = some (.pointer (some ⟨jb, 0, none⟩)) ∧ w.cell? ⟨sb, 4, none⟩ = some (.int .i64 a) ∧
      w.cell? ⟨sb, 5, none⟩ = some (.int .i64 b) ∧ w.cell? ⟨sb, 6, none⟩ = some rv ∧ w.cell? ⟨sb, 7, none⟩ = some pv ∧ w.cell? ⟨sb, 8, none⟩ = some (.int .i64 e) ∧ w.cell? ⟨sb, 9, none⟩ = some (.int .i64 k) :=
  ⟨cell_of_row w sb 0 _ _ _ h, cell_of_row w sb 1 _ _ _ h, cell_of_row w sb 2 _ _ _ h, cell_of_row w sb 3 _ _ _ h, cell_of_row w sb 4 _ _ _ h, cell_of_row w sb 5 _ _ _ h, cell_of_row w sb 6 _ _ _ h, cell_of_row w sb 7 _ _ _ h, cell_of_row w sb 8 _ _ _ h, cell_of_row w sb 9 _ _ _ h⟩
theorem SO.frozen (h : SO w sb ep bv kv jb a b rv pv e k) (j : Nat) : w.frozen? ⟨sb, j, none⟩ = false := Joins.unfrozen_of_block h j
theorem SO.set4 (h : SO w sb ep bv kv jb a b rv pv e k) (x : Int) : SO (w.setCell ⟨sb, 4, none⟩ (.int .i64 x)) sb ep bv kv jb x b rv pv e k := Joins.block_setCell h _
theorem SO.set5 (h : SO w sb ep bv kv jb a b rv pv e k) (x : Int) : SO (w.setCell ⟨sb, 5, none⟩ (.int .i64 x)) sb ep bv kv jb a x rv pv e k := Joins.block_setCell h _
theorem SO.set6 (h : SO w sb ep bv kv jb a b rv pv e k) (x : Value) : SO (w.setCell ⟨sb, 6, none⟩ x) sb ep bv kv jb a b x pv e k := Joins.block_setCell h _
theorem SO.set7 (h : SO w sb ep bv kv jb a b rv pv e k) (x : Value) : SO (w.setCell ⟨sb, 7, none⟩ x) sb ep bv kv jb a b rv x e k := Joins.block_setCell h _
theorem SO.set8 (h : SO w sb ep bv kv jb a b rv pv e k) (x : Int) : SO (w.setCell ⟨sb, 8, none⟩ (.int .i64 x)) sb ep bv kv jb a b rv pv x k := Joins.block_setCell h _
theorem SO.set9 (h : SO w sb ep bv kv jb a b rv pv e k) (x : Int) : SO (w.setCell ⟨sb, 9, none⟩ (.int .i64 x)) sb ep bv kv jb a b rv pv e x := Joins.block_setCell h _
/-- a row of another kind lies elsewhere -/
theorem SO.ne_own (h : SO w sb ep bv kv jb a b rv pv e k) {base n c : Nat} {t : TypeId} {u : Value} {xs : List Value} (ho : w.ownsRow base t c u n xs) (ht : t ≠ 57) : ∀ q, u.ownBlock = some q → q ≠ sb := by
  rintro q hq rfl
  rcases ho.2 with ⟨rfl, _⟩ | ⟨q', cap, cur, rfl, _, hcur, _⟩
  · simp [Value.ownBlock] at hq
  · simp only [Value.ownBlock, Option.some.injEq] at hq
    subst hq
    unfold SO at h
    rw [h] at hcur
    simp only [Option.some.injEq, Obj.cells.injEq] at hcur
    exact ht hcur.2.1.symm
theorem SO.grown (h : SO w sb ep bv kv jb a b rv pv e k) {base n c : Nat} {t : TypeId} {u : Value} {xs : List Value} (ho : w.ownsRow base t c u n xs) (ht : t ≠ 57) (hg : w.grownBy w' u.ownBlock) : SO w' sb ep bv kv jb a b rv pv e k :=
  (hg.block sb h.lt (fun q => h.ne_own ho ht sb q.symm rfl)).trans h
theorem grown_store (w : World) (g j : Nat) (v : Value) : w.grownBy (w.setCell ⟨g, j, none⟩ v) (some g) :=
  ⟨rfl, rfl, rfl, by simp, fun i _ hne => heap_setCell_other w ⟨g, j, none⟩ i v (fun e => hne (by rw [e]))⟩
end
/-- a scanner, its joiner, what it has told -/
structure SC (W w : World) (sb jb : Nat) (ep : Int) (bv kv : Value) (a b e : Nat) (o : Bool) (h : List Int) (hv rv : Value) (es : List (List Int × Value)) (pv : Value) (ps : List Int) : Prop where
  blk : SO w sb ep bv kv jb a b rv pv e 0
  low : W.heap.size ≤ sb
  jn : JB w W.heap.size jb o hv h
  recs : SR W.heap.size w rv es.length es hv
  places : w.ownsRow W.heap.size 3 1 pv ps.length (il .i64 ps)
  below : Below W.heap.size W w
section
variable {W w w' : World} {sb jb : Nat} {ep : Int} {bv kv : Value} {a b e : Nat} {o o' : Bool} {h h' : List Int} {hv hv' rv rv' pv pv' : Value} {es es' : List (List Int × Value)} {ps ps' : List Int}
theorem SC.keep (c : SC W w sb jb ep bv kv a b e o h hv rv es pv ps) (hb : Below w.heap.size w w') : SC W w' sb jb ep bv kv a b e o h hv rv es pv ps :=
  ⟨c.blk.keep hb, c.low, c.jn.keep hb, c.recs.keep hb, own_keep c.places hb, bch c.below hb⟩
/-- a fragment is fed -/
theorem SC.feed (c : SC W w sb jb ep bv kv a b e o h hv rv es pv ps) (j : JB w' W.heap.size jb o' hv' h') (l : Lies w hv hv') (k : Oth w w' jb hv) : SC W w' sb jb ep bv kv a b e o' h' hv' rv es pv ps :=
  ⟨c.jn.oth_blk k c.blk (by decide) (by decide), c.low, j, c.recs.feed c.jn k l, c.jn.oth k c.places (by decide) (own_types c.places c.jn.row (by decide)), c.below.trans (c.jn.below k)⟩
/-- the scanner's block alone is turned -/
theorem SC.turn (c : SC W w sb jb ep bv kv a b e o h hv rv es pv ps) (hg : w.grownBy w' (some sb)) {a' b' e' : Nat} (hs : SO w' sb ep bv kv jb a' b' rv pv e' 0) : SC W w' sb jb ep bv kv a' b' e' o h hv rv es pv ps := by
  have hne : ∀ {base n q : Nat} {t : TypeId} {u : Value} {xs : List Value}, w.ownsRow base t q u n xs → t ≠ 57 → w'.ownsRow base t q u n xs := fun ho ht =>
    own_over ho hg (fun q hq x => c.blk.ne_own ho ht q hq (Option.some.inj x))
  refine ⟨hs, c.low, ⟨(hg.block jb c.jn.blk.lt (fun x => ?_)).trans c.jn.blk, hne c.jn.row (by decide), c.jn.idle, c.jn.few, c.jn.low⟩, ⟨hne c.recs.row (by decide), fun x hx => hne (c.recs.data x hx) (by decide), c.recs.apart⟩, hne c.places (by decide), ?_⟩
  · exact c.jn.blk.ne c.blk (by decide) (Option.some.inj x).symm
  · exact c.below.grown hg c.below.size (fun q hq => by cases hq; exact c.low)
theorem SC.set4 (c : SC W w sb jb ep bv kv a b e o h hv rv es pv ps) (x : Nat) : SC W (w.setCell ⟨sb, 4, none⟩ (.int .i64 (x : Int))) sb jb ep bv kv x b e o h hv rv es pv ps := c.turn (grown_store _ _ _ _) (c.blk.set4 x)
theorem SC.set5 (c : SC W w sb jb ep bv kv a b e o h hv rv es pv ps) (x : Nat) : SC W (w.setCell ⟨sb, 5, none⟩ (.int .i64 (x : Int))) sb jb ep bv kv a x e o h hv rv es pv ps := c.turn (grown_store _ _ _ _) (c.blk.set5 x)
theorem SC.set8 (c : SC W w sb jb ep bv kv a b e o h hv rv es pv ps) (x : Nat) : SC W (w.setCell ⟨sb, 8, none⟩ (.int .i64 (x : Int))) sb jb ep bv kv a b x o h hv rv es pv ps := c.turn (grown_store _ _ _ _) (c.blk.set8 x)
/-- the list of records has grown -/
theorem SC.more (c : SC W w sb jb ep bv kv a b e o h hv rv es pv ps) (hg : w.grownBy w' rv.ownBlock) (hr : SR W.heap.size w' rv' es'.length es' hv) : SC W (w'.setCell ⟨sb, 6, none⟩ rv') sb jb ep bv kv a b e o h hv rv' es' pv ps := by
  have hs : SO w' sb ep bv kv jb a b rv pv e 0 := c.blk.grown c.recs.row (by decide) hg
  have hj := c.recs.joiner hg c.jn
  have hp := c.recs.other hg c.places (by decide)
  have hb : Below W.heap.size W w' := c.below.grown hg c.below.size (fun q hq => (c.recs.row.lt q hq).1)
  have hg2 := grown_store w' sb 6 rv'
  have hne : ∀ {base n q : Nat} {t : TypeId} {u : Value} {xs : List Value}, w'.ownsRow base t q u n xs → t ≠ 57 → (w'.setCell ⟨sb, 6, none⟩ rv').ownsRow base t q u n xs := fun ho ht =>
    own_over ho hg2 (fun q hq x => hs.ne_own ho ht q hq (Option.some.inj x))
  exact ⟨hs.set6 rv', c.low, ⟨(hg2.block jb hj.blk.lt (fun x => hj.blk.ne hs (by decide) (Option.some.inj x).symm)).trans hj.blk, hne hj.row (by decide), hj.idle, hj.few, hj.low⟩, ⟨hne hr.row (by decide), fun x hx => hne (hr.data x hx) (by decide), hr.apart⟩, hne hp (by decide),
    hb.grown hg2 hb.size (fun q hq => by cases hq; exact c.low)⟩
/-- the list of places has grown -/
theorem SC.more7 (c : SC W w sb jb ep bv kv a b e o h hv rv es pv ps) (hg : w.grownBy w' pv.ownBlock) (hp : w'.ownsRow W.heap.size 3 1 pv' ps'.length (il .i64 ps')) : SC W (w'.setCell ⟨sb, 7, none⟩ pv') sb jb ep bv kv a b e o h hv rv es pv' ps' := by
  have hs : SO w' sb ep bv kv jb a b rv pv e 0 := c.blk.grown c.places (by decide) hg
  have hne1 : ∀ {base n q : Nat} {t : TypeId} {u : Value} {xs : List Value}, w.ownsRow base t q u n xs → t ≠ 3 → w'.ownsRow base t q u n xs := fun ho ht => own_over ho hg (own_types ho c.places ht)
  have hjb : JO w' jb o hv := c.jn.blk.grown c.places (by decide) hg
  have hb : Below W.heap.size W w' := c.below.grown hg c.below.size (fun q hq => (c.places.lt q hq).1)
  have hg2 := grown_store w' sb 7 pv'
  have hne : ∀ {base n q : Nat} {t : TypeId} {u : Value} {xs : List Value}, w'.ownsRow base t q u n xs → t ≠ 57 → (w'.setCell ⟨sb, 7, none⟩ pv').ownsRow base t q u n xs := fun ho ht =>
    own_over ho hg2 (fun q hq x => hs.ne_own ho ht q hq (Option.some.inj x))
  exact ⟨hs.set7 pv', c.low, ⟨(hg2.block jb hjb.lt (fun x => hjb.ne hs (by decide) (Option.some.inj x).symm)).trans hjb, hne (hne1 c.jn.row (by decide)) (by decide), c.jn.idle, c.jn.few, c.jn.low⟩, ⟨hne (hne1 c.recs.row (by decide)) (by decide), fun x hx => hne (hne1 (c.recs.data x hx) (by decide)) (by decide), c.recs.apart⟩, hne hp (by decide),
    hb.grown hg2 hb.size (fun q hq => by cases hq; exact c.low)⟩
end
end Go.Proofs.YthickhfbllddjaaDoor
/-
  FRAGMENTS THAT ARE MADE AND STORED: the block bears a name. Nothing here speaks of the program's functions. No condition.
-/
namespace Go.Proofs.YthickhfbllddjaaDoor
open Go.RowKit
theorem wrap_u32' (x : Int) : IntKind.u32.wrap x = x % 4294967296 := by simp [IntKind.wrap, IntKind.signed, IntKind.bits]
section
variable {o : Oper} {a : Act} {w : World} {K : Act → World → Prop} {Q : Exit → Act → World → Prop} {ops : Array Oper} {rest : List Oper}
/-- room for a fragment -/
theorem wp_new_fr (ho : o.op = .alloc 64) (h : ∀ g w', Hid (FO w' g 0 0 (.slice none 0 0)) → Hid (w.heap.size ≤ g) → Hid (Below w.heap.size w w') → K (a.put o.dst (.pointer (some ⟨g, 0, none⟩))) w') : Oper.wp Tryd.prog o a w K Q := by
  have h1 := h w.heap.size (w.alloc (.cells (fA 0 0 (.slice none 0 0)) 64)) (FO.alloc w) (Nat.le_refl _) (balloc w _)
  unfold Oper.wp execOp
  simp [ho, go_sem]
  exact h1
/-- a fragment is stored -/
theorem wp_put_fr (x y : Operand) (ho : o.op = .store 64 x y) (g : Nat) {k0 e0 : Int} {p0 : Option Addr} {n0 c0 : Nat} (hk : FO w g k0 e0 (.slice p0 n0 c0)) (k e : Int) (p : Option Addr) (n c : Nat) (hx : a.eval x = .pointer (some ⟨g, 0, none⟩)) (hy : a.eval y = .agg (fA k e (.slice p n c)))
    (h : ∀ w', Hid (FO w' g k e (.slice p n c)) → Hid (w.grownBy w' (some g)) → K (a.put o.dst undef) w') : Oper.wp Tryd.prog o a w K Q :=
  wp_store_row 64 x y ho g (fA k e (.slice p n c)) hx hy _ _ hk (fr_info _ rfl) rfl (fr_one _ _ _ _ _) (h _ (Lib.hid (hk.row k e (.slice p n c))) (Lib.hid ⟨rfl, rfl, rfl, by simp, fun i _ hne => setRow_other w g i _ (fun e => hne (by rw [e]))⟩))
theorem wpl_put_fr (hg : o.guard = none) (x y : Operand) (ho : o.op = .store 64 x y) (g : Nat) {k0 e0 : Int} {p0 : Option Addr} {n0 c0 : Nat} (hk : FO w g k0 e0 (.slice p0 n0 c0)) (k e : Int) (p : Option Addr) (n c : Nat) (hx : a.eval x = .pointer (some ⟨g, 0, none⟩)) (hy : a.eval y = .agg (fA k e (.slice p n c)))
    (h : ∀ w', Hid (FO w' g k e (.slice p n c)) → Hid (w.grownBy w' (some g)) → wpList Tryd.prog ops Q rest (a.put o.dst undef) w') : wpList Tryd.prog ops Q (o :: rest) a w :=
  wpList_plain hg fun _ hK => wp_put_fr x y ho g hk k e p n c hx hy fun w' h2 h3 => hK _ _ (h w' h2 h3)
end
theorem below_over {B : Nat} {w0 w w' : World} {g : Nat} (h : Below B w0 w) (hg : w.grownBy w' (some g)) (hB : B ≤ g) (h0 : B ≤ w.heap.size) : Below B w0 w' := h.grown hg h0 (fun q hq => by cases hq; exact hB)
theorem FO.over {w w' : World} {b g : Nat} {k e : Int} {v : Value} (h : FO w b k e v) (hg : w.grownBy w' (some g)) (hne : b ≠ g) : FO w' b k e v := (hg.block b h.lt (fun x => hne (Option.some.inj x))).trans h
end Go.Proofs.YthickhfbllddjaaDoor
