/-
  TEXTS JOINED: ScanBlk, ScanFrag, ScanTell, JoinCode, StampEmpty, ScanRest, FieldSame. Each one's own words stand at its head.
-/
import Derived.Test.YtepaghohojomeaaDoorJ19
import Derived.Test.YtepaghohojomeaaDoorJ6
import Derived.Test.YtepaghohojomeaaDoorJ11
import Derived.Test.YtepaghohojomeaaDoorJ8
import Derived.Test.YtepaghohojomeaaDoorJ12
import Derived.WalkMore
import Derived.Test.YtepaghohojomeaaDoorJ0
import Derived.Test.YtepaghohojomeaaDoorJ5
import Derived.Test.YtepaghohojomeaaDoorJ4
import Derived.Lib.SliceRun
import Derived.Test.YtepaghohojomeaaDoorJ1
import Derived.Test.YtepaghohojomeaaDoorJ3
import Derived.BigQuiet
import Derived.Deep.QuietTactic
/-
  A SCANNER OF LAYER 19 IN A BLOCK, its joiner, and what it has told (SC): what stays where a callee turns the joiner, where a list grows, where a field is stored. Nothing here speaks of the program's functions. No condition.
-/
namespace Go.Proofs.YtepaghohojomeaaDoor
open Go.RowKit
abbrev sA (ep : Int) (bv kv : Value) (jb : Nat) (a b : Int) (rv pv : Value) (e k : Int) : Array Value :=
  #[.int .u32 ep, bv, kv, .pointer (some ⟨jb, 0, none⟩), .int .i64 a, .int .i64 b, rv, pv, .int .i64 e, .int .i64 k]
def SO (w : World) (sb : Nat) (ep : Int) (bv kv : Value) (jb : Nat) (a b : Int) (rv pv : Value) (e k : Int) : Prop := w.heap[sb]? = some (.cells (sA ep bv kv jb a b rv pv e k) 80 (0, 0))
section
variable {w w' : World} {sb jb : Nat} {ep a b e k : Int} {bv kv rv pv : Value}
theorem SO.lt (h : SO w sb ep bv kv jb a b rv pv e k) : sb < w.heap.size := (Array.getElem?_eq_some_iff.1 h).1
theorem SO.keep (h : SO w sb ep bv kv jb a b rv pv e k) (hb : Below w.heap.size w w') : SO w' sb ep bv kv jb a b rv pv e k := (hb.block sb h.lt).trans h
theorem SO.cells (h : SO w sb ep bv kv jb a b rv pv e k) :
    w.cell? ⟨sb, 0, none⟩ = some (.int .u32 ep) ∧ w.cell? ⟨sb, 1, none⟩ = some bv ∧ w.cell? ⟨sb, 2, none⟩ = some kv ∧ w.cell? ⟨sb, 3, none⟩ = some (.pointer (some ⟨jb, 0, none⟩)) ∧ w.cell? ⟨sb, 4, none⟩ = some (.int .i64 a) ∧
      w.cell? ⟨sb, 5, none⟩ = some (.int .i64 b) ∧ w.cell? ⟨sb, 6, none⟩ = some rv ∧ w.cell? ⟨sb, 7, none⟩ = some pv ∧ w.cell? ⟨sb, 8, none⟩ = some (.int .i64 e) ∧ w.cell? ⟨sb, 9, none⟩ = some (.int .i64 k) :=
  ⟨cell_of_row w sb 0 _ _ _ h, cell_of_row w sb 1 _ _ _ h, cell_of_row w sb 2 _ _ _ h, cell_of_row w sb 3 _ _ _ h, cell_of_row w sb 4 _ _ _ h, cell_of_row w sb 5 _ _ _ h, cell_of_row w sb 6 _ _ _ h, cell_of_row w sb 7 _ _ _ h, cell_of_row w sb 8 _ _ _ h, cell_of_row w sb 9 _ _ _ h⟩
theorem SO.frozen (h : SO w sb ep bv kv jb a b rv pv e k) (j : Nat) : w.frozen? ⟨sb, j, none⟩ = false := Joins.unfrozen_of_block h j
theorem SO.set4 (h : SO w sb ep bv kv jb a b rv pv e k) (x : Int) : SO (w.setCell ⟨sb, 4, none⟩ (.int .i64 x)) sb ep bv kv jb x b rv pv e k := Joins.block_setCell h _
theorem SO.set5 (h : SO w sb ep bv kv jb a b rv pv e k) (x : Int) : SO (w.setCell ⟨sb, 5, none⟩ (.int .i64 x)) sb ep bv kv jb a x rv pv e k := Joins.block_setCell h _
theorem SO.set6 (h : SO w sb ep bv kv jb a b rv pv e k) (x : Value) : SO (w.setCell ⟨sb, 6, none⟩ x) sb ep bv kv jb a b x pv e k := Joins.block_setCell h _
theorem SO.set7 (h : SO w sb ep bv kv jb a b rv pv e k) (x : Value) : SO (w.setCell ⟨sb, 7, none⟩ x) sb ep bv kv jb a b rv x e k := Joins.block_setCell h _
theorem SO.set8 (h : SO w sb ep bv kv jb a b rv pv e k) (x : Int) : SO (w.setCell ⟨sb, 8, none⟩ (.int .i64 x)) sb ep bv kv jb a b rv pv x k := Joins.block_setCell h _
theorem SO.set9 (h : SO w sb ep bv kv jb a b rv pv e k) (x : Int) : SO (w.setCell ⟨sb, 9, none⟩ (.int .i64 x)) sb ep bv kv jb a b rv pv e x := Joins.block_setCell h _
/-- a row of another kind lies elsewhere -/
theorem SO.ne_own (h : SO w sb ep bv kv jb a b rv pv e k) {base n c : Nat} {t : TypeId} {u : Value} {xs : List Value} (ho : w.ownsRow base t c u n xs) (ht : t ≠ 80) : ∀ q, u.ownBlock = some q → q ≠ sb := by
  rintro q hq rfl
  rcases ho.2 with ⟨rfl, _⟩ | ⟨q', cap, cur, rfl, _, hcur, _⟩
  · simp [Value.ownBlock] at hq
  · simp only [Value.ownBlock, Option.some.injEq] at hq
    subst hq
    unfold SO at h
    rw [h] at hcur
    simp only [Option.some.injEq, Obj.cells.injEq] at hcur
    exact ht hcur.2.1.symm
theorem SO.grown (h : SO w sb ep bv kv jb a b rv pv e k) {base n c : Nat} {t : TypeId} {u : Value} {xs : List Value} (ho : w.ownsRow base t c u n xs) (ht : t ≠ 80) (hg : w.grownBy w' u.ownBlock) : SO w' sb ep bv kv jb a b rv pv e k :=
  (hg.block sb h.lt (fun q => h.ne_own ho ht sb q.symm rfl)).trans h
theorem grown_store (w : World) (g j : Nat) (v : Value) : w.grownBy (w.setCell ⟨g, j, none⟩ v) (some g) :=
  ⟨rfl, rfl, rfl, by simp, fun i _ hne => heap_setCell_other w ⟨g, j, none⟩ i v (fun e => hne (by rw [e]))⟩
end
/-- a scanner, its joiner, what it has told -/
structure SC (W w : World) (sb jb : Nat) (ep : Int) (bv kv : Value) (a b e : Nat) (o : Bool) (h : List Int) (hv rv : Value) (es : List (List Int × Value)) (pv : Value) (ps : List Int) : Prop where
  blk : SO w sb ep bv kv jb a b rv pv e 0
  low : W.heap.size ≤ sb
  jn : JB w W.heap.size jb o hv h
  recs : SR W.heap.size w rv es.length es hv
  places : w.ownsRow W.heap.size 3 1 pv ps.length (il .i64 ps)
  below : Below W.heap.size W w
section
variable {W w w' : World} {sb jb : Nat} {ep : Int} {bv kv : Value} {a b e : Nat} {o o' : Bool} {h h' : List Int} {hv hv' rv rv' pv pv' : Value} {es es' : List (List Int × Value)} {ps ps' : List Int}
theorem SC.keep (c : SC W w sb jb ep bv kv a b e o h hv rv es pv ps) (hb : Below w.heap.size w w') : SC W w' sb jb ep bv kv a b e o h hv rv es pv ps :=
  ⟨c.blk.keep hb, c.low, c.jn.keep hb, c.recs.keep hb, own_keep c.places hb, bch c.below hb⟩
/-- a fragment is fed -/
theorem SC.feed (c : SC W w sb jb ep bv kv a b e o h hv rv es pv ps) (j : JB w' W.heap.size jb o' hv' h') (l : Lies w hv hv') (k : Oth w w' jb hv) : SC W w' sb jb ep bv kv a b e o' h' hv' rv es pv ps :=
  ⟨c.jn.oth_blk k c.blk (by decide) (by decide), c.low, j, c.recs.feed c.jn k l, c.jn.oth k c.places (by decide) (own_types c.places c.jn.row (by decide)), c.below.trans (c.jn.below k)⟩
/-- the scanner's block alone is turned -/
theorem SC.turn (c : SC W w sb jb ep bv kv a b e o h hv rv es pv ps) (hg : w.grownBy w' (some sb)) {a' b' e' : Nat} (hs : SO w' sb ep bv kv jb a' b' rv pv e' 0) : SC W w' sb jb ep bv kv a' b' e' o h hv rv es pv ps := by
  have hne : ∀ {base n q : Nat} {t : TypeId} {u : Value} {xs : List Value}, w.ownsRow base t q u n xs → t ≠ 80 → w'.ownsRow base t q u n xs := fun ho ht =>
    own_over ho hg (fun q hq x => c.blk.ne_own ho ht q hq (Option.some.inj x))
  refine ⟨hs, c.low, ⟨(hg.block jb c.jn.blk.lt (fun x => ?_)).trans c.jn.blk, hne c.jn.row (by decide), c.jn.idle, c.jn.few, c.jn.low⟩, ⟨hne c.recs.row (by decide), fun x hx => hne (c.recs.data x hx) (by decide), c.recs.apart⟩, hne c.places (by decide), ?_⟩
  · exact c.jn.blk.ne c.blk (by decide) (Option.some.inj x).symm
  · exact c.below.grown hg c.below.size (fun q hq => by cases hq; exact c.low)
theorem SC.set4 (c : SC W w sb jb ep bv kv a b e o h hv rv es pv ps) (x : Nat) : SC W (w.setCell ⟨sb, 4, none⟩ (.int .i64 (x : Int))) sb jb ep bv kv x b e o h hv rv es pv ps := c.turn (grown_store _ _ _ _) (c.blk.set4 x)
theorem SC.set5 (c : SC W w sb jb ep bv kv a b e o h hv rv es pv ps) (x : Nat) : SC W (w.setCell ⟨sb, 5, none⟩ (.int .i64 (x : Int))) sb jb ep bv kv a x e o h hv rv es pv ps := c.turn (grown_store _ _ _ _) (c.blk.set5 x)
theorem SC.set8 (c : SC W w sb jb ep bv kv a b e o h hv rv es pv ps) (x : Nat) : SC W (w.setCell ⟨sb, 8, none⟩ (.int .i64 (x : Int))) sb jb ep bv kv a b x o h hv rv es pv ps := c.turn (grown_store _ _ _ _) (c.blk.set8 x)
/-- the list of records has grown -/
theorem SC.more (c : SC W w sb jb ep bv kv a b e o h hv rv es pv ps) (hg : w.grownBy w' rv.ownBlock) (hr : SR W.heap.size w' rv' es'.length es' hv) : SC W (w'.setCell ⟨sb, 6, none⟩ rv') sb jb ep bv kv a b e o h hv rv' es' pv ps := by
  have hs : SO w' sb ep bv kv jb a b rv pv e 0 := c.blk.grown c.recs.row (by decide) hg
  have hj := c.recs.joiner hg c.jn
  have hp := c.recs.other hg c.places (by decide)
  have hb : Below W.heap.size W w' := c.below.grown hg c.below.size (fun q hq => (c.recs.row.lt q hq).1)
  have hg2 := grown_store w' sb 6 rv'
  have hne : ∀ {base n q : Nat} {t : TypeId} {u : Value} {xs : List Value}, w'.ownsRow base t q u n xs → t ≠ 80 → (w'.setCell ⟨sb, 6, none⟩ rv').ownsRow base t q u n xs := fun ho ht =>
    own_over ho hg2 (fun q hq x => hs.ne_own ho ht q hq (Option.some.inj x))
  exact ⟨hs.set6 rv', c.low, ⟨(hg2.block jb hj.blk.lt (fun x => hj.blk.ne hs (by decide) (Option.some.inj x).symm)).trans hj.blk, hne hj.row (by decide), hj.idle, hj.few, hj.low⟩, ⟨hne hr.row (by decide), fun x hx => hne (hr.data x hx) (by decide), hr.apart⟩, hne hp (by decide),
    hb.grown hg2 hb.size (fun q hq => by cases hq; exact c.low)⟩
/-- the list of places has grown -/
theorem SC.more7 (c : SC W w sb jb ep bv kv a b e o h hv rv es pv ps) (hg : w.grownBy w' pv.ownBlock) (hp : w'.ownsRow W.heap.size 3 1 pv' ps'.length (il .i64 ps')) : SC W (w'.setCell ⟨sb, 7, none⟩ pv') sb jb ep bv kv a b e o h hv rv es pv' ps' := by
  have hs : SO w' sb ep bv kv jb a b rv pv e 0 := c.blk.grown c.places (by decide) hg
  have hne1 : ∀ {base n q : Nat} {t : TypeId} {u : Value} {xs : List Value}, w.ownsRow base t q u n xs → t ≠ 3 → w'.ownsRow base t q u n xs := fun ho ht => own_over ho hg (own_types ho c.places ht)
  have hjb : JO w' jb o hv := c.jn.blk.grown c.places (by decide) hg
  have hb : Below W.heap.size W w' := c.below.grown hg c.below.size (fun q hq => (c.places.lt q hq).1)
  have hg2 := grown_store w' sb 7 pv'
  have hne : ∀ {base n q : Nat} {t : TypeId} {u : Value} {xs : List Value}, w'.ownsRow base t q u n xs → t ≠ 80 → (w'.setCell ⟨sb, 7, none⟩ pv').ownsRow base t q u n xs := fun ho ht =>
    own_over ho hg2 (fun q hq x => hs.ne_own ho ht q hq (Option.some.inj x))
  exact ⟨hs.set7 pv', c.low, ⟨(hg2.block jb hjb.lt (fun x => hjb.ne hs (by decide) (Option.some.inj x).symm)).trans hjb, hne (hne1 c.jn.row (by decide)) (by decide), c.jn.idle, c.jn.few, c.jn.low⟩, ⟨hne (hne1 c.recs.row (by decide)) (by decide), fun x hx => hne (hne1 (c.recs.data x hx) (by decide)) (by decide), c.recs.apart⟩, hne hp (by decide),
    hb.grown hg2 hb.size (fun q hq => by cases hq; exact c.low)⟩
end
end Go.Proofs.YtepaghohojomeaaDoor
/-
  WHAT THE SCANNER'S METHODS has AND fragment ANSWER (layer 19). The table of half a byte's steps must lie in its block as start-up lays it; the body and the stamps must lie in a world that was ahead.
-/
namespace Go.Proofs.YtepaghohojomeaaDoor
open Go.RowKit
set_option maxRecDepth 8000 in
set_option maxHeartbeats 1000000 in
theorem has_any {W w : World} {sb jb : Nat} {ep a0 b0 e0 k0 : Int} {bv kv rv pv : Value} {K : List Bool} (hs : SO w sb ep bv kv jb a0 b0 rv pv e0 k0) (hb : Below W.heap.size W w) (hk : BS W kv 16 K) (f n : Nat) (hf : f ≤ 832) (hn : n ≤ 100000) :
    Calls Tryd.prog 73 #[.pointer (some ⟨sb, 0, none⟩), .int .i64 f, .int .i64 n] w fun e w' => e = .returned (.bool (covAt K (f : Int) ((f + n : Nat) : Int))) ∧ Below w.heap.size w w' := by
  obtain ⟨_, _, z2, _⟩ := hs.cells
  obtain ⟨t, ht⟩ : ∃ t, f + n = t := ⟨_, rfl⟩
  have htI : (f : Int) + (n : Int) = (t : Int) := by omega
  have htb : (t : Int) ≤ 1000000 := by omega
  have HC : Hid (Calls Tryd.prog 67 #[kv, .int .i64 (f : Int), .int .i64 (t : Int)] w fun e w' => e = .returned (.bool (covAt K (f : Int) (t : Int))) ∧ Below w.heap.size w w') := Lib.hid (covered_any kv 16 K f t (by unfold I63; omega) (by unfold I63; omega) w (hk.kin (Kin.below hb)))
  rw [ht]
  clear hs hb hk ht hn
  go_enter Tryd.func73, Tryd.ntmps73
  go_wp2_with (first
    | (go_at_call 67; (with_reducible refine (HC.out).mono ?_); rintro e w1 ⟨rfl, hb⟩; have HB1 := Lib.hid hb; clear hb))
  go_ret
  exact ⟨rfl, HB1.out⟩
/-- what fragment answers -/
def FragT (ep : Int) (B : List Int) (K : List Bool) (a : Nat) (w : World) (r : Ending) (w' : World) : Prop :=
  Below w.heap.size w w' ∧ (((scF ep B K a).2 = 0 ∧ ∃ k e x n c m, r = .returned (.tuple #[.agg (fA k e (.slice x n c)), .int .i64 m, .bool false])) ∨
    ((scF ep B K a).2 ≠ 0 ∧ ∃ x c, r = .returned (.tuple #[.agg (fA (scF ep B K a).1.kind (scF ep B K a).1.epoch (.slice x (scF ep B K a).1.data.length c)), .int .i64 ((scF ep B K a).2 : Nat), .bool true]) ∧
      w'.ownsRow w.heap.size 5 1 (.slice x (scF ep B K a).1.data.length c) (scF ep B K a).1.data.length (il .u8 (scF ep B K a).1.data)))
set_option maxRecDepth 8000 in
set_option maxHeartbeats 4000000 in
theorem fragment_any {W w : World} {sb jb : Nat} {ep a0 b0 e0 k0 : Int} {bv kv rv pv : Value} {B : List Int} {K : List Bool} (hs : SO w sb ep bv kv jb a0 b0 rv pv e0 k0) (hb : Below W.heap.size W w) (hT : Tab W) (hB : B.length = 832) (hBb : isB B) (hbv : RI .u8 W bv 832 B) (hk : BS W kv 16 K) (a : Nat) (ha : a ≤ 832) :
    Calls Tryd.prog 48 #[.pointer (some ⟨sb, 0, none⟩), .int .i64 a] w (FragT ep B K a w) := by
  obtain ⟨wa, hwa⟩ : ∃ q, w.alloc (.cells (fA 0 0 (.slice none 0 0)) 70) = q := ⟨_, rfl⟩
  have HA : Hid (FO wa w.heap.size 0 0 (.slice none 0 0)) := Lib.hid (by rw [← hwa]; exact FO.alloc w)
  have hba : Below w.heap.size w wa := by rw [← hwa]; exact balloc w _
  have HBA := Lib.hid hba
  have HSA := Lib.hid (hs.keep hba)
  have hbw : Below W.heap.size W wa := bch hb hba
  have HB0 := Lib.hid hbw
  have HT := Lib.hid hT
  have HK := Lib.hid hk
  have HHAS : Hid (∀ (w : World) (n : Nat), SO w sb ep bv kv jb a0 b0 rv pv e0 k0 → Below W.heap.size W w → n ≤ 100000 → Calls Tryd.prog 73 #[.pointer (some ⟨sb, 0, none⟩), .int .i64 a, .int .i64 n] w fun e w' => e = .returned (.bool (covAt K (a : Int) ((a + n : Nat) : Int))) ∧ Below w.heap.size w w') := Lib.hid fun w n h1 h2 h3 => has_any h1 h2 hk a n ha h3
  by_cases h8 : a = 832
  · have HR := Lib.hid (scF_far (ep := ep) (B := B) (K := K) h8)
    have h8i : (a : Int) = 832 := by omega
    clear hs hb hT hBb hbv hk hba hbw h8 hB
    go_enter Tryd.func48, Tryd.ntmps48
    go_wp2_with (first
      | (rw [hwa])
      | (refine wpl_put_fr rfl (.tmp 4) (.tmp 18) rfl w.heap.size HA.out 0 0 none 0 0 rfl rfl ?_; intro wz HZ HGZ))
    refine bodyPost_ret_by (results_row_tmp2 rfl _ _ w.heap.size _ rfl HZ.out.load) rfl ?_
    exact ⟨below_over HBA.out HGZ.out (Nat.le_refl _) HBA.out.size, .inl ⟨by rw [HR.out], _, _, _, _, _, _, rfl⟩⟩
  have h8i : ¬ (a : Int) = 832 := by omega
  cases h11 : covAt K (a : Int) ((a + 11 : Nat) : Int) with
  | false =>
    have HR := Lib.hid (scF_head (ep := ep) (B := B) (K := K) h11)
    have HH : Hid (Calls Tryd.prog 73 #[.pointer (some ⟨sb, 0, none⟩), .int .i64 a, .int .i64 11] wa fun e w' => e = .returned (.bool false) ∧ Below wa.heap.size wa w') := Lib.hid (by
      have := HHAS.out wa 11 HSA.out hbw (by omega); rwa [h11] at this)
    clear hs hb hT hBb hbv hk hba hbw h8 hB h11
    go_enter Tryd.func48, Tryd.ntmps48
    go_wp2_with (first
      | (rw [hwa])
      | (go_at_call 73; (with_reducible refine (HH.out).mono ?_); rintro e w1 ⟨rfl, hb1⟩; have HA1 := Lib.hid (HA.out.keep hb1); have HB1 := Lib.hid (bch HBA.out hb1); clear hb1)
      | (refine wpl_put_fr rfl (.tmp 4) (.tmp 18) rfl w.heap.size HA1.out 0 0 none 0 0 rfl rfl ?_; intro wz HZ HGZ))
    refine bodyPost_ret_by (results_row_tmp2 rfl _ _ w.heap.size _ rfl HZ.out.load) rfl ?_
    exact ⟨below_over HB1.out HGZ.out (Nat.le_refl _) HB1.out.size, .inl ⟨by rw [HR.out], _, _, _, _, _, _, rfl⟩⟩
  | true =>
    have HH : Hid (Calls Tryd.prog 73 #[.pointer (some ⟨sb, 0, none⟩), .int .i64 a, .int .i64 11] wa fun e w' => e = .returned (.bool true) ∧ Below wa.heap.size wa w') := Lib.hid (by
      have := HHAS.out wa 11 HSA.out hbw (by omega); rwa [h11] at this)
    have hlt0 := hs.lt
    have hwz := hb.size
    obtain ⟨ba, bc, rfl, _, hbc, _⟩ := id hbv
    obtain ⟨l, hl⟩ : ∃ l, leftN a = l := ⟨_, rfl⟩
    have hla := left_le a ha
    rw [hl] at hla
    have hna : nr (a : Int) = a := nr_nat a ha
    have HLF : Hid (∀ w, Calls Tryd.prog 66 #[.int .i64 a] w fun e w' => e = .returned (.int .i64 (l : Int)) ∧ Below w.heap.size w w') := Lib.hid fun w => by
      have := left_any (a : Int) (by unfold I63; omega) w; rwa [hna, hl] at this
    obtain ⟨t, ht⟩ : ∃ t, a + l = t := ⟨_, rfl⟩
    have htI : (a : Int) + (l : Int) = (t : Int) := by omega
    have ht8 : (t : Int) ≤ 832 := by omega
    obtain ⟨q, qc, hq⟩ := sliced_form ba a l bc 1
    have HSL := Lib.hid hq
    have hcut : ∀ w, Below W.heap.size W w → RI .u8 w (.slice q l qc) l (bSl B a) := fun w h => by
      have := (hbv.keep h).cut a l bc (by omega) (by omega) (Nat.le_refl _)
      rw [hq] at this
      unfold bSl
      rw [hl]
      exact this
    have hbs : isB (bSl B a) := (hBb.drop _).take _
    have HDC : Hid (∀ w, Below W.heap.size W w → Calls Tryd.prog 65 #[.slice q l qc, .int .u32 ep] w (DecF (bSl B a) ep w)) := Lib.hid fun w h => fdec_any _ l _ ep w (hT.keep h) (hcut w h) hbs
    have HTL := Lib.hid ht
    have HWT : Hid (IntKind.i64.wrap (t : Int) = (t : Int)) := Lib.hid (wrap_id _ (by omega))
    have HBC : Hid (t ≤ bc) := Lib.hid (by omega)
    obtain ⟨f, m, x, hD⟩ : ∃ f m x, scD ep B a = (f, m, x) := ⟨_, _, _, rfl⟩
    have HDF : Hid (∀ w w' r, DecF (bSl B a) ep w r w' → ∃ p n c, r = .returned (.tuple #[.agg (fA f.kind f.epoch (.slice p n c)), .int .i64 (m : Nat), .int .i64 x]) ∧ w'.ownsRow w.heap.size 5 1 (.slice p n c) n (il .u8 f.data) ∧ Below w.heap.size w w') := Lib.hid fun w w' r h => by
      obtain ⟨p, n, c, h1, h2, h3⟩ := h
      rw [show fragD (bSl B a) ep = (f, m, x) from hD] at h1 h2
      exact ⟨p, n, c, h1, h2, h3⟩
    have HW0 : Hid (∀ w', Below wa.heap.size wa w' → Below W.heap.size W w' ∧ Below w.heap.size w w' ∧ FO w' w.heap.size 0 0 (.slice none 0 0) ∧ SO w' sb ep (.slice ba 832 bc) kv jb a0 b0 rv pv e0 k0) := Lib.hid fun w' h => ⟨bch HB0.out h, bch HBA.out h, HA.out.keep h, HSA.out.keep h⟩
    have hx : (x = 0 ∧ 11 ≤ m ∧ a + m ≤ 832 ∧ (∀ n, covAt K (a : Int) ((a + m : Nat) : Int) = n → if n = true then scF ep B K a = (f, m) else scF ep B K a = (noF, 0))) ∨ (x ≠ 0 ∧ scF ep B K a = (noF, 0)) := by
      by_cases h0 : x = 0
      · have h3 : (scD ep B a).2.2 = 0 := by rw [hD]; exact h0
        have hp := scD_parts hB ha h3
        rw [hD] at hp
        refine .inl ⟨h0, hp.1, hp.2.2.1, fun n hn => ?_⟩
        cases n with
        | true =>
          have := scF_yes h8 h11 h3 (by rw [hD]; exact hn)
          rw [hD] at this
          exact this
        | false => exact scF_cov (by rw [hD]; exact hn)
      · exact .inr ⟨h0, scF_err (by rw [hD]; exact h0)⟩
    obtain ⟨fk, fe, fd⟩ := f
    dsimp only at HDF
    obtain ⟨s0, s1, _⟩ := HSA.out.cells
    clear hs hb hT hBb hbv hk hba hbw h8 hB h11 hbc hl hla hna hq hcut hbs ht
    go_enter Tryd.func48, Tryd.ntmps48
    go_wp2_with (first
      | (rw [hwa])
      | (go_at_call 73; (with_reducible refine (HH.out).mono ?_); rintro e w1 ⟨rfl, hb1⟩; have HB1 := Lib.hid hb1; clear hb1))
    have HS3 : Hid (∀ w', Below wa.heap.size wa w' → w'.cell? ⟨sb, 0, none⟩ = some (.int .u32 ep) ∧ w'.cell? ⟨sb, 1, none⟩ = some (.slice ba 832 bc) ∧ Below wa.heap.size wa w') := Lib.hid fun w' h => by
      obtain ⟨q0, q1, _⟩ := (HW0.out w' h).2.2.2.cells
      exact ⟨q0, q1, h⟩
    clear s0 s1
    have HSW : Hid (sb < w.heap.size ∧ W.heap.size ≤ w.heap.size) := Lib.hid ⟨hlt0, hwz⟩
    have HWA : Hid (w.heap.size + 1 = wa.heap.size) := Lib.hid (by rw [← hwa, alloc_size])
    clear hwa hlt0 hwz
    go_wp2_with fail
    refine wp_region_held_drew (S := (fun w' => w'.cell? ⟨sb, 0, none⟩ = some (.int .u32 ep) ∧ w'.cell? ⟨sb, 1, none⟩ = some (.slice ba 832 bc) ∧ Below wa.heap.size wa w')) (by kernel_rfl) (HS3.out _ HB1.out.drew) (fun hS => ?_)
    refine wpAnyH_take (i := 0) (oi := ({ dst := some 20, op := Op.move (Operand.tmp 0), type := 75, pos := "scanner.go:59", after := #[], guard := none } : Oper)) (v := ?_) rfl (by kernel_rfl) (by kernel_rfl) (by kernel_rfl) (fun _ _ _ h => h) (Or.inl ⟨by rfl, ?_⟩) hS ?_
    rotate_left
    · (intro w hSw; (try dsimp only at hSw); go_simp; try with_reducible rfl)
    (try simp only [Act.put, List.setIfInBounds_toArray, List.set_cons_zero, List.set_cons_succ])
    refine wpAnyH_take (i := 1) (oi := ({ dst := some 21, op := Op.nilCheck (Operand.tmp 20), type := 0, pos := "scanner.go:59", after := #[{ on := 0, ground := Ground.data }], guard := none } : Oper)) (v := ?_) rfl (by kernel_rfl) (by kernel_rfl) (by kernel_rfl) (fun _ _ _ h => h) (Or.inl ⟨by rfl, ?_⟩) hS ?_
    rotate_left
    · (intro w hSw; (try dsimp only at hSw); go_simp; try with_reducible rfl)
    (try simp only [Act.put, List.setIfInBounds_toArray, List.set_cons_zero, List.set_cons_succ])
    refine wpAnyH_take (i := 2) (oi := ({ dst := some 22, op := Op.fieldAddr 80 (Operand.tmp 21) 1, type := 0, pos := "scanner.go:59", after := #[{ on := 1, ground := Ground.data }], guard := none } : Oper)) (v := ?_) rfl (by kernel_rfl) (by kernel_rfl) (by kernel_rfl) (fun _ _ _ h => h) (Or.inl ⟨by rfl, ?_⟩) hS ?_
    rotate_left
    · (intro w hSw; (try dsimp only at hSw); go_simp; try with_reducible rfl)
    (try simp only [Act.put, List.setIfInBounds_toArray, List.set_cons_zero, List.set_cons_succ])
    refine wpAnyH_take (i := 3) (oi := ({ dst := some 23, op := Op.load 43 (Operand.tmp 22), type := 43, pos := "scanner.go:59", after := #[{ on := 2, ground := Ground.data }], guard := none } : Oper)) (v := ?_) rfl (by kernel_rfl) (by kernel_rfl) (by kernel_rfl) (fun _ _ _ h => h) (Or.inl ⟨by rfl, ?_⟩) hS ?_
    rotate_left
    · (intro w hSw; (try dsimp only at hSw); go_simp; try with_reducible rfl)
    (try simp only [Act.put, List.setIfInBounds_toArray, List.set_cons_zero, List.set_cons_succ])
    refine wpAnyH_take (i := 4) (oi := ({ dst := some 24, op := Op.move (Operand.tmp 1), type := 3, pos := "scanner.go:59", after := #[], guard := none } : Oper)) (v := ?_) rfl (by kernel_rfl) (by kernel_rfl) (by kernel_rfl) (fun _ _ _ h => h) (Or.inl ⟨by rfl, ?_⟩) hS ?_
    rotate_left
    · (intro w hSw; (try dsimp only at hSw); go_simp; try with_reducible rfl)
    (try simp only [Act.put, List.setIfInBounds_toArray, List.set_cons_zero, List.set_cons_succ])
    refine wpAnyH_take (i := 5) (oi := ({ dst := some 25, op := Op.move (Operand.tmp 1), type := 3, pos := "scanner.go:59", after := #[], guard := none } : Oper)) (v := ?_) rfl (by kernel_rfl) (by kernel_rfl) (by kernel_rfl) (fun _ _ _ h => h) (Or.inl ⟨by rfl, ?_⟩) hS ?_
    rotate_left
    · (intro w hSw; (try dsimp only at hSw); go_simp; try with_reducible rfl)
    (try simp only [Act.put, List.setIfInBounds_toArray, List.set_cons_zero, List.set_cons_succ])
    refine wpAnyH_take (i := 6) (oi := ({ dst := some 26, op := Op.move (Operand.tmp 1), type := 3, pos := "scanner.go:59", after := #[], guard := none } : Oper)) (v := ?_) rfl (by kernel_rfl) (by kernel_rfl) (by kernel_rfl) (fun _ _ _ h => h) (Or.inl ⟨by rfl, ?_⟩) hS ?_
    rotate_left
    · (intro w hSw; (try dsimp only at hSw); go_simp; try with_reducible rfl)
    (try simp only [Act.put, List.setIfInBounds_toArray, List.set_cons_zero, List.set_cons_succ])
    refine wpAnyH_take (i := 10) (oi := ({ dst := some 30, op := Op.move (Operand.tmp 0), type := 75, pos := "scanner.go:59", after := #[], guard := none } : Oper)) (v := ?_) rfl (by kernel_rfl) (by kernel_rfl) (by kernel_rfl) (fun _ _ _ h => h) (Or.inl ⟨by rfl, ?_⟩) hS ?_
    rotate_left
    · (intro w hSw; (try dsimp only at hSw); go_simp; try with_reducible rfl)
    (try simp only [Act.put, List.setIfInBounds_toArray, List.set_cons_zero, List.set_cons_succ])
    refine wpAnyH_take (i := 11) (oi := ({ dst := some 31, op := Op.nilCheck (Operand.tmp 30), type := 0, pos := "scanner.go:59", after := #[{ on := 10, ground := Ground.data }], guard := none } : Oper)) (v := ?_) rfl (by kernel_rfl) (by kernel_rfl) (by kernel_rfl) (fun _ _ _ h => h) (Or.inl ⟨by rfl, ?_⟩) hS ?_
    rotate_left
    · (intro w hSw; (try dsimp only at hSw); go_simp; try with_reducible rfl)
    (try simp only [Act.put, List.setIfInBounds_toArray, List.set_cons_zero, List.set_cons_succ])
    refine wpAnyH_take (i := 12) (oi := ({ dst := some 32, op := Op.fieldAddr 80 (Operand.tmp 31) 0, type := 0, pos := "scanner.go:59", after := #[{ on := 11, ground := Ground.data }], guard := none } : Oper)) (v := ?_) rfl (by kernel_rfl) (by kernel_rfl) (by kernel_rfl) (fun _ _ _ h => h) (Or.inl ⟨by rfl, ?_⟩) hS ?_
    rotate_left
    · (intro w hSw; (try dsimp only at hSw); go_simp; try with_reducible rfl)
    (try simp only [Act.put, List.setIfInBounds_toArray, List.set_cons_zero, List.set_cons_succ])
    refine wpAnyH_take (i := 13) (oi := ({ dst := some 33, op := Op.load 68 (Operand.tmp 32), type := 68, pos := "scanner.go:59", after := #[{ on := 12, ground := Ground.data }], guard := none } : Oper)) (v := ?_) rfl (by kernel_rfl) (by kernel_rfl) (by kernel_rfl) (fun _ _ _ h => h) (Or.inl ⟨by rfl, ?_⟩) hS ?_
    rotate_left
    · (intro w hSw; (try dsimp only at hSw); go_simp; try with_reducible rfl)
    (try simp only [Act.put, List.setIfInBounds_toArray, List.set_cons_zero, List.set_cons_succ])
    refine rg_both 7 19 ({ dst := some 27, op := Op.call { callee := Callee.value (Operand.func 66), args := #[Operand.tmp 26], argTypes := #[3] }, type := 3, pos := "scanner.go:59", after := #[{ on := 6, ground := Ground.data }], guard := none } : Oper) ({ dst := some 7, op := Op.alloc 70, type := 0, pos := "scanner.go:59", after := #[], guard := none } : Oper) (by kernel_rfl) rfl rfl (fun K hK => ?_) (fun K hK => ?_)
    · skip
      go_simp
      (go_at_call 66; (with_reducible refine (HLF.out _).mono ?_); rintro r w2 ⟨rfl, hb⟩; have hN := HS3.out _ (bch hS.2.2 hb); (try (have q := Lib.hid (HG.out.keep hb); clear HG; have HG := q; clear q)); clear hb)
      refine hK.out _ _ ?_ (fun hS1 => ?_)
      · (first | exact hN | exact hS)
      clear hK K hS; have hS := hS1; clear hS1
      (try simp only [Act.put, List.setIfInBounds_toArray, List.set_cons_zero, List.set_cons_succ])
      refine wpAnyH_take (i := 8) (oi := ({ dst := some 28, op := Op.binOp BinOp.add 3 (Operand.tmp 25) (Operand.tmp 27) 3, type := 3, pos := "scanner.go:59", after := #[{ on := 5, ground := Ground.data }, { on := 7, ground := Ground.data }], guard := none } : Oper)) (v := .int .i64 (t : Int)) rfl (by kernel_rfl) (by kernel_rfl) (by kernel_rfl) (fun _ _ _ h => h) (Or.inl ⟨by rfl, ?_⟩) hS ?_
      · (intro w hSw; (try dsimp only at hSw); have z := HWT.out; go_simp; (try exact z))
      (try simp only [Act.put, List.setIfInBounds_toArray, List.set_cons_zero, List.set_cons_succ])
      refine wpAnyH_take (i := 9) (oi := ({ dst := some 29, op := Op.slice 43 (Operand.tmp 23) (some (Operand.tmp 24)) (some (Operand.tmp 28)) none, type := 43, pos := "scanner.go:59", after := #[{ on := 3, ground := Ground.data }, { on := 4, ground := Ground.data }, { on := 8, ground := Ground.data }], guard := none } : Oper)) (v := .slice q l qc) rfl (by kernel_rfl) (by kernel_rfl) (by kernel_rfl) (fun _ _ _ h => h) (Or.inl ⟨by rfl, ?_⟩) hS ?_
      · (intro w hSw; (try dsimp only at hSw); exact (exec_cut_lh (.tmp 23) (.tmp 24) (.tmp 28) rfl ba 832 bc a l rfl rfl (by rw [HTL.out]; rfl) (by rw [HTL.out]; exact HBC.out)).trans (by rw [HSL.out]))
      (try simp only [Act.put, List.setIfInBounds_toArray, List.set_cons_zero, List.set_cons_succ])
      refine rg_both 14 19 ({ dst := some 34, op := Op.call { callee := Callee.value (Operand.func 65), args := #[Operand.tmp 29, Operand.tmp 33], argTypes := #[43, 68] }, type := 94, pos := "scanner.go:59", after := #[{ on := 9, ground := Ground.data }, { on := 13, ground := Ground.data }, { on := 7, ground := Ground.chain }], guard := none } : Oper) ({ dst := some 7, op := Op.alloc 70, type := 0, pos := "scanner.go:59", after := #[], guard := none } : Oper) (by kernel_rfl) rfl rfl (fun K hK => ?_) (fun K hK => ?_)
      · skip
        go_simp
        (go_at_call 65; (refine (HDC.out _ (bch HB0.out hS.2.2)).mono ?_); rintro r w4 hd; obtain ⟨p4, n4, c4, rfl, ho, hb⟩ := HDF.out _ _ _ hd; have hN := HS3.out _ (bch hS.2.2 hb); (try (have q := Lib.hid (HG.out.keep hb); clear HG; have HG := q; clear q)); have HO := Lib.hid (own_mono ho (show w.heap.size ≤ _ from Nat.le_trans (by have := HWA.out; omega) hS.2.2.size)); clear hb ho hd)
        refine hK.out _ _ ?_ (fun hS1 => ?_)
        · (first | exact hN | exact hS)
        clear hK K hS; have hS := hS1; clear hS1
        (try simp only [Act.put, List.setIfInBounds_toArray, List.set_cons_zero, List.set_cons_succ])
        refine wpAnyH_take (i := 15) (oi := ({ dst := some 19, op := Op.move (Operand.tmp 34), type := 94, pos := "scanner.go:59", after := #[{ on := 14, ground := Ground.data }], guard := none } : Oper)) (v := ?_) rfl (by kernel_rfl) (by kernel_rfl) (by kernel_rfl) (fun _ _ _ h => h) (Or.inl ⟨by rfl, ?_⟩) hS ?_
        rotate_left
        · (intro w hSw; (try dsimp only at hSw); go_simp; try with_reducible rfl)
        (try simp only [Act.put, List.setIfInBounds_toArray, List.set_cons_zero, List.set_cons_succ])
        refine wpAnyH_take (i := 16) (oi := ({ dst := some 35, op := Op.extract (Operand.tmp 19) 0, type := 70, pos := "scanner.go:59", after := #[{ on := 15, ground := Ground.data }], guard := none } : Oper)) (v := ?_) rfl (by kernel_rfl) (by kernel_rfl) (by kernel_rfl) (fun _ _ _ h => h) (Or.inl ⟨by rfl, ?_⟩) hS ?_
        rotate_left
        · (intro w hSw; (try dsimp only at hSw); go_simp; try with_reducible rfl)
        (try simp only [Act.put, List.setIfInBounds_toArray, List.set_cons_zero, List.set_cons_succ])
        refine wpAnyH_take (i := 17) (oi := ({ dst := some 36, op := Op.extract (Operand.tmp 19) 1, type := 3, pos := "scanner.go:59", after := #[{ on := 15, ground := Ground.data }, { on := 20, ground := Ground.gcOnly Departure.lateStores }], guard := none } : Oper)) (v := ?_) rfl (by kernel_rfl) (by kernel_rfl) (by kernel_rfl) (fun _ _ _ h => h) (Or.inl ⟨by rfl, ?_⟩) hS ?_
        rotate_left
        · (intro w hSw; (try dsimp only at hSw); go_simp; try with_reducible rfl)
        (try simp only [Act.put, List.setIfInBounds_toArray, List.set_cons_zero, List.set_cons_succ])
        refine wpAnyH_take (i := 18) (oi := ({ dst := some 37, op := Op.extract (Operand.tmp 19) 2, type := 86, pos := "scanner.go:59", after := #[{ on := 15, ground := Ground.data }, { on := 21, ground := Ground.gcOnly Departure.lateStores }], guard := none } : Oper)) (v := ?_) rfl (by kernel_rfl) (by kernel_rfl) (by kernel_rfl) (fun _ _ _ h => h) (Or.inl ⟨by rfl, ?_⟩) hS ?_
        rotate_left
        · (intro w hSw; (try dsimp only at hSw); go_simp; try with_reducible rfl)
        (try simp only [Act.put, List.setIfInBounds_toArray, List.set_cons_zero, List.set_cons_succ])
        refine rg_one 19 ({ dst := some 7, op := Op.alloc 70, type := 0, pos := "scanner.go:59", after := #[], guard := none } : Oper) (by kernel_rfl) rfl (fun K hK => ?_)
        rw [if_pos (by rfl)]; refine wp_new_fr rfl ?_; intro g w5 HG hgl hb; have hN := HS3.out _ (bch hS.2.2 hb.out); (try (have q := Lib.hid (own_keep HO.out hb.out); clear HO; have HO := q; clear q)); have HGL := Lib.hid (Nat.le_trans hS.2.2.size hgl.out); clear hgl hb
        refine hK.out _ _ ?_ (fun hS1 => ?_)
        · (first | exact hN | exact hS)
        clear hK K hS; have hS := hS1; clear hS1
        (try simp only [Act.put, List.setIfInBounds_toArray, List.set_cons_zero, List.set_cons_succ])
        refine rg_one 20 ({ dst := none, op := Op.store 70 (Operand.tmp 7) (Operand.tmp 35), type := 0, pos := "scanner.go:59", after := #[{ on := 19, ground := Ground.data }, { on := 16, ground := Ground.data }, { on := 14, ground := Ground.chain }, { on := 0, ground := Ground.phase }, { on := 1, ground := Ground.phase }, { on := 2, ground := Ground.phase }, { on := 3, ground := Ground.phase }, { on := 4, ground := Ground.phase }, { on := 5, ground := Ground.phase }, { on := 6, ground := Ground.phase }, { on := 7, ground := Ground.phase }, { on := 8, ground := Ground.phase }, { on := 9, ground := Ground.phase }, { on := 10, ground := Ground.phase }, { on := 11, ground := Ground.phase }, { on := 12, ground := Ground.phase }, { on := 13, ground := Ground.phase }, { on := 14, ground := Ground.phase }, { on := 15, ground := Ground.phase }, { on := 16, ground := Ground.phase }, { on := 17, ground := Ground.textOnly Departure.lateStores }, { on := 18, ground := Ground.textOnly Departure.lateStores }, { on := 19, ground := Ground.phase }], guard := none } : Oper) (by kernel_rfl) rfl (fun K hK => ?_)
        rw [if_pos (by rfl)]; refine wp_put_fr (.tmp 7) (.tmp 35) rfl g HG.out fk fe p4 n4 c4 rfl rfl ?_; intro w6 HF6 HG6; have HO6 := Lib.hid (own_over HO.out HG6.out (fun q hq e => HG.out.ne_own HO.out q hq (Option.some.inj e))); have hN := HS3.out _ (below_over hS.2.2 HG6.out HGL.out hS.2.2.size); clear HG HO HG6
        refine hK.out _ _ ?_ (fun hS1 => ?_)
        · (first | exact hN | exact hS)
        clear hK K hS; have hS := hS1; clear hS1
        (try simp only [Act.put])
        refine wpAnyH_take (i := 21) (oi := ({ dst := some 8, op := Op.assign (Operand.tmp 36), type := 3, pos := "scanner.go:59", after := #[{ on := 17, ground := Ground.data }, { on := 20, ground := Ground.chain }, { on := 0, ground := Ground.phase }, { on := 1, ground := Ground.phase }, { on := 2, ground := Ground.phase }, { on := 3, ground := Ground.phase }, { on := 4, ground := Ground.phase }, { on := 5, ground := Ground.phase }, { on := 6, ground := Ground.phase }, { on := 7, ground := Ground.phase }, { on := 8, ground := Ground.phase }, { on := 9, ground := Ground.phase }, { on := 10, ground := Ground.phase }, { on := 11, ground := Ground.phase }, { on := 12, ground := Ground.phase }, { on := 13, ground := Ground.phase }, { on := 14, ground := Ground.phase }, { on := 15, ground := Ground.phase }, { on := 16, ground := Ground.phase }, { on := 17, ground := Ground.phase }, { on := 18, ground := Ground.textOnly Departure.lateStores }, { on := 19, ground := Ground.phase }, { on := 20, ground := Ground.phase }], guard := none } : Oper)) (v := ?_) rfl (by kernel_rfl) (by kernel_rfl) (by kernel_rfl) (fun _ _ _ h => h) (Or.inl ⟨by rfl, ?_⟩) hS ?_
        rotate_left
        · (intro w hSw; (try dsimp only at hSw); go_simp; try with_reducible rfl)
        (try simp only [Act.put, List.setIfInBounds_toArray, List.set_cons_zero, List.set_cons_succ])
        refine wpAnyH_take (i := 22) (oi := ({ dst := some 9, op := Op.assign (Operand.tmp 37), type := 86, pos := "scanner.go:59", after := #[{ on := 18, ground := Ground.data }, { on := 21, ground := Ground.chain }, { on := 0, ground := Ground.phase }, { on := 1, ground := Ground.phase }, { on := 2, ground := Ground.phase }, { on := 3, ground := Ground.phase }, { on := 4, ground := Ground.phase }, { on := 5, ground := Ground.phase }, { on := 6, ground := Ground.phase }, { on := 7, ground := Ground.phase }, { on := 8, ground := Ground.phase }, { on := 9, ground := Ground.phase }, { on := 10, ground := Ground.phase }, { on := 11, ground := Ground.phase }, { on := 12, ground := Ground.phase }, { on := 13, ground := Ground.phase }, { on := 14, ground := Ground.phase }, { on := 15, ground := Ground.phase }, { on := 16, ground := Ground.phase }, { on := 17, ground := Ground.phase }, { on := 18, ground := Ground.phase }, { on := 19, ground := Ground.phase }, { on := 20, ground := Ground.phase }, { on := 21, ground := Ground.phase }], guard := none } : Oper)) (v := ?_) rfl (by kernel_rfl) (by kernel_rfl) (by kernel_rfl) (fun _ _ _ h => h) (Or.inl ⟨by rfl, ?_⟩) hS ?_
        rotate_left
        · (intro w hSw; (try dsimp only at hSw); go_simp; try with_reducible rfl)
        (try simp only [Act.put, List.setIfInBounds_toArray, List.set_cons_zero, List.set_cons_succ])
        refine wpAnyH_done (by kernel_rfl) ?_ _
        have HB6 := Lib.hid hS.2.2
        clear hS
        (try clear hN)
        have HW6 := Lib.hid (HW0.out _ HB6.out)
        have HGN := Lib.hid (show w.heap.size ≠ g from by have := HGL.out; have := HWA.out; omega)
        have HA7 := Lib.hid (HW6.out.2.2.1.keep (Below.refl _ w6).drew)
        have HO7 := Lib.hid (own_keep HO6.out (Below.refl _ w6).drew)
        have HST : Hid (Below w.heap.size w w6.drew ∧ Below W.heap.size W w6.drew ∧ SO w6.drew sb ep (.slice ba 832 bc) kv jb a0 b0 rv pv e0 k0 ∧ FO w6.drew g fk fe (.slice p4 n4 c4)) := Lib.hid ⟨HW6.out.2.1.drew, HW6.out.1.drew, HW6.out.2.2.2.keep (Below.refl _ w6).drew, HF6.out.keep (Below.refl _ w6).drew⟩
        rcases hx with ⟨rfl, hm1, hm2, hyes⟩ | ⟨hx0, hno⟩
        · obtain ⟨y, hy⟩ : ∃ y, covAt K (a : Int) ((a + m : Nat) : Int) = y := ⟨_, rfl⟩
          have HY := Lib.hid (hyes y hy)
          have HH2 : Hid (∀ w, SO w sb ep (.slice ba 832 bc) kv jb a0 b0 rv pv e0 k0 → Below W.heap.size W w → Calls Tryd.prog 73 #[.pointer (some ⟨sb, 0, none⟩), .int .i64 a, .int .i64 m] w fun e w' => e = .returned (.bool y) ∧ Below w.heap.size w w') := Lib.hid fun w h1 h2 => by
            have := HHAS.out w m h1 h2 (by omega); rwa [hy] at this
          clear hyes hy
          go_wp2_with fail
          refine wp_region_held_drew (S := (fun w' => Below w.heap.size w w' ∧ Below W.heap.size W w' ∧ SO w' sb ep (.slice ba 832 bc) kv jb a0 b0 rv pv e0 k0 ∧ FO w' g fk fe (.slice p4 n4 c4))) (by kernel_rfl) HST.out (fun hS => ?_)
          refine wpAnyH_take (i := 0) (oi := ({ dst := some 38, op := Op.load 70 (Operand.tmp 7), type := 70, pos := "scanner.go:61", after := #[], guard := none } : Oper)) (v := ?_) rfl (by kernel_rfl) (by kernel_rfl) (by kernel_rfl) (fun _ _ _ h => h) (Or.inl ⟨by rfl, ?_⟩) hS ?_
          rotate_left
          · (intro w hSw; (try dsimp only at hSw); refine exec_load_fr (.tmp 7) ?_ ?_ hSw.2.2.2 <;> rfl)
          (try simp only [Act.put, List.setIfInBounds_toArray, List.set_cons_zero, List.set_cons_succ])
          refine wpAnyH_take (i := 1) (oi := ({ dst := some 39, op := Op.move (Operand.tmp 8), type := 3, pos := "scanner.go:61", after := #[{ on := 10, ground := Ground.gcOnly Departure.lateStores }], guard := none } : Oper)) (v := ?_) rfl (by kernel_rfl) (by kernel_rfl) (by kernel_rfl) (fun _ _ _ h => h) (Or.inl ⟨by rfl, ?_⟩) hS ?_
          rotate_left
          · (intro w hSw; (try dsimp only at hSw); go_simp; try with_reducible rfl)
          (try simp only [Act.put, List.setIfInBounds_toArray, List.set_cons_zero, List.set_cons_succ])
          refine wpAnyH_take (i := 2) (oi := ({ dst := some 40, op := Op.move (Operand.tmp 9), type := 86, pos := "scanner.go:61", after := #[], guard := none } : Oper)) (v := ?_) rfl (by kernel_rfl) (by kernel_rfl) (by kernel_rfl) (fun _ _ _ h => h) (Or.inl ⟨by rfl, ?_⟩) hS ?_
          rotate_left
          · (intro w hSw; (try dsimp only at hSw); go_simp; try with_reducible rfl)
          (try simp only [Act.put, List.setIfInBounds_toArray, List.set_cons_zero, List.set_cons_succ])
          refine wpAnyH_take (i := 3) (oi := ({ dst := some 41, op := Op.binOp BinOp.eql 86 (Operand.tmp 40) (Operand.const (Value.int IntKind.i64 0)) 86, type := 4, pos := "scanner.go:61", after := #[{ on := 2, ground := Ground.data }], guard := none } : Oper)) (v := ?_) rfl (by kernel_rfl) (by kernel_rfl) (by kernel_rfl) (fun _ _ _ h => h) (Or.inl ⟨by rfl, ?_⟩) hS ?_
          rotate_left
          · (intro w hSw; (try dsimp only at hSw); go_simp; try with_reducible rfl)
          (try simp only [Act.put, List.setIfInBounds_toArray, List.set_cons_zero, List.set_cons_succ])
          refine wpAnyH_take (i := 4) (oi := ({ dst := some 42, op := Op.move (Operand.tmp 41), type := 4, pos := "scanner.go:61", after := #[{ on := 3, ground := Ground.data }], guard := none } : Oper)) (v := ?_) rfl (by kernel_rfl) (by kernel_rfl) (by kernel_rfl) (fun _ _ _ h => h) (Or.inl ⟨by rfl, ?_⟩) hS ?_
          rotate_left
          · (intro w hSw; (try dsimp only at hSw); go_simp; try with_reducible rfl)
          (try simp only [Act.put, List.setIfInBounds_toArray, List.set_cons_zero, List.set_cons_succ])
          refine wpAnyH_take (i := 5) (oi := ({ dst := some 43, op := Op.move (Operand.tmp 0), type := 75, pos := "scanner.go:61", after := #[{ on := 4, ground := Ground.guard }], guard := some (4, true) } : Oper)) (v := ?_) rfl (by kernel_rfl) (by kernel_rfl) (by kernel_rfl) (fun _ _ _ h => h) (Or.inl ⟨by rfl, ?_⟩) hS ?_
          rotate_left
          · (intro w hSw; (try dsimp only at hSw); go_simp; try with_reducible rfl)
          (try simp only [Act.put, List.setIfInBounds_toArray, List.set_cons_zero, List.set_cons_succ])
          refine wpAnyH_take (i := 6) (oi := ({ dst := some 44, op := Op.move (Operand.tmp 1), type := 3, pos := "scanner.go:61", after := #[{ on := 4, ground := Ground.guard }], guard := some (4, true) } : Oper)) (v := ?_) rfl (by kernel_rfl) (by kernel_rfl) (by kernel_rfl) (fun _ _ _ h => h) (Or.inl ⟨by rfl, ?_⟩) hS ?_
          rotate_left
          · (intro w hSw; (try dsimp only at hSw); go_simp; try with_reducible rfl)
          (try simp only [Act.put, List.setIfInBounds_toArray, List.set_cons_zero, List.set_cons_succ])
          refine wpAnyH_take (i := 7) (oi := ({ dst := some 45, op := Op.move (Operand.tmp 8), type := 3, pos := "scanner.go:61", after := #[{ on := 4, ground := Ground.guard }], guard := some (4, true) } : Oper)) (v := ?_) rfl (by kernel_rfl) (by kernel_rfl) (by kernel_rfl) (fun _ _ _ h => h) (Or.inl ⟨by rfl, ?_⟩) hS ?_
          rotate_left
          · (intro w hSw; (try dsimp only at hSw); go_simp; try with_reducible rfl)
          (try simp only [Act.put, List.setIfInBounds_toArray, List.set_cons_zero, List.set_cons_succ])
          refine rg_one 8 ({ dst := some 46, op := Op.call { callee := Callee.value (Operand.func 73), args := #[Operand.tmp 43, Operand.tmp 44, Operand.tmp 45], argTypes := #[75, 3, 3] }, type := 4, pos := "scanner.go:61", after := #[{ on := 5, ground := Ground.data }, { on := 6, ground := Ground.data }, { on := 7, ground := Ground.data }, { on := 4, ground := Ground.chain }, { on := 4, ground := Ground.guard }], guard := some (4, true) } : Oper) (by kernel_rfl) rfl (fun K hK => ?_)
          go_simp
          (go_at_call 73; (with_reducible refine (HH2.out _ hS.2.2.1 hS.2.1).mono ?_); rintro r w7 ⟨rfl, hb⟩; have hN := (show Below w.heap.size w w7 ∧ Below W.heap.size W w7 ∧ SO w7 sb ep (.slice ba 832 bc) kv jb a0 b0 rv pv e0 k0 ∧ FO w7 g fk fe (.slice p4 n4 c4) from ⟨bch hS.1 hb, bch hS.2.1 hb, hS.2.2.1.keep hb, hS.2.2.2.keep hb⟩); have HA8 := Lib.hid (HA7.out.keep hb); have HO8 := Lib.hid (own_keep HO7.out hb); clear hb)
          refine hK.out _ _ ?_ (fun hS1 => ?_)
          · (first | exact hN | exact hS)
          clear hK K hS; have hS := hS1; clear hS1
          (try simp only [Act.put, List.setIfInBounds_toArray, List.set_cons_zero, List.set_cons_succ])
          refine wpAnyH_take (i := 9) (oi := ({ dst := some 47, op := Op.pick (Operand.tmp 42) (Operand.tmp 46) (Operand.const (Value.bool false)), type := 4, pos := "scanner.go:61", after := #[{ on := 4, ground := Ground.data }, { on := 8, ground := Ground.data }, { on := 11, ground := Ground.gcOnly Departure.lateStores }], guard := none } : Oper)) (v := ?_) rfl (by kernel_rfl) (by kernel_rfl) (by kernel_rfl) (fun _ _ _ h => h) (Or.inl ⟨by rfl, ?_⟩) hS ?_
          rotate_left
          · (intro w hSw; (try dsimp only at hSw); go_simp; try with_reducible rfl)
          (try simp only [Act.put, List.setIfInBounds_toArray, List.set_cons_zero, List.set_cons_succ])
          refine rg_one 10 ({ dst := none, op := Op.store 70 (Operand.tmp 4) (Operand.tmp 38), type := 0, pos := "scanner.go:61", after := #[{ on := 0, ground := Ground.data }, { on := 8, ground := Ground.chain }, { on := 0, ground := Ground.phase }, { on := 1, ground := Ground.textOnly Departure.lateStores }, { on := 2, ground := Ground.textOnly Departure.lateStores }, { on := 3, ground := Ground.textOnly Departure.lateStores }, { on := 4, ground := Ground.textOnly Departure.lateStores }, { on := 5, ground := Ground.textOnly Departure.lateStores }, { on := 6, ground := Ground.textOnly Departure.lateStores }, { on := 7, ground := Ground.textOnly Departure.lateStores }, { on := 8, ground := Ground.textOnly Departure.lateStoresUnsure }, { on := 9, ground := Ground.textOnly Departure.lateStores }], guard := none } : Oper) (by kernel_rfl) rfl (fun K hK => ?_)
          rw [if_pos (by rfl)]; refine wp_put_fr (.tmp 4) (.tmp 38) rfl w.heap.size HA8.out fk fe p4 n4 c4 rfl rfl ?_; intro w8 HF8 HG8; have hN := (show Below w.heap.size w w8 ∧ Below W.heap.size W w8 ∧ SO w8 sb ep (.slice ba 832 bc) kv jb a0 b0 rv pv e0 k0 ∧ FO w8 g fk fe (.slice p4 n4 c4) from ⟨below_over hS.1 HG8.out (Nat.le_refl _) hS.1.size, below_over hS.2.1 HG8.out HSW.out.2 hS.2.1.size, (HG8.out.block sb hS.2.2.1.lt (fun x => by have := HSW.out.1; have := Option.some.inj x; omega)).trans hS.2.2.1, hS.2.2.2.over HG8.out (Ne.symm HGN.out)⟩); have HO9 := Lib.hid (own_over HO8.out HG8.out (fun q hq e => HA8.out.ne_own HO8.out q hq (Option.some.inj e)))
          refine hK.out _ _ ?_ (fun hS1 => ?_)
          · (first | exact hN | exact hS)
          clear hK K hS; have hS := hS1; clear hS1
          (try simp only [Act.put])
          refine wpAnyH_take (i := 11) (oi := ({ dst := some 5, op := Op.assign (Operand.tmp 39), type := 3, pos := "scanner.go:61", after := #[{ on := 1, ground := Ground.data }, { on := 10, ground := Ground.chain }, { on := 0, ground := Ground.phase }, { on := 1, ground := Ground.phase }, { on := 2, ground := Ground.textOnly Departure.lateStores }, { on := 3, ground := Ground.textOnly Departure.lateStores }, { on := 4, ground := Ground.textOnly Departure.lateStores }, { on := 5, ground := Ground.textOnly Departure.lateStores }, { on := 6, ground := Ground.textOnly Departure.lateStores }, { on := 7, ground := Ground.textOnly Departure.lateStores }, { on := 8, ground := Ground.textOnly Departure.lateStoresUnsure }, { on := 9, ground := Ground.textOnly Departure.lateStores }, { on := 10, ground := Ground.phase }], guard := none } : Oper)) (v := ?_) rfl (by kernel_rfl) (by kernel_rfl) (by kernel_rfl) (fun _ _ _ h => h) (Or.inl ⟨by rfl, ?_⟩) hS ?_
          rotate_left
          · (intro w hSw; (try dsimp only at hSw); go_simp; try with_reducible rfl)
          (try simp only [Act.put, List.setIfInBounds_toArray, List.set_cons_zero, List.set_cons_succ])
          refine wpAnyH_take (i := 12) (oi := ({ dst := some 6, op := Op.assign (Operand.tmp 47), type := 4, pos := "scanner.go:61", after := #[{ on := 9, ground := Ground.data }, { on := 11, ground := Ground.chain }, { on := 0, ground := Ground.phase }, { on := 1, ground := Ground.phase }, { on := 2, ground := Ground.phase }, { on := 3, ground := Ground.phase }, { on := 4, ground := Ground.phase }, { on := 5, ground := Ground.phase }, { on := 6, ground := Ground.phase }, { on := 7, ground := Ground.phase }, { on := 8, ground := Ground.phase }, { on := 9, ground := Ground.phase }, { on := 10, ground := Ground.phase }, { on := 11, ground := Ground.phase }], guard := none } : Oper)) (v := ?_) rfl (by kernel_rfl) (by kernel_rfl) (by kernel_rfl) (fun _ _ _ h => h) (Or.inl ⟨by rfl, ?_⟩) hS ?_
          rotate_left
          · (intro w hSw; (try dsimp only at hSw); go_simp; try with_reducible rfl)
          (try simp only [Act.put, List.setIfInBounds_toArray, List.set_cons_zero, List.set_cons_succ])
          refine wpAnyH_done (by kernel_rfl) ?_ _
          have HB8 := Lib.hid hS.1
          clear hS
          go_wp2
          refine bodyPost_ret_by (results_row_tmp2 rfl _ _ w.heap.size _ rfl HF8.out.load) rfl ?_
          have hn4 : fd.length = n4 := (il_length .u8 fd).symm.trans (HO9.out.1.trans (Nat.mul_one _))
          subst hn4
          have hyy := HY.out
          cases y with
          | true =>
            rw [if_pos rfl] at hyy
            refine ⟨HB8.out, .inr ⟨by rw [hyy]; show m ≠ 0; omega, p4, c4, by rw [hyy]; rfl, ?_⟩⟩
            rw [hyy]; exact HO9.out
          | false =>
            rw [if_neg (by decide)] at hyy
            exact ⟨HB8.out, .inl ⟨by rw [hyy], _, _, _, _, _, _, rfl⟩⟩
        · have hx1 : (x == 0) = false := by simpa using hx0
          have HNO := Lib.hid hno
          clear hno
          go_wp2_with fail
          refine wp_region_held_drew (S := (fun w' => Below w.heap.size w w' ∧ FO w' g fk fe (.slice p4 n4 c4))) (by kernel_rfl) ⟨HST.out.1, HST.out.2.2.2⟩ (fun hS => ?_)
          refine wpAnyH_take (i := 0) (oi := ({ dst := some 38, op := Op.load 70 (Operand.tmp 7), type := 70, pos := "scanner.go:61", after := #[], guard := none } : Oper)) (v := ?_) rfl (by kernel_rfl) (by kernel_rfl) (by kernel_rfl) (fun _ _ _ h => h) (Or.inl ⟨by rfl, ?_⟩) hS ?_
          rotate_left
          · (intro w hSw; (try dsimp only at hSw); refine exec_load_fr (.tmp 7) ?_ ?_ hSw.2 <;> rfl)
          (try simp only [Act.put, List.setIfInBounds_toArray, List.set_cons_zero, List.set_cons_succ])
          refine wpAnyH_take (i := 1) (oi := ({ dst := some 39, op := Op.move (Operand.tmp 8), type := 3, pos := "scanner.go:61", after := #[{ on := 10, ground := Ground.gcOnly Departure.lateStores }], guard := none } : Oper)) (v := ?_) rfl (by kernel_rfl) (by kernel_rfl) (by kernel_rfl) (fun _ _ _ h => h) (Or.inl ⟨by rfl, ?_⟩) hS ?_
          rotate_left
          · (intro w hSw; (try dsimp only at hSw); go_simp; try with_reducible rfl)
          (try simp only [Act.put, List.setIfInBounds_toArray, List.set_cons_zero, List.set_cons_succ])
          refine wpAnyH_take (i := 2) (oi := ({ dst := some 40, op := Op.move (Operand.tmp 9), type := 86, pos := "scanner.go:61", after := #[], guard := none } : Oper)) (v := ?_) rfl (by kernel_rfl) (by kernel_rfl) (by kernel_rfl) (fun _ _ _ h => h) (Or.inl ⟨by rfl, ?_⟩) hS ?_
          rotate_left
          · (intro w hSw; (try dsimp only at hSw); go_simp; try with_reducible rfl)
          (try simp only [Act.put, List.setIfInBounds_toArray, List.set_cons_zero, List.set_cons_succ])
          refine wpAnyH_take (i := 3) (oi := ({ dst := some 41, op := Op.binOp BinOp.eql 86 (Operand.tmp 40) (Operand.const (Value.int IntKind.i64 0)) 86, type := 4, pos := "scanner.go:61", after := #[{ on := 2, ground := Ground.data }], guard := none } : Oper)) (v := ?_) rfl (by kernel_rfl) (by kernel_rfl) (by kernel_rfl) (fun _ _ _ h => h) (Or.inl ⟨by rfl, ?_⟩) hS ?_
          rotate_left
          · (intro w hSw; (try dsimp only at hSw); go_simp; try with_reducible rfl)
          (try simp only [Act.put, List.setIfInBounds_toArray, List.set_cons_zero, List.set_cons_succ])
          refine wpAnyH_take (i := 4) (oi := ({ dst := some 42, op := Op.move (Operand.tmp 41), type := 4, pos := "scanner.go:61", after := #[{ on := 3, ground := Ground.data }], guard := none } : Oper)) (v := ?_) rfl (by kernel_rfl) (by kernel_rfl) (by kernel_rfl) (fun _ _ _ h => h) (Or.inl ⟨by rfl, ?_⟩) hS ?_
          rotate_left
          · (intro w hSw; (try dsimp only at hSw); go_simp; try with_reducible rfl)
          (try simp only [Act.put, List.setIfInBounds_toArray, List.set_cons_zero, List.set_cons_succ])
          refine wpAnyH_take (i := 5) (oi := ({ dst := some 43, op := Op.move (Operand.tmp 0), type := 75, pos := "scanner.go:61", after := #[{ on := 4, ground := Ground.guard }], guard := some (4, true) } : Oper)) (v := undef) rfl (by kernel_rfl) (by kernel_rfl) (by kernel_rfl) (fun _ _ _ h => h) (Or.inr ⟨by rfl, rfl⟩) hS ?_
          (try simp only [Act.put, List.setIfInBounds_toArray, List.set_cons_zero, List.set_cons_succ])
          refine wpAnyH_take (i := 6) (oi := ({ dst := some 44, op := Op.move (Operand.tmp 1), type := 3, pos := "scanner.go:61", after := #[{ on := 4, ground := Ground.guard }], guard := some (4, true) } : Oper)) (v := undef) rfl (by kernel_rfl) (by kernel_rfl) (by kernel_rfl) (fun _ _ _ h => h) (Or.inr ⟨by rfl, rfl⟩) hS ?_
          (try simp only [Act.put, List.setIfInBounds_toArray, List.set_cons_zero, List.set_cons_succ])
          refine wpAnyH_take (i := 7) (oi := ({ dst := some 45, op := Op.move (Operand.tmp 8), type := 3, pos := "scanner.go:61", after := #[{ on := 4, ground := Ground.guard }], guard := some (4, true) } : Oper)) (v := undef) rfl (by kernel_rfl) (by kernel_rfl) (by kernel_rfl) (fun _ _ _ h => h) (Or.inr ⟨by rfl, rfl⟩) hS ?_
          (try simp only [Act.put, List.setIfInBounds_toArray, List.set_cons_zero, List.set_cons_succ])
          refine wpAnyH_take (i := 8) (oi := ({ dst := some 46, op := Op.call { callee := Callee.value (Operand.func 73), args := #[Operand.tmp 43, Operand.tmp 44, Operand.tmp 45], argTypes := #[75, 3, 3] }, type := 4, pos := "scanner.go:61", after := #[{ on := 5, ground := Ground.data }, { on := 6, ground := Ground.data }, { on := 7, ground := Ground.data }, { on := 4, ground := Ground.chain }, { on := 4, ground := Ground.guard }], guard := some (4, true) } : Oper)) (v := undef) rfl (by kernel_rfl) (by kernel_rfl) (by kernel_rfl) (fun _ _ _ h => h) (Or.inr ⟨by rfl, rfl⟩) hS ?_
          (try simp only [Act.put, List.setIfInBounds_toArray, List.set_cons_zero, List.set_cons_succ])
          refine wpAnyH_take (i := 9) (oi := ({ dst := some 47, op := Op.pick (Operand.tmp 42) (Operand.tmp 46) (Operand.const (Value.bool false)), type := 4, pos := "scanner.go:61", after := #[{ on := 4, ground := Ground.data }, { on := 8, ground := Ground.data }, { on := 11, ground := Ground.gcOnly Departure.lateStores }], guard := none } : Oper)) (v := ?_) rfl (by kernel_rfl) (by kernel_rfl) (by kernel_rfl) (fun _ _ _ h => h) (Or.inl ⟨by rfl, ?_⟩) hS ?_
          rotate_left
          · (intro w hSw; (try dsimp only at hSw); go_simp; try with_reducible rfl)
          (try simp only [Act.put, List.setIfInBounds_toArray, List.set_cons_zero, List.set_cons_succ])
          refine rg_one 10 ({ dst := none, op := Op.store 70 (Operand.tmp 4) (Operand.tmp 38), type := 0, pos := "scanner.go:61", after := #[{ on := 0, ground := Ground.data }, { on := 8, ground := Ground.chain }, { on := 0, ground := Ground.phase }, { on := 1, ground := Ground.textOnly Departure.lateStores }, { on := 2, ground := Ground.textOnly Departure.lateStores }, { on := 3, ground := Ground.textOnly Departure.lateStores }, { on := 4, ground := Ground.textOnly Departure.lateStores }, { on := 5, ground := Ground.textOnly Departure.lateStores }, { on := 6, ground := Ground.textOnly Departure.lateStores }, { on := 7, ground := Ground.textOnly Departure.lateStores }, { on := 8, ground := Ground.textOnly Departure.lateStoresUnsure }, { on := 9, ground := Ground.textOnly Departure.lateStores }], guard := none } : Oper) (by kernel_rfl) rfl (fun K hK => ?_)
          rw [if_pos (by rfl)]; refine wp_put_fr (.tmp 4) (.tmp 38) rfl w.heap.size HA7.out fk fe p4 n4 c4 rfl rfl ?_; intro w8 HF8 HG8; have hN := (show Below w.heap.size w w8 ∧ FO w8 g fk fe (.slice p4 n4 c4) from ⟨below_over hS.1 HG8.out (Nat.le_refl _) hS.1.size, hS.2.over HG8.out (Ne.symm HGN.out)⟩)
          refine hK.out _ _ ?_ (fun hS1 => ?_)
          · (first | exact hN | exact hS)
          clear hK K hS; have hS := hS1; clear hS1
          (try simp only [Act.put])
          refine wpAnyH_take (i := 11) (oi := ({ dst := some 5, op := Op.assign (Operand.tmp 39), type := 3, pos := "scanner.go:61", after := #[{ on := 1, ground := Ground.data }, { on := 10, ground := Ground.chain }, { on := 0, ground := Ground.phase }, { on := 1, ground := Ground.phase }, { on := 2, ground := Ground.textOnly Departure.lateStores }, { on := 3, ground := Ground.textOnly Departure.lateStores }, { on := 4, ground := Ground.textOnly Departure.lateStores }, { on := 5, ground := Ground.textOnly Departure.lateStores }, { on := 6, ground := Ground.textOnly Departure.lateStores }, { on := 7, ground := Ground.textOnly Departure.lateStores }, { on := 8, ground := Ground.textOnly Departure.lateStoresUnsure }, { on := 9, ground := Ground.textOnly Departure.lateStores }, { on := 10, ground := Ground.phase }], guard := none } : Oper)) (v := ?_) rfl (by kernel_rfl) (by kernel_rfl) (by kernel_rfl) (fun _ _ _ h => h) (Or.inl ⟨by rfl, ?_⟩) hS ?_
          rotate_left
          · (intro w hSw; (try dsimp only at hSw); go_simp; try with_reducible rfl)
          (try simp only [Act.put, List.setIfInBounds_toArray, List.set_cons_zero, List.set_cons_succ])
          refine wpAnyH_take (i := 12) (oi := ({ dst := some 6, op := Op.assign (Operand.tmp 47), type := 4, pos := "scanner.go:61", after := #[{ on := 9, ground := Ground.data }, { on := 11, ground := Ground.chain }, { on := 0, ground := Ground.phase }, { on := 1, ground := Ground.phase }, { on := 2, ground := Ground.phase }, { on := 3, ground := Ground.phase }, { on := 4, ground := Ground.phase }, { on := 5, ground := Ground.phase }, { on := 6, ground := Ground.phase }, { on := 7, ground := Ground.phase }, { on := 8, ground := Ground.phase }, { on := 9, ground := Ground.phase }, { on := 10, ground := Ground.phase }, { on := 11, ground := Ground.phase }], guard := none } : Oper)) (v := ?_) rfl (by kernel_rfl) (by kernel_rfl) (by kernel_rfl) (fun _ _ _ h => h) (Or.inl ⟨by rfl, ?_⟩) hS ?_
          rotate_left
          · (intro w hSw; (try dsimp only at hSw); go_simp; try with_reducible rfl)
          (try simp only [Act.put, List.setIfInBounds_toArray, List.set_cons_zero, List.set_cons_succ])
          refine wpAnyH_done (by kernel_rfl) ?_ _
          have HB8 := Lib.hid hS.1
          clear hS
          go_wp2
          refine bodyPost_ret_by (results_row_tmp2 rfl _ _ w.heap.size _ rfl HF8.out.load) rfl ?_
          exact ⟨HB8.out, .inl ⟨by rw [HNO.out], _, _, _, _, _, _, rfl⟩⟩
      · skip
        rw [if_pos (by rfl)]; refine wp_new_fr rfl ?_; intro g w5 HG hgl hb; have hN := HS3.out _ (bch hS.2.2 hb.out); (try (have q := Lib.hid (own_keep HO.out hb.out); clear HO; have HO := q; clear q)); have HGL := Lib.hid (Nat.le_trans hS.2.2.size hgl.out); clear hgl hb
        refine hK.out _ _ ?_ (fun hS1 => ?_)
        · (first | exact hN | exact hS)
        clear hK K hS; have hS := hS1; clear hS1
        (try simp only [Act.put, List.setIfInBounds_toArray, List.set_cons_zero, List.set_cons_succ])
        refine rg_one 14 ({ dst := some 34, op := Op.call { callee := Callee.value (Operand.func 65), args := #[Operand.tmp 29, Operand.tmp 33], argTypes := #[43, 68] }, type := 94, pos := "scanner.go:59", after := #[{ on := 9, ground := Ground.data }, { on := 13, ground := Ground.data }, { on := 7, ground := Ground.chain }], guard := none } : Oper) (by kernel_rfl) rfl (fun K hK => ?_)
        go_simp
        (go_at_call 65; (refine (HDC.out _ (bch HB0.out hS.2.2)).mono ?_); rintro r w4 hd; obtain ⟨p4, n4, c4, rfl, ho, hb⟩ := HDF.out _ _ _ hd; have hN := HS3.out _ (bch hS.2.2 hb); (try (have q := Lib.hid (HG.out.keep hb); clear HG; have HG := q; clear q)); have HO := Lib.hid (own_mono ho (show w.heap.size ≤ _ from Nat.le_trans (by have := HWA.out; omega) hS.2.2.size)); clear hb ho hd)
        refine hK.out _ _ ?_ (fun hS1 => ?_)
        · (first | exact hN | exact hS)
        clear hK K hS; have hS := hS1; clear hS1
        (try simp only [Act.put, List.setIfInBounds_toArray, List.set_cons_zero, List.set_cons_succ])
        refine wpAnyH_take (i := 15) (oi := ({ dst := some 19, op := Op.move (Operand.tmp 34), type := 94, pos := "scanner.go:59", after := #[{ on := 14, ground := Ground.data }], guard := none } : Oper)) (v := ?_) rfl (by kernel_rfl) (by kernel_rfl) (by kernel_rfl) (fun _ _ _ h => h) (Or.inl ⟨by rfl, ?_⟩) hS ?_
        rotate_left
        · (intro w hSw; (try dsimp only at hSw); go_simp; try with_reducible rfl)
        (try simp only [Act.put, List.setIfInBounds_toArray, List.set_cons_zero, List.set_cons_succ])
        refine wpAnyH_take (i := 16) (oi := ({ dst := some 35, op := Op.extract (Operand.tmp 19) 0, type := 70, pos := "scanner.go:59", after := #[{ on := 15, ground := Ground.data }], guard := none } : Oper)) (v := ?_) rfl (by kernel_rfl) (by kernel_rfl) (by kernel_rfl) (fun _ _ _ h => h) (Or.inl ⟨by rfl, ?_⟩) hS ?_
        rotate_left
        · (intro w hSw; (try dsimp only at hSw); go_simp; try with_reducible rfl)
        (try simp only [Act.put, List.setIfInBounds_toArray, List.set_cons_zero, List.set_cons_succ])
        refine wpAnyH_take (i := 17) (oi := ({ dst := some 36, op := Op.extract (Operand.tmp 19) 1, type := 3, pos := "scanner.go:59", after := #[{ on := 15, ground := Ground.data }, { on := 20, ground := Ground.gcOnly Departure.lateStores }], guard := none } : Oper)) (v := ?_) rfl (by kernel_rfl) (by kernel_rfl) (by kernel_rfl) (fun _ _ _ h => h) (Or.inl ⟨by rfl, ?_⟩) hS ?_
        rotate_left
        · (intro w hSw; (try dsimp only at hSw); go_simp; try with_reducible rfl)
        (try simp only [Act.put, List.setIfInBounds_toArray, List.set_cons_zero, List.set_cons_succ])
        refine wpAnyH_take (i := 18) (oi := ({ dst := some 37, op := Op.extract (Operand.tmp 19) 2, type := 86, pos := "scanner.go:59", after := #[{ on := 15, ground := Ground.data }, { on := 21, ground := Ground.gcOnly Departure.lateStores }], guard := none } : Oper)) (v := ?_) rfl (by kernel_rfl) (by kernel_rfl) (by kernel_rfl) (fun _ _ _ h => h) (Or.inl ⟨by rfl, ?_⟩) hS ?_
        rotate_left
        · (intro w hSw; (try dsimp only at hSw); go_simp; try with_reducible rfl)
        (try simp only [Act.put, List.setIfInBounds_toArray, List.set_cons_zero, List.set_cons_succ])
        refine rg_one 20 ({ dst := none, op := Op.store 70 (Operand.tmp 7) (Operand.tmp 35), type := 0, pos := "scanner.go:59", after := #[{ on := 19, ground := Ground.data }, { on := 16, ground := Ground.data }, { on := 14, ground := Ground.chain }, { on := 0, ground := Ground.phase }, { on := 1, ground := Ground.phase }, { on := 2, ground := Ground.phase }, { on := 3, ground := Ground.phase }, { on := 4, ground := Ground.phase }, { on := 5, ground := Ground.phase }, { on := 6, ground := Ground.phase }, { on := 7, ground := Ground.phase }, { on := 8, ground := Ground.phase }, { on := 9, ground := Ground.phase }, { on := 10, ground := Ground.phase }, { on := 11, ground := Ground.phase }, { on := 12, ground := Ground.phase }, { on := 13, ground := Ground.phase }, { on := 14, ground := Ground.phase }, { on := 15, ground := Ground.phase }, { on := 16, ground := Ground.phase }, { on := 17, ground := Ground.textOnly Departure.lateStores }, { on := 18, ground := Ground.textOnly Departure.lateStores }, { on := 19, ground := Ground.phase }], guard := none } : Oper) (by kernel_rfl) rfl (fun K hK => ?_)
        rw [if_pos (by rfl)]; refine wp_put_fr (.tmp 7) (.tmp 35) rfl g HG.out fk fe p4 n4 c4 rfl rfl ?_; intro w6 HF6 HG6; have HO6 := Lib.hid (own_over HO.out HG6.out (fun q hq e => HG.out.ne_own HO.out q hq (Option.some.inj e))); have hN := HS3.out _ (below_over hS.2.2 HG6.out HGL.out hS.2.2.size); clear HG HO HG6
        refine hK.out _ _ ?_ (fun hS1 => ?_)
        · (first | exact hN | exact hS)
        clear hK K hS; have hS := hS1; clear hS1
        (try simp only [Act.put])
        refine wpAnyH_take (i := 21) (oi := ({ dst := some 8, op := Op.assign (Operand.tmp 36), type := 3, pos := "scanner.go:59", after := #[{ on := 17, ground := Ground.data }, { on := 20, ground := Ground.chain }, { on := 0, ground := Ground.phase }, { on := 1, ground := Ground.phase }, { on := 2, ground := Ground.phase }, { on := 3, ground := Ground.phase }, { on := 4, ground := Ground.phase }, { on := 5, ground := Ground.phase }, { on := 6, ground := Ground.phase }, { on := 7, ground := Ground.phase }, { on := 8, ground := Ground.phase }, { on := 9, ground := Ground.phase }, { on := 10, ground := Ground.phase }, { on := 11, ground := Ground.phase }, { on := 12, ground := Ground.phase }, { on := 13, ground := Ground.phase }, { on := 14, ground := Ground.phase }, { on := 15, ground := Ground.phase }, { on := 16, ground := Ground.phase }, { on := 17, ground := Ground.phase }, { on := 18, ground := Ground.textOnly Departure.lateStores }, { on := 19, ground := Ground.phase }, { on := 20, ground := Ground.phase }], guard := none } : Oper)) (v := ?_) rfl (by kernel_rfl) (by kernel_rfl) (by kernel_rfl) (fun _ _ _ h => h) (Or.inl ⟨by rfl, ?_⟩) hS ?_
        rotate_left
        · (intro w hSw; (try dsimp only at hSw); go_simp; try with_reducible rfl)
        (try simp only [Act.put, List.setIfInBounds_toArray, List.set_cons_zero, List.set_cons_succ])
        refine wpAnyH_take (i := 22) (oi := ({ dst := some 9, op := Op.assign (Operand.tmp 37), type := 86, pos := "scanner.go:59", after := #[{ on := 18, ground := Ground.data }, { on := 21, ground := Ground.chain }, { on := 0, ground := Ground.phase }, { on := 1, ground := Ground.phase }, { on := 2, ground := Ground.phase }, { on := 3, ground := Ground.phase }, { on := 4, ground := Ground.phase }, { on := 5, ground := Ground.phase }, { on := 6, ground := Ground.phase }, { on := 7, ground := Ground.phase }, { on := 8, ground := Ground.phase }, { on := 9, ground := Ground.phase }, { on := 10, ground := Ground.phase }, { on := 11, ground := Ground.phase }, { on := 12, ground := Ground.phase }, { on := 13, ground := Ground.phase }, { on := 14, ground := Ground.phase }, { on := 15, ground := Ground.phase }, { on := 16, ground := Ground.phase }, { on := 17, ground := Ground.phase }, { on := 18, ground := Ground.phase }, { on := 19, ground := Ground.phase }, { on := 20, ground := Ground.phase }, { on := 21, ground := Ground.phase }], guard := none } : Oper)) (v := ?_) rfl (by kernel_rfl) (by kernel_rfl) (by kernel_rfl) (fun _ _ _ h => h) (Or.inl ⟨by rfl, ?_⟩) hS ?_
        rotate_left
        · (intro w hSw; (try dsimp only at hSw); go_simp; try with_reducible rfl)
        (try simp only [Act.put, List.setIfInBounds_toArray, List.set_cons_zero, List.set_cons_succ])
        refine wpAnyH_done (by kernel_rfl) ?_ _
        have HB6 := Lib.hid hS.2.2
        clear hS
        (try clear hN)
        have HW6 := Lib.hid (HW0.out _ HB6.out)
        have HGN := Lib.hid (show w.heap.size ≠ g from by have := HGL.out; have := HWA.out; omega)
        have HA7 := Lib.hid (HW6.out.2.2.1.keep (Below.refl _ w6).drew)
        have HO7 := Lib.hid (own_keep HO6.out (Below.refl _ w6).drew)
        have HST : Hid (Below w.heap.size w w6.drew ∧ Below W.heap.size W w6.drew ∧ SO w6.drew sb ep (.slice ba 832 bc) kv jb a0 b0 rv pv e0 k0 ∧ FO w6.drew g fk fe (.slice p4 n4 c4)) := Lib.hid ⟨HW6.out.2.1.drew, HW6.out.1.drew, HW6.out.2.2.2.keep (Below.refl _ w6).drew, HF6.out.keep (Below.refl _ w6).drew⟩
        rcases hx with ⟨rfl, hm1, hm2, hyes⟩ | ⟨hx0, hno⟩
        · obtain ⟨y, hy⟩ : ∃ y, covAt K (a : Int) ((a + m : Nat) : Int) = y := ⟨_, rfl⟩
          have HY := Lib.hid (hyes y hy)
          have HH2 : Hid (∀ w, SO w sb ep (.slice ba 832 bc) kv jb a0 b0 rv pv e0 k0 → Below W.heap.size W w → Calls Tryd.prog 73 #[.pointer (some ⟨sb, 0, none⟩), .int .i64 a, .int .i64 m] w fun e w' => e = .returned (.bool y) ∧ Below w.heap.size w w') := Lib.hid fun w h1 h2 => by
            have := HHAS.out w m h1 h2 (by omega); rwa [hy] at this
          clear hyes hy
          go_wp2_with fail
          refine wp_region_held_drew (S := (fun w' => Below w.heap.size w w' ∧ Below W.heap.size W w' ∧ SO w' sb ep (.slice ba 832 bc) kv jb a0 b0 rv pv e0 k0 ∧ FO w' g fk fe (.slice p4 n4 c4))) (by kernel_rfl) HST.out (fun hS => ?_)
          refine wpAnyH_take (i := 0) (oi := ({ dst := some 38, op := Op.load 70 (Operand.tmp 7), type := 70, pos := "scanner.go:61", after := #[], guard := none } : Oper)) (v := ?_) rfl (by kernel_rfl) (by kernel_rfl) (by kernel_rfl) (fun _ _ _ h => h) (Or.inl ⟨by rfl, ?_⟩) hS ?_
          rotate_left
          · (intro w hSw; (try dsimp only at hSw); refine exec_load_fr (.tmp 7) ?_ ?_ hSw.2.2.2 <;> rfl)
          (try simp only [Act.put, List.setIfInBounds_toArray, List.set_cons_zero, List.set_cons_succ])
          refine wpAnyH_take (i := 1) (oi := ({ dst := some 39, op := Op.move (Operand.tmp 8), type := 3, pos := "scanner.go:61", after := #[{ on := 10, ground := Ground.gcOnly Departure.lateStores }], guard := none } : Oper)) (v := ?_) rfl (by kernel_rfl) (by kernel_rfl) (by kernel_rfl) (fun _ _ _ h => h) (Or.inl ⟨by rfl, ?_⟩) hS ?_
          rotate_left
          · (intro w hSw; (try dsimp only at hSw); go_simp; try with_reducible rfl)
          (try simp only [Act.put, List.setIfInBounds_toArray, List.set_cons_zero, List.set_cons_succ])
          refine wpAnyH_take (i := 2) (oi := ({ dst := some 40, op := Op.move (Operand.tmp 9), type := 86, pos := "scanner.go:61", after := #[], guard := none } : Oper)) (v := ?_) rfl (by kernel_rfl) (by kernel_rfl) (by kernel_rfl) (fun _ _ _ h => h) (Or.inl ⟨by rfl, ?_⟩) hS ?_
          rotate_left
          · (intro w hSw; (try dsimp only at hSw); go_simp; try with_reducible rfl)
          (try simp only [Act.put, List.setIfInBounds_toArray, List.set_cons_zero, List.set_cons_succ])
          refine wpAnyH_take (i := 3) (oi := ({ dst := some 41, op := Op.binOp BinOp.eql 86 (Operand.tmp 40) (Operand.const (Value.int IntKind.i64 0)) 86, type := 4, pos := "scanner.go:61", after := #[{ on := 2, ground := Ground.data }], guard := none } : Oper)) (v := ?_) rfl (by kernel_rfl) (by kernel_rfl) (by kernel_rfl) (fun _ _ _ h => h) (Or.inl ⟨by rfl, ?_⟩) hS ?_
          rotate_left
          · (intro w hSw; (try dsimp only at hSw); go_simp; try with_reducible rfl)
          (try simp only [Act.put, List.setIfInBounds_toArray, List.set_cons_zero, List.set_cons_succ])
          refine wpAnyH_take (i := 4) (oi := ({ dst := some 42, op := Op.move (Operand.tmp 41), type := 4, pos := "scanner.go:61", after := #[{ on := 3, ground := Ground.data }], guard := none } : Oper)) (v := ?_) rfl (by kernel_rfl) (by kernel_rfl) (by kernel_rfl) (fun _ _ _ h => h) (Or.inl ⟨by rfl, ?_⟩) hS ?_
          rotate_left
          · (intro w hSw; (try dsimp only at hSw); go_simp; try with_reducible rfl)
          (try simp only [Act.put, List.setIfInBounds_toArray, List.set_cons_zero, List.set_cons_succ])
          refine wpAnyH_take (i := 5) (oi := ({ dst := some 43, op := Op.move (Operand.tmp 0), type := 75, pos := "scanner.go:61", after := #[{ on := 4, ground := Ground.guard }], guard := some (4, true) } : Oper)) (v := ?_) rfl (by kernel_rfl) (by kernel_rfl) (by kernel_rfl) (fun _ _ _ h => h) (Or.inl ⟨by rfl, ?_⟩) hS ?_
          rotate_left
          · (intro w hSw; (try dsimp only at hSw); go_simp; try with_reducible rfl)
          (try simp only [Act.put, List.setIfInBounds_toArray, List.set_cons_zero, List.set_cons_succ])
          refine wpAnyH_take (i := 6) (oi := ({ dst := some 44, op := Op.move (Operand.tmp 1), type := 3, pos := "scanner.go:61", after := #[{ on := 4, ground := Ground.guard }], guard := some (4, true) } : Oper)) (v := ?_) rfl (by kernel_rfl) (by kernel_rfl) (by kernel_rfl) (fun _ _ _ h => h) (Or.inl ⟨by rfl, ?_⟩) hS ?_
          rotate_left
          · (intro w hSw; (try dsimp only at hSw); go_simp; try with_reducible rfl)
          (try simp only [Act.put, List.setIfInBounds_toArray, List.set_cons_zero, List.set_cons_succ])
          refine wpAnyH_take (i := 7) (oi := ({ dst := some 45, op := Op.move (Operand.tmp 8), type := 3, pos := "scanner.go:61", after := #[{ on := 4, ground := Ground.guard }], guard := some (4, true) } : Oper)) (v := ?_) rfl (by kernel_rfl) (by kernel_rfl) (by kernel_rfl) (fun _ _ _ h => h) (Or.inl ⟨by rfl, ?_⟩) hS ?_
          rotate_left
          · (intro w hSw; (try dsimp only at hSw); go_simp; try with_reducible rfl)
          (try simp only [Act.put, List.setIfInBounds_toArray, List.set_cons_zero, List.set_cons_succ])
          refine rg_one 8 ({ dst := some 46, op := Op.call { callee := Callee.value (Operand.func 73), args := #[Operand.tmp 43, Operand.tmp 44, Operand.tmp 45], argTypes := #[75, 3, 3] }, type := 4, pos := "scanner.go:61", after := #[{ on := 5, ground := Ground.data }, { on := 6, ground := Ground.data }, { on := 7, ground := Ground.data }, { on := 4, ground := Ground.chain }, { on := 4, ground := Ground.guard }], guard := some (4, true) } : Oper) (by kernel_rfl) rfl (fun K hK => ?_)
          go_simp
          (go_at_call 73; (with_reducible refine (HH2.out _ hS.2.2.1 hS.2.1).mono ?_); rintro r w7 ⟨rfl, hb⟩; have hN := (show Below w.heap.size w w7 ∧ Below W.heap.size W w7 ∧ SO w7 sb ep (.slice ba 832 bc) kv jb a0 b0 rv pv e0 k0 ∧ FO w7 g fk fe (.slice p4 n4 c4) from ⟨bch hS.1 hb, bch hS.2.1 hb, hS.2.2.1.keep hb, hS.2.2.2.keep hb⟩); have HA8 := Lib.hid (HA7.out.keep hb); have HO8 := Lib.hid (own_keep HO7.out hb); clear hb)
          refine hK.out _ _ ?_ (fun hS1 => ?_)
          · (first | exact hN | exact hS)
          clear hK K hS; have hS := hS1; clear hS1
          (try simp only [Act.put, List.setIfInBounds_toArray, List.set_cons_zero, List.set_cons_succ])
          refine wpAnyH_take (i := 9) (oi := ({ dst := some 47, op := Op.pick (Operand.tmp 42) (Operand.tmp 46) (Operand.const (Value.bool false)), type := 4, pos := "scanner.go:61", after := #[{ on := 4, ground := Ground.data }, { on := 8, ground := Ground.data }, { on := 11, ground := Ground.gcOnly Departure.lateStores }], guard := none } : Oper)) (v := ?_) rfl (by kernel_rfl) (by kernel_rfl) (by kernel_rfl) (fun _ _ _ h => h) (Or.inl ⟨by rfl, ?_⟩) hS ?_
          rotate_left
          · (intro w hSw; (try dsimp only at hSw); go_simp; try with_reducible rfl)
          (try simp only [Act.put, List.setIfInBounds_toArray, List.set_cons_zero, List.set_cons_succ])
          refine rg_one 10 ({ dst := none, op := Op.store 70 (Operand.tmp 4) (Operand.tmp 38), type := 0, pos := "scanner.go:61", after := #[{ on := 0, ground := Ground.data }, { on := 8, ground := Ground.chain }, { on := 0, ground := Ground.phase }, { on := 1, ground := Ground.textOnly Departure.lateStores }, { on := 2, ground := Ground.textOnly Departure.lateStores }, { on := 3, ground := Ground.textOnly Departure.lateStores }, { on := 4, ground := Ground.textOnly Departure.lateStores }, { on := 5, ground := Ground.textOnly Departure.lateStores }, { on := 6, ground := Ground.textOnly Departure.lateStores }, { on := 7, ground := Ground.textOnly Departure.lateStores }, { on := 8, ground := Ground.textOnly Departure.lateStoresUnsure }, { on := 9, ground := Ground.textOnly Departure.lateStores }], guard := none } : Oper) (by kernel_rfl) rfl (fun K hK => ?_)
          rw [if_pos (by rfl)]; refine wp_put_fr (.tmp 4) (.tmp 38) rfl w.heap.size HA8.out fk fe p4 n4 c4 rfl rfl ?_; intro w8 HF8 HG8; have hN := (show Below w.heap.size w w8 ∧ Below W.heap.size W w8 ∧ SO w8 sb ep (.slice ba 832 bc) kv jb a0 b0 rv pv e0 k0 ∧ FO w8 g fk fe (.slice p4 n4 c4) from ⟨below_over hS.1 HG8.out (Nat.le_refl _) hS.1.size, below_over hS.2.1 HG8.out HSW.out.2 hS.2.1.size, (HG8.out.block sb hS.2.2.1.lt (fun x => by have := HSW.out.1; have := Option.some.inj x; omega)).trans hS.2.2.1, hS.2.2.2.over HG8.out (Ne.symm HGN.out)⟩); have HO9 := Lib.hid (own_over HO8.out HG8.out (fun q hq e => HA8.out.ne_own HO8.out q hq (Option.some.inj e)))
          refine hK.out _ _ ?_ (fun hS1 => ?_)
          · (first | exact hN | exact hS)
          clear hK K hS; have hS := hS1; clear hS1
          (try simp only [Act.put])
          refine wpAnyH_take (i := 11) (oi := ({ dst := some 5, op := Op.assign (Operand.tmp 39), type := 3, pos := "scanner.go:61", after := #[{ on := 1, ground := Ground.data }, { on := 10, ground := Ground.chain }, { on := 0, ground := Ground.phase }, { on := 1, ground := Ground.phase }, { on := 2, ground := Ground.textOnly Departure.lateStores }, { on := 3, ground := Ground.textOnly Departure.lateStores }, { on := 4, ground := Ground.textOnly Departure.lateStores }, { on := 5, ground := Ground.textOnly Departure.lateStores }, { on := 6, ground := Ground.textOnly Departure.lateStores }, { on := 7, ground := Ground.textOnly Departure.lateStores }, { on := 8, ground := Ground.textOnly Departure.lateStoresUnsure }, { on := 9, ground := Ground.textOnly Departure.lateStores }, { on := 10, ground := Ground.phase }], guard := none } : Oper)) (v := ?_) rfl (by kernel_rfl) (by kernel_rfl) (by kernel_rfl) (fun _ _ _ h => h) (Or.inl ⟨by rfl, ?_⟩) hS ?_
          rotate_left
          · (intro w hSw; (try dsimp only at hSw); go_simp; try with_reducible rfl)
          (try simp only [Act.put, List.setIfInBounds_toArray, List.set_cons_zero, List.set_cons_succ])
          refine wpAnyH_take (i := 12) (oi := ({ dst := some 6, op := Op.assign (Operand.tmp 47), type := 4, pos := "scanner.go:61", after := #[{ on := 9, ground := Ground.data }, { on := 11, ground := Ground.chain }, { on := 0, ground := Ground.phase }, { on := 1, ground := Ground.phase }, { on := 2, ground := Ground.phase }, { on := 3, ground := Ground.phase }, { on := 4, ground := Ground.phase }, { on := 5, ground := Ground.phase }, { on := 6, ground := Ground.phase }, { on := 7, ground := Ground.phase }, { on := 8, ground := Ground.phase }, { on := 9, ground := Ground.phase }, { on := 10, ground := Ground.phase }, { on := 11, ground := Ground.phase }], guard := none } : Oper)) (v := ?_) rfl (by kernel_rfl) (by kernel_rfl) (by kernel_rfl) (fun _ _ _ h => h) (Or.inl ⟨by rfl, ?_⟩) hS ?_
          rotate_left
          · (intro w hSw; (try dsimp only at hSw); go_simp; try with_reducible rfl)
          (try simp only [Act.put, List.setIfInBounds_toArray, List.set_cons_zero, List.set_cons_succ])
          refine wpAnyH_done (by kernel_rfl) ?_ _
          have HB8 := Lib.hid hS.1
          clear hS
          go_wp2
          refine bodyPost_ret_by (results_row_tmp2 rfl _ _ w.heap.size _ rfl HF8.out.load) rfl ?_
          have hn4 : fd.length = n4 := (il_length .u8 fd).symm.trans (HO9.out.1.trans (Nat.mul_one _))
          subst hn4
          have hyy := HY.out
          cases y with
          | true =>
            rw [if_pos rfl] at hyy
            refine ⟨HB8.out, .inr ⟨by rw [hyy]; show m ≠ 0; omega, p4, c4, by rw [hyy]; rfl, ?_⟩⟩
            rw [hyy]; exact HO9.out
          | false =>
            rw [if_neg (by decide)] at hyy
            exact ⟨HB8.out, .inl ⟨by rw [hyy], _, _, _, _, _, _, rfl⟩⟩
        · have hx1 : (x == 0) = false := by simpa using hx0
          have HNO := Lib.hid hno
          clear hno
          go_wp2_with fail
          refine wp_region_held_drew (S := (fun w' => Below w.heap.size w w' ∧ FO w' g fk fe (.slice p4 n4 c4))) (by kernel_rfl) ⟨HST.out.1, HST.out.2.2.2⟩ (fun hS => ?_)
          refine wpAnyH_take (i := 0) (oi := ({ dst := some 38, op := Op.load 70 (Operand.tmp 7), type := 70, pos := "scanner.go:61", after := #[], guard := none } : Oper)) (v := ?_) rfl (by kernel_rfl) (by kernel_rfl) (by kernel_rfl) (fun _ _ _ h => h) (Or.inl ⟨by rfl, ?_⟩) hS ?_
          rotate_left
          · (intro w hSw; (try dsimp only at hSw); refine exec_load_fr (.tmp 7) ?_ ?_ hSw.2 <;> rfl)
          (try simp only [Act.put, List.setIfInBounds_toArray, List.set_cons_zero, List.set_cons_succ])
          refine wpAnyH_take (i := 1) (oi := ({ dst := some 39, op := Op.move (Operand.tmp 8), type := 3, pos := "scanner.go:61", after := #[{ on := 10, ground := Ground.gcOnly Departure.lateStores }], guard := none } : Oper)) (v := ?_) rfl (by kernel_rfl) (by kernel_rfl) (by kernel_rfl) (fun _ _ _ h => h) (Or.inl ⟨by rfl, ?_⟩) hS ?_
          rotate_left
          · (intro w hSw; (try dsimp only at hSw); go_simp; try with_reducible rfl)
          (try simp only [Act.put, List.setIfInBounds_toArray, List.set_cons_zero, List.set_cons_succ])
          refine wpAnyH_take (i := 2) (oi := ({ dst := some 40, op := Op.move (Operand.tmp 9), type := 86, pos := "scanner.go:61", after := #[], guard := none } : Oper)) (v := ?_) rfl (by kernel_rfl) (by kernel_rfl) (by kernel_rfl) (fun _ _ _ h => h) (Or.inl ⟨by rfl, ?_⟩) hS ?_
          rotate_left
          · (intro w hSw; (try dsimp only at hSw); go_simp; try with_reducible rfl)
          (try simp only [Act.put, List.setIfInBounds_toArray, List.set_cons_zero, List.set_cons_succ])
          refine wpAnyH_take (i := 3) (oi := ({ dst := some 41, op := Op.binOp BinOp.eql 86 (Operand.tmp 40) (Operand.const (Value.int IntKind.i64 0)) 86, type := 4, pos := "scanner.go:61", after := #[{ on := 2, ground := Ground.data }], guard := none } : Oper)) (v := ?_) rfl (by kernel_rfl) (by kernel_rfl) (by kernel_rfl) (fun _ _ _ h => h) (Or.inl ⟨by rfl, ?_⟩) hS ?_
          rotate_left
          · (intro w hSw; (try dsimp only at hSw); go_simp; try with_reducible rfl)
          (try simp only [Act.put, List.setIfInBounds_toArray, List.set_cons_zero, List.set_cons_succ])
          refine wpAnyH_take (i := 4) (oi := ({ dst := some 42, op := Op.move (Operand.tmp 41), type := 4, pos := "scanner.go:61", after := #[{ on := 3, ground := Ground.data }], guard := none } : Oper)) (v := ?_) rfl (by kernel_rfl) (by kernel_rfl) (by kernel_rfl) (fun _ _ _ h => h) (Or.inl ⟨by rfl, ?_⟩) hS ?_
          rotate_left
          · (intro w hSw; (try dsimp only at hSw); go_simp; try with_reducible rfl)
          (try simp only [Act.put, List.setIfInBounds_toArray, List.set_cons_zero, List.set_cons_succ])
          refine wpAnyH_take (i := 5) (oi := ({ dst := some 43, op := Op.move (Operand.tmp 0), type := 75, pos := "scanner.go:61", after := #[{ on := 4, ground := Ground.guard }], guard := some (4, true) } : Oper)) (v := undef) rfl (by kernel_rfl) (by kernel_rfl) (by kernel_rfl) (fun _ _ _ h => h) (Or.inr ⟨by rfl, rfl⟩) hS ?_
          (try simp only [Act.put, List.setIfInBounds_toArray, List.set_cons_zero, List.set_cons_succ])
          refine wpAnyH_take (i := 6) (oi := ({ dst := some 44, op := Op.move (Operand.tmp 1), type := 3, pos := "scanner.go:61", after := #[{ on := 4, ground := Ground.guard }], guard := some (4, true) } : Oper)) (v := undef) rfl (by kernel_rfl) (by kernel_rfl) (by kernel_rfl) (fun _ _ _ h => h) (Or.inr ⟨by rfl, rfl⟩) hS ?_
          (try simp only [Act.put, List.setIfInBounds_toArray, List.set_cons_zero, List.set_cons_succ])
          refine wpAnyH_take (i := 7) (oi := ({ dst := some 45, op := Op.move (Operand.tmp 8), type := 3, pos := "scanner.go:61", after := #[{ on := 4, ground := Ground.guard }], guard := some (4, true) } : Oper)) (v := undef) rfl (by kernel_rfl) (by kernel_rfl) (by kernel_rfl) (fun _ _ _ h => h) (Or.inr ⟨by rfl, rfl⟩) hS ?_
          (try simp only [Act.put, List.setIfInBounds_toArray, List.set_cons_zero, List.set_cons_succ])
          refine wpAnyH_take (i := 8) (oi := ({ dst := some 46, op := Op.call { callee := Callee.value (Operand.func 73), args := #[Operand.tmp 43, Operand.tmp 44, Operand.tmp 45], argTypes := #[75, 3, 3] }, type := 4, pos := "scanner.go:61", after := #[{ on := 5, ground := Ground.data }, { on := 6, ground := Ground.data }, { on := 7, ground := Ground.data }, { on := 4, ground := Ground.chain }, { on := 4, ground := Ground.guard }], guard := some (4, true) } : Oper)) (v := undef) rfl (by kernel_rfl) (by kernel_rfl) (by kernel_rfl) (fun _ _ _ h => h) (Or.inr ⟨by rfl, rfl⟩) hS ?_
          (try simp only [Act.put, List.setIfInBounds_toArray, List.set_cons_zero, List.set_cons_succ])
          refine wpAnyH_take (i := 9) (oi := ({ dst := some 47, op := Op.pick (Operand.tmp 42) (Operand.tmp 46) (Operand.const (Value.bool false)), type := 4, pos := "scanner.go:61", after := #[{ on := 4, ground := Ground.data }, { on := 8, ground := Ground.data }, { on := 11, ground := Ground.gcOnly Departure.lateStores }], guard := none } : Oper)) (v := ?_) rfl (by kernel_rfl) (by kernel_rfl) (by kernel_rfl) (fun _ _ _ h => h) (Or.inl ⟨by rfl, ?_⟩) hS ?_
          rotate_left
          · (intro w hSw; (try dsimp only at hSw); go_simp; try with_reducible rfl)
          (try simp only [Act.put, List.setIfInBounds_toArray, List.set_cons_zero, List.set_cons_succ])
          refine rg_one 10 ({ dst := none, op := Op.store 70 (Operand.tmp 4) (Operand.tmp 38), type := 0, pos := "scanner.go:61", after := #[{ on := 0, ground := Ground.data }, { on := 8, ground := Ground.chain }, { on := 0, ground := Ground.phase }, { on := 1, ground := Ground.textOnly Departure.lateStores }, { on := 2, ground := Ground.textOnly Departure.lateStores }, { on := 3, ground := Ground.textOnly Departure.lateStores }, { on := 4, ground := Ground.textOnly Departure.lateStores }, { on := 5, ground := Ground.textOnly Departure.lateStores }, { on := 6, ground := Ground.textOnly Departure.lateStores }, { on := 7, ground := Ground.textOnly Departure.lateStores }, { on := 8, ground := Ground.textOnly Departure.lateStoresUnsure }, { on := 9, ground := Ground.textOnly Departure.lateStores }], guard := none } : Oper) (by kernel_rfl) rfl (fun K hK => ?_)
          rw [if_pos (by rfl)]; refine wp_put_fr (.tmp 4) (.tmp 38) rfl w.heap.size HA7.out fk fe p4 n4 c4 rfl rfl ?_; intro w8 HF8 HG8; have hN := (show Below w.heap.size w w8 ∧ FO w8 g fk fe (.slice p4 n4 c4) from ⟨below_over hS.1 HG8.out (Nat.le_refl _) hS.1.size, hS.2.over HG8.out (Ne.symm HGN.out)⟩)
          refine hK.out _ _ ?_ (fun hS1 => ?_)
          · (first | exact hN | exact hS)
          clear hK K hS; have hS := hS1; clear hS1
          (try simp only [Act.put])
          refine wpAnyH_take (i := 11) (oi := ({ dst := some 5, op := Op.assign (Operand.tmp 39), type := 3, pos := "scanner.go:61", after := #[{ on := 1, ground := Ground.data }, { on := 10, ground := Ground.chain }, { on := 0, ground := Ground.phase }, { on := 1, ground := Ground.phase }, { on := 2, ground := Ground.textOnly Departure.lateStores }, { on := 3, ground := Ground.textOnly Departure.lateStores }, { on := 4, ground := Ground.textOnly Departure.lateStores }, { on := 5, ground := Ground.textOnly Departure.lateStores }, { on := 6, ground := Ground.textOnly Departure.lateStores }, { on := 7, ground := Ground.textOnly Departure.lateStores }, { on := 8, ground := Ground.textOnly Departure.lateStoresUnsure }, { on := 9, ground := Ground.textOnly Departure.lateStores }, { on := 10, ground := Ground.phase }], guard := none } : Oper)) (v := ?_) rfl (by kernel_rfl) (by kernel_rfl) (by kernel_rfl) (fun _ _ _ h => h) (Or.inl ⟨by rfl, ?_⟩) hS ?_
          rotate_left
          · (intro w hSw; (try dsimp only at hSw); go_simp; try with_reducible rfl)
          (try simp only [Act.put, List.setIfInBounds_toArray, List.set_cons_zero, List.set_cons_succ])
          refine wpAnyH_take (i := 12) (oi := ({ dst := some 6, op := Op.assign (Operand.tmp 47), type := 4, pos := "scanner.go:61", after := #[{ on := 9, ground := Ground.data }, { on := 11, ground := Ground.chain }, { on := 0, ground := Ground.phase }, { on := 1, ground := Ground.phase }, { on := 2, ground := Ground.phase }, { on := 3, ground := Ground.phase }, { on := 4, ground := Ground.phase }, { on := 5, ground := Ground.phase }, { on := 6, ground := Ground.phase }, { on := 7, ground := Ground.phase }, { on := 8, ground := Ground.phase }, { on := 9, ground := Ground.phase }, { on := 10, ground := Ground.phase }, { on := 11, ground := Ground.phase }], guard := none } : Oper)) (v := ?_) rfl (by kernel_rfl) (by kernel_rfl) (by kernel_rfl) (fun _ _ _ h => h) (Or.inl ⟨by rfl, ?_⟩) hS ?_
          rotate_left
          · (intro w hSw; (try dsimp only at hSw); go_simp; try with_reducible rfl)
          (try simp only [Act.put, List.setIfInBounds_toArray, List.set_cons_zero, List.set_cons_succ])
          refine wpAnyH_done (by kernel_rfl) ?_ _
          have HB8 := Lib.hid hS.1
          clear hS
          go_wp2
          refine bodyPost_ret_by (results_row_tmp2 rfl _ _ w.heap.size _ rfl HF8.out.load) rfl ?_
          exact ⟨HB8.out, .inl ⟨by rw [HNO.out], _, _, _, _, _, _, rfl⟩⟩
    · skip
      rw [if_pos (by rfl)]; refine wp_new_fr rfl ?_; intro g w5 HG hgl hb; have hN := HS3.out _ (bch hS.2.2 hb.out); (try (have q := Lib.hid (own_keep HO.out hb.out); clear HO; have HO := q; clear q)); have HGL := Lib.hid (Nat.le_trans hS.2.2.size hgl.out); clear hgl hb
      refine hK.out _ _ ?_ (fun hS1 => ?_)
      · (first | exact hN | exact hS)
      clear hK K hS; have hS := hS1; clear hS1
      (try simp only [Act.put, List.setIfInBounds_toArray, List.set_cons_zero, List.set_cons_succ])
      refine rg_one 7 ({ dst := some 27, op := Op.call { callee := Callee.value (Operand.func 66), args := #[Operand.tmp 26], argTypes := #[3] }, type := 3, pos := "scanner.go:59", after := #[{ on := 6, ground := Ground.data }], guard := none } : Oper) (by kernel_rfl) rfl (fun K hK => ?_)
      go_simp
      (go_at_call 66; (with_reducible refine (HLF.out _).mono ?_); rintro r w2 ⟨rfl, hb⟩; have hN := HS3.out _ (bch hS.2.2 hb); (try (have q := Lib.hid (HG.out.keep hb); clear HG; have HG := q; clear q)); clear hb)
      refine hK.out _ _ ?_ (fun hS1 => ?_)
      · (first | exact hN | exact hS)
      clear hK K hS; have hS := hS1; clear hS1
      (try simp only [Act.put, List.setIfInBounds_toArray, List.set_cons_zero, List.set_cons_succ])
      refine wpAnyH_take (i := 8) (oi := ({ dst := some 28, op := Op.binOp BinOp.add 3 (Operand.tmp 25) (Operand.tmp 27) 3, type := 3, pos := "scanner.go:59", after := #[{ on := 5, ground := Ground.data }, { on := 7, ground := Ground.data }], guard := none } : Oper)) (v := .int .i64 (t : Int)) rfl (by kernel_rfl) (by kernel_rfl) (by kernel_rfl) (fun _ _ _ h => h) (Or.inl ⟨by rfl, ?_⟩) hS ?_
      · (intro w hSw; (try dsimp only at hSw); have z := HWT.out; go_simp; (try exact z))
      (try simp only [Act.put, List.setIfInBounds_toArray, List.set_cons_zero, List.set_cons_succ])
      refine wpAnyH_take (i := 9) (oi := ({ dst := some 29, op := Op.slice 43 (Operand.tmp 23) (some (Operand.tmp 24)) (some (Operand.tmp 28)) none, type := 43, pos := "scanner.go:59", after := #[{ on := 3, ground := Ground.data }, { on := 4, ground := Ground.data }, { on := 8, ground := Ground.data }], guard := none } : Oper)) (v := .slice q l qc) rfl (by kernel_rfl) (by kernel_rfl) (by kernel_rfl) (fun _ _ _ h => h) (Or.inl ⟨by rfl, ?_⟩) hS ?_
      · (intro w hSw; (try dsimp only at hSw); exact (exec_cut_lh (.tmp 23) (.tmp 24) (.tmp 28) rfl ba 832 bc a l rfl rfl (by rw [HTL.out]; rfl) (by rw [HTL.out]; exact HBC.out)).trans (by rw [HSL.out]))
      (try simp only [Act.put, List.setIfInBounds_toArray, List.set_cons_zero, List.set_cons_succ])
      refine rg_one 14 ({ dst := some 34, op := Op.call { callee := Callee.value (Operand.func 65), args := #[Operand.tmp 29, Operand.tmp 33], argTypes := #[43, 68] }, type := 94, pos := "scanner.go:59", after := #[{ on := 9, ground := Ground.data }, { on := 13, ground := Ground.data }, { on := 7, ground := Ground.chain }], guard := none } : Oper) (by kernel_rfl) rfl (fun K hK => ?_)
      go_simp
      (go_at_call 65; (refine (HDC.out _ (bch HB0.out hS.2.2)).mono ?_); rintro r w4 hd; obtain ⟨p4, n4, c4, rfl, ho, hb⟩ := HDF.out _ _ _ hd; have hN := HS3.out _ (bch hS.2.2 hb); (try (have q := Lib.hid (HG.out.keep hb); clear HG; have HG := q; clear q)); have HO := Lib.hid (own_mono ho (show w.heap.size ≤ _ from Nat.le_trans (by have := HWA.out; omega) hS.2.2.size)); clear hb ho hd)
      refine hK.out _ _ ?_ (fun hS1 => ?_)
      · (first | exact hN | exact hS)
      clear hK K hS; have hS := hS1; clear hS1
      (try simp only [Act.put, List.setIfInBounds_toArray, List.set_cons_zero, List.set_cons_succ])
      refine wpAnyH_take (i := 15) (oi := ({ dst := some 19, op := Op.move (Operand.tmp 34), type := 94, pos := "scanner.go:59", after := #[{ on := 14, ground := Ground.data }], guard := none } : Oper)) (v := ?_) rfl (by kernel_rfl) (by kernel_rfl) (by kernel_rfl) (fun _ _ _ h => h) (Or.inl ⟨by rfl, ?_⟩) hS ?_
      rotate_left
      · (intro w hSw; (try dsimp only at hSw); go_simp; try with_reducible rfl)
      (try simp only [Act.put, List.setIfInBounds_toArray, List.set_cons_zero, List.set_cons_succ])
      refine wpAnyH_take (i := 16) (oi := ({ dst := some 35, op := Op.extract (Operand.tmp 19) 0, type := 70, pos := "scanner.go:59", after := #[{ on := 15, ground := Ground.data }], guard := none } : Oper)) (v := ?_) rfl (by kernel_rfl) (by kernel_rfl) (by kernel_rfl) (fun _ _ _ h => h) (Or.inl ⟨by rfl, ?_⟩) hS ?_
      rotate_left
      · (intro w hSw; (try dsimp only at hSw); go_simp; try with_reducible rfl)
      (try simp only [Act.put, List.setIfInBounds_toArray, List.set_cons_zero, List.set_cons_succ])
      refine wpAnyH_take (i := 17) (oi := ({ dst := some 36, op := Op.extract (Operand.tmp 19) 1, type := 3, pos := "scanner.go:59", after := #[{ on := 15, ground := Ground.data }, { on := 20, ground := Ground.gcOnly Departure.lateStores }], guard := none } : Oper)) (v := ?_) rfl (by kernel_rfl) (by kernel_rfl) (by kernel_rfl) (fun _ _ _ h => h) (Or.inl ⟨by rfl, ?_⟩) hS ?_
      rotate_left
      · (intro w hSw; (try dsimp only at hSw); go_simp; try with_reducible rfl)
      (try simp only [Act.put, List.setIfInBounds_toArray, List.set_cons_zero, List.set_cons_succ])
      refine wpAnyH_take (i := 18) (oi := ({ dst := some 37, op := Op.extract (Operand.tmp 19) 2, type := 86, pos := "scanner.go:59", after := #[{ on := 15, ground := Ground.data }, { on := 21, ground := Ground.gcOnly Departure.lateStores }], guard := none } : Oper)) (v := ?_) rfl (by kernel_rfl) (by kernel_rfl) (by kernel_rfl) (fun _ _ _ h => h) (Or.inl ⟨by rfl, ?_⟩) hS ?_
      rotate_left
      · (intro w hSw; (try dsimp only at hSw); go_simp; try with_reducible rfl)
      (try simp only [Act.put, List.setIfInBounds_toArray, List.set_cons_zero, List.set_cons_succ])
      refine rg_one 20 ({ dst := none, op := Op.store 70 (Operand.tmp 7) (Operand.tmp 35), type := 0, pos := "scanner.go:59", after := #[{ on := 19, ground := Ground.data }, { on := 16, ground := Ground.data }, { on := 14, ground := Ground.chain }, { on := 0, ground := Ground.phase }, { on := 1, ground := Ground.phase }, { on := 2, ground := Ground.phase }, { on := 3, ground := Ground.phase }, { on := 4, ground := Ground.phase }, { on := 5, ground := Ground.phase }, { on := 6, ground := Ground.phase }, { on := 7, ground := Ground.phase }, { on := 8, ground := Ground.phase }, { on := 9, ground := Ground.phase }, { on := 10, ground := Ground.phase }, { on := 11, ground := Ground.phase }, { on := 12, ground := Ground.phase }, { on := 13, ground := Ground.phase }, { on := 14, ground := Ground.phase }, { on := 15, ground := Ground.phase }, { on := 16, ground := Ground.phase }, { on := 17, ground := Ground.textOnly Departure.lateStores }, { on := 18, ground := Ground.textOnly Departure.lateStores }, { on := 19, ground := Ground.phase }], guard := none } : Oper) (by kernel_rfl) rfl (fun K hK => ?_)
      rw [if_pos (by rfl)]; refine wp_put_fr (.tmp 7) (.tmp 35) rfl g HG.out fk fe p4 n4 c4 rfl rfl ?_; intro w6 HF6 HG6; have HO6 := Lib.hid (own_over HO.out HG6.out (fun q hq e => HG.out.ne_own HO.out q hq (Option.some.inj e))); have hN := HS3.out _ (below_over hS.2.2 HG6.out HGL.out hS.2.2.size); clear HG HO HG6
      refine hK.out _ _ ?_ (fun hS1 => ?_)
      · (first | exact hN | exact hS)
      clear hK K hS; have hS := hS1; clear hS1
      (try simp only [Act.put])
      refine wpAnyH_take (i := 21) (oi := ({ dst := some 8, op := Op.assign (Operand.tmp 36), type := 3, pos := "scanner.go:59", after := #[{ on := 17, ground := Ground.data }, { on := 20, ground := Ground.chain }, { on := 0, ground := Ground.phase }, { on := 1, ground := Ground.phase }, { on := 2, ground := Ground.phase }, { on := 3, ground := Ground.phase }, { on := 4, ground := Ground.phase }, { on := 5, ground := Ground.phase }, { on := 6, ground := Ground.phase }, { on := 7, ground := Ground.phase }, { on := 8, ground := Ground.phase }, { on := 9, ground := Ground.phase }, { on := 10, ground := Ground.phase }, { on := 11, ground := Ground.phase }, { on := 12, ground := Ground.phase }, { on := 13, ground := Ground.phase }, { on := 14, ground := Ground.phase }, { on := 15, ground := Ground.phase }, { on := 16, ground := Ground.phase }, { on := 17, ground := Ground.phase }, { on := 18, ground := Ground.textOnly Departure.lateStores }, { on := 19, ground := Ground.phase }, { on := 20, ground := Ground.phase }], guard := none } : Oper)) (v := ?_) rfl (by kernel_rfl) (by kernel_rfl) (by kernel_rfl) (fun _ _ _ h => h) (Or.inl ⟨by rfl, ?_⟩) hS ?_
      rotate_left
      · (intro w hSw; (try dsimp only at hSw); go_simp; try with_reducible rfl)
      (try simp only [Act.put, List.setIfInBounds_toArray, List.set_cons_zero, List.set_cons_succ])
      refine wpAnyH_take (i := 22) (oi := ({ dst := some 9, op := Op.assign (Operand.tmp 37), type := 86, pos := "scanner.go:59", after := #[{ on := 18, ground := Ground.data }, { on := 21, ground := Ground.chain }, { on := 0, ground := Ground.phase }, { on := 1, ground := Ground.phase }, { on := 2, ground := Ground.phase }, { on := 3, ground := Ground.phase }, { on := 4, ground := Ground.phase }, { on := 5, ground := Ground.phase }, { on := 6, ground := Ground.phase }, { on := 7, ground := Ground.phase }, { on := 8, ground := Ground.phase }, { on := 9, ground := Ground.phase }, { on := 10, ground := Ground.phase }, { on := 11, ground := Ground.phase }, { on := 12, ground := Ground.phase }, { on := 13, ground := Ground.phase }, { on := 14, ground := Ground.phase }, { on := 15, ground := Ground.phase }, { on := 16, ground := Ground.phase }, { on := 17, ground := Ground.phase }, { on := 18, ground := Ground.phase }, { on := 19, ground := Ground.phase }, { on := 20, ground := Ground.phase }, { on := 21, ground := Ground.phase }], guard := none } : Oper)) (v := ?_) rfl (by kernel_rfl) (by kernel_rfl) (by kernel_rfl) (fun _ _ _ h => h) (Or.inl ⟨by rfl, ?_⟩) hS ?_
      rotate_left
      · (intro w hSw; (try dsimp only at hSw); go_simp; try with_reducible rfl)
      (try simp only [Act.put, List.setIfInBounds_toArray, List.set_cons_zero, List.set_cons_succ])
      refine wpAnyH_done (by kernel_rfl) ?_ _
      have HB6 := Lib.hid hS.2.2
      clear hS
      (try clear hN)
      have HW6 := Lib.hid (HW0.out _ HB6.out)
      have HGN := Lib.hid (show w.heap.size ≠ g from by have := HGL.out; have := HWA.out; omega)
      have HA7 := Lib.hid (HW6.out.2.2.1.keep (Below.refl _ w6).drew)
      have HO7 := Lib.hid (own_keep HO6.out (Below.refl _ w6).drew)
      have HST : Hid (Below w.heap.size w w6.drew ∧ Below W.heap.size W w6.drew ∧ SO w6.drew sb ep (.slice ba 832 bc) kv jb a0 b0 rv pv e0 k0 ∧ FO w6.drew g fk fe (.slice p4 n4 c4)) := Lib.hid ⟨HW6.out.2.1.drew, HW6.out.1.drew, HW6.out.2.2.2.keep (Below.refl _ w6).drew, HF6.out.keep (Below.refl _ w6).drew⟩
      rcases hx with ⟨rfl, hm1, hm2, hyes⟩ | ⟨hx0, hno⟩
      · obtain ⟨y, hy⟩ : ∃ y, covAt K (a : Int) ((a + m : Nat) : Int) = y := ⟨_, rfl⟩
        have HY := Lib.hid (hyes y hy)
        have HH2 : Hid (∀ w, SO w sb ep (.slice ba 832 bc) kv jb a0 b0 rv pv e0 k0 → Below W.heap.size W w → Calls Tryd.prog 73 #[.pointer (some ⟨sb, 0, none⟩), .int .i64 a, .int .i64 m] w fun e w' => e = .returned (.bool y) ∧ Below w.heap.size w w') := Lib.hid fun w h1 h2 => by
          have := HHAS.out w m h1 h2 (by omega); rwa [hy] at this
        clear hyes hy
        go_wp2_with fail
        refine wp_region_held_drew (S := (fun w' => Below w.heap.size w w' ∧ Below W.heap.size W w' ∧ SO w' sb ep (.slice ba 832 bc) kv jb a0 b0 rv pv e0 k0 ∧ FO w' g fk fe (.slice p4 n4 c4))) (by kernel_rfl) HST.out (fun hS => ?_)
        refine wpAnyH_take (i := 0) (oi := ({ dst := some 38, op := Op.load 70 (Operand.tmp 7), type := 70, pos := "scanner.go:61", after := #[], guard := none } : Oper)) (v := ?_) rfl (by kernel_rfl) (by kernel_rfl) (by kernel_rfl) (fun _ _ _ h => h) (Or.inl ⟨by rfl, ?_⟩) hS ?_
        rotate_left
        · (intro w hSw; (try dsimp only at hSw); refine exec_load_fr (.tmp 7) ?_ ?_ hSw.2.2.2 <;> rfl)
        (try simp only [Act.put, List.setIfInBounds_toArray, List.set_cons_zero, List.set_cons_succ])
        refine wpAnyH_take (i := 1) (oi := ({ dst := some 39, op := Op.move (Operand.tmp 8), type := 3, pos := "scanner.go:61", after := #[{ on := 10, ground := Ground.gcOnly Departure.lateStores }], guard := none } : Oper)) (v := ?_) rfl (by kernel_rfl) (by kernel_rfl) (by kernel_rfl) (fun _ _ _ h => h) (Or.inl ⟨by rfl, ?_⟩) hS ?_
        rotate_left
        · (intro w hSw; (try dsimp only at hSw); go_simp; try with_reducible rfl)
        (try simp only [Act.put, List.setIfInBounds_toArray, List.set_cons_zero, List.set_cons_succ])
        refine wpAnyH_take (i := 2) (oi := ({ dst := some 40, op := Op.move (Operand.tmp 9), type := 86, pos := "scanner.go:61", after := #[], guard := none } : Oper)) (v := ?_) rfl (by kernel_rfl) (by kernel_rfl) (by kernel_rfl) (fun _ _ _ h => h) (Or.inl ⟨by rfl, ?_⟩) hS ?_
        rotate_left
        · (intro w hSw; (try dsimp only at hSw); go_simp; try with_reducible rfl)
        (try simp only [Act.put, List.setIfInBounds_toArray, List.set_cons_zero, List.set_cons_succ])
        refine wpAnyH_take (i := 3) (oi := ({ dst := some 41, op := Op.binOp BinOp.eql 86 (Operand.tmp 40) (Operand.const (Value.int IntKind.i64 0)) 86, type := 4, pos := "scanner.go:61", after := #[{ on := 2, ground := Ground.data }], guard := none } : Oper)) (v := ?_) rfl (by kernel_rfl) (by kernel_rfl) (by kernel_rfl) (fun _ _ _ h => h) (Or.inl ⟨by rfl, ?_⟩) hS ?_
        rotate_left
        · (intro w hSw; (try dsimp only at hSw); go_simp; try with_reducible rfl)
        (try simp only [Act.put, List.setIfInBounds_toArray, List.set_cons_zero, List.set_cons_succ])
        refine wpAnyH_take (i := 4) (oi := ({ dst := some 42, op := Op.move (Operand.tmp 41), type := 4, pos := "scanner.go:61", after := #[{ on := 3, ground := Ground.data }], guard := none } : Oper)) (v := ?_) rfl (by kernel_rfl) (by kernel_rfl) (by kernel_rfl) (fun _ _ _ h => h) (Or.inl ⟨by rfl, ?_⟩) hS ?_
        rotate_left
        · (intro w hSw; (try dsimp only at hSw); go_simp; try with_reducible rfl)
        (try simp only [Act.put, List.setIfInBounds_toArray, List.set_cons_zero, List.set_cons_succ])
        refine wpAnyH_take (i := 5) (oi := ({ dst := some 43, op := Op.move (Operand.tmp 0), type := 75, pos := "scanner.go:61", after := #[{ on := 4, ground := Ground.guard }], guard := some (4, true) } : Oper)) (v := ?_) rfl (by kernel_rfl) (by kernel_rfl) (by kernel_rfl) (fun _ _ _ h => h) (Or.inl ⟨by rfl, ?_⟩) hS ?_
        rotate_left
        · (intro w hSw; (try dsimp only at hSw); go_simp; try with_reducible rfl)
        (try simp only [Act.put, List.setIfInBounds_toArray, List.set_cons_zero, List.set_cons_succ])
        refine wpAnyH_take (i := 6) (oi := ({ dst := some 44, op := Op.move (Operand.tmp 1), type := 3, pos := "scanner.go:61", after := #[{ on := 4, ground := Ground.guard }], guard := some (4, true) } : Oper)) (v := ?_) rfl (by kernel_rfl) (by kernel_rfl) (by kernel_rfl) (fun _ _ _ h => h) (Or.inl ⟨by rfl, ?_⟩) hS ?_
        rotate_left
        · (intro w hSw; (try dsimp only at hSw); go_simp; try with_reducible rfl)
        (try simp only [Act.put, List.setIfInBounds_toArray, List.set_cons_zero, List.set_cons_succ])
        refine wpAnyH_take (i := 7) (oi := ({ dst := some 45, op := Op.move (Operand.tmp 8), type := 3, pos := "scanner.go:61", after := #[{ on := 4, ground := Ground.guard }], guard := some (4, true) } : Oper)) (v := ?_) rfl (by kernel_rfl) (by kernel_rfl) (by kernel_rfl) (fun _ _ _ h => h) (Or.inl ⟨by rfl, ?_⟩) hS ?_
        rotate_left
        · (intro w hSw; (try dsimp only at hSw); go_simp; try with_reducible rfl)
        (try simp only [Act.put, List.setIfInBounds_toArray, List.set_cons_zero, List.set_cons_succ])
        refine rg_one 8 ({ dst := some 46, op := Op.call { callee := Callee.value (Operand.func 73), args := #[Operand.tmp 43, Operand.tmp 44, Operand.tmp 45], argTypes := #[75, 3, 3] }, type := 4, pos := "scanner.go:61", after := #[{ on := 5, ground := Ground.data }, { on := 6, ground := Ground.data }, { on := 7, ground := Ground.data }, { on := 4, ground := Ground.chain }, { on := 4, ground := Ground.guard }], guard := some (4, true) } : Oper) (by kernel_rfl) rfl (fun K hK => ?_)
        go_simp
        (go_at_call 73; (with_reducible refine (HH2.out _ hS.2.2.1 hS.2.1).mono ?_); rintro r w7 ⟨rfl, hb⟩; have hN := (show Below w.heap.size w w7 ∧ Below W.heap.size W w7 ∧ SO w7 sb ep (.slice ba 832 bc) kv jb a0 b0 rv pv e0 k0 ∧ FO w7 g fk fe (.slice p4 n4 c4) from ⟨bch hS.1 hb, bch hS.2.1 hb, hS.2.2.1.keep hb, hS.2.2.2.keep hb⟩); have HA8 := Lib.hid (HA7.out.keep hb); have HO8 := Lib.hid (own_keep HO7.out hb); clear hb)
        refine hK.out _ _ ?_ (fun hS1 => ?_)
        · (first | exact hN | exact hS)
        clear hK K hS; have hS := hS1; clear hS1
        (try simp only [Act.put, List.setIfInBounds_toArray, List.set_cons_zero, List.set_cons_succ])
        refine wpAnyH_take (i := 9) (oi := ({ dst := some 47, op := Op.pick (Operand.tmp 42) (Operand.tmp 46) (Operand.const (Value.bool false)), type := 4, pos := "scanner.go:61", after := #[{ on := 4, ground := Ground.data }, { on := 8, ground := Ground.data }, { on := 11, ground := Ground.gcOnly Departure.lateStores }], guard := none } : Oper)) (v := ?_) rfl (by kernel_rfl) (by kernel_rfl) (by kernel_rfl) (fun _ _ _ h => h) (Or.inl ⟨by rfl, ?_⟩) hS ?_
        rotate_left
        · (intro w hSw; (try dsimp only at hSw); go_simp; try with_reducible rfl)
        (try simp only [Act.put, List.setIfInBounds_toArray, List.set_cons_zero, List.set_cons_succ])
        refine rg_one 10 ({ dst := none, op := Op.store 70 (Operand.tmp 4) (Operand.tmp 38), type := 0, pos := "scanner.go:61", after := #[{ on := 0, ground := Ground.data }, { on := 8, ground := Ground.chain }, { on := 0, ground := Ground.phase }, { on := 1, ground := Ground.textOnly Departure.lateStores }, { on := 2, ground := Ground.textOnly Departure.lateStores }, { on := 3, ground := Ground.textOnly Departure.lateStores }, { on := 4, ground := Ground.textOnly Departure.lateStores }, { on := 5, ground := Ground.textOnly Departure.lateStores }, { on := 6, ground := Ground.textOnly Departure.lateStores }, { on := 7, ground := Ground.textOnly Departure.lateStores }, { on := 8, ground := Ground.textOnly Departure.lateStoresUnsure }, { on := 9, ground := Ground.textOnly Departure.lateStores }], guard := none } : Oper) (by kernel_rfl) rfl (fun K hK => ?_)
        rw [if_pos (by rfl)]; refine wp_put_fr (.tmp 4) (.tmp 38) rfl w.heap.size HA8.out fk fe p4 n4 c4 rfl rfl ?_; intro w8 HF8 HG8; have hN := (show Below w.heap.size w w8 ∧ Below W.heap.size W w8 ∧ SO w8 sb ep (.slice ba 832 bc) kv jb a0 b0 rv pv e0 k0 ∧ FO w8 g fk fe (.slice p4 n4 c4) from ⟨below_over hS.1 HG8.out (Nat.le_refl _) hS.1.size, below_over hS.2.1 HG8.out HSW.out.2 hS.2.1.size, (HG8.out.block sb hS.2.2.1.lt (fun x => by have := HSW.out.1; have := Option.some.inj x; omega)).trans hS.2.2.1, hS.2.2.2.over HG8.out (Ne.symm HGN.out)⟩); have HO9 := Lib.hid (own_over HO8.out HG8.out (fun q hq e => HA8.out.ne_own HO8.out q hq (Option.some.inj e)))
        refine hK.out _ _ ?_ (fun hS1 => ?_)
        · (first | exact hN | exact hS)
        clear hK K hS; have hS := hS1; clear hS1
        (try simp only [Act.put])
        refine wpAnyH_take (i := 11) (oi := ({ dst := some 5, op := Op.assign (Operand.tmp 39), type := 3, pos := "scanner.go:61", after := #[{ on := 1, ground := Ground.data }, { on := 10, ground := Ground.chain }, { on := 0, ground := Ground.phase }, { on := 1, ground := Ground.phase }, { on := 2, ground := Ground.textOnly Departure.lateStores }, { on := 3, ground := Ground.textOnly Departure.lateStores }, { on := 4, ground := Ground.textOnly Departure.lateStores }, { on := 5, ground := Ground.textOnly Departure.lateStores }, { on := 6, ground := Ground.textOnly Departure.lateStores }, { on := 7, ground := Ground.textOnly Departure.lateStores }, { on := 8, ground := Ground.textOnly Departure.lateStoresUnsure }, { on := 9, ground := Ground.textOnly Departure.lateStores }, { on := 10, ground := Ground.phase }], guard := none } : Oper)) (v := ?_) rfl (by kernel_rfl) (by kernel_rfl) (by kernel_rfl) (fun _ _ _ h => h) (Or.inl ⟨by rfl, ?_⟩) hS ?_
        rotate_left
        · (intro w hSw; (try dsimp only at hSw); go_simp; try with_reducible rfl)
        (try simp only [Act.put, List.setIfInBounds_toArray, List.set_cons_zero, List.set_cons_succ])
        refine wpAnyH_take (i := 12) (oi := ({ dst := some 6, op := Op.assign (Operand.tmp 47), type := 4, pos := "scanner.go:61", after := #[{ on := 9, ground := Ground.data }, { on := 11, ground := Ground.chain }, { on := 0, ground := Ground.phase }, { on := 1, ground := Ground.phase }, { on := 2, ground := Ground.phase }, { on := 3, ground := Ground.phase }, { on := 4, ground := Ground.phase }, { on := 5, ground := Ground.phase }, { on := 6, ground := Ground.phase }, { on := 7, ground := Ground.phase }, { on := 8, ground := Ground.phase }, { on := 9, ground := Ground.phase }, { on := 10, ground := Ground.phase }, { on := 11, ground := Ground.phase }], guard := none } : Oper)) (v := ?_) rfl (by kernel_rfl) (by kernel_rfl) (by kernel_rfl) (fun _ _ _ h => h) (Or.inl ⟨by rfl, ?_⟩) hS ?_
        rotate_left
        · (intro w hSw; (try dsimp only at hSw); go_simp; try with_reducible rfl)
        (try simp only [Act.put, List.setIfInBounds_toArray, List.set_cons_zero, List.set_cons_succ])
        refine wpAnyH_done (by kernel_rfl) ?_ _
        have HB8 := Lib.hid hS.1
        clear hS
        go_wp2
        refine bodyPost_ret_by (results_row_tmp2 rfl _ _ w.heap.size _ rfl HF8.out.load) rfl ?_
        have hn4 : fd.length = n4 := (il_length .u8 fd).symm.trans (HO9.out.1.trans (Nat.mul_one _))
        subst hn4
        have hyy := HY.out
        cases y with
        | true =>
          rw [if_pos rfl] at hyy
          refine ⟨HB8.out, .inr ⟨by rw [hyy]; show m ≠ 0; omega, p4, c4, by rw [hyy]; rfl, ?_⟩⟩
          rw [hyy]; exact HO9.out
        | false =>
          rw [if_neg (by decide)] at hyy
          exact ⟨HB8.out, .inl ⟨by rw [hyy], _, _, _, _, _, _, rfl⟩⟩
      · have hx1 : (x == 0) = false := by simpa using hx0
        have HNO := Lib.hid hno
        clear hno
        go_wp2_with fail
        refine wp_region_held_drew (S := (fun w' => Below w.heap.size w w' ∧ FO w' g fk fe (.slice p4 n4 c4))) (by kernel_rfl) ⟨HST.out.1, HST.out.2.2.2⟩ (fun hS => ?_)
        refine wpAnyH_take (i := 0) (oi := ({ dst := some 38, op := Op.load 70 (Operand.tmp 7), type := 70, pos := "scanner.go:61", after := #[], guard := none } : Oper)) (v := ?_) rfl (by kernel_rfl) (by kernel_rfl) (by kernel_rfl) (fun _ _ _ h => h) (Or.inl ⟨by rfl, ?_⟩) hS ?_
        rotate_left
        · (intro w hSw; (try dsimp only at hSw); refine exec_load_fr (.tmp 7) ?_ ?_ hSw.2 <;> rfl)
        (try simp only [Act.put, List.setIfInBounds_toArray, List.set_cons_zero, List.set_cons_succ])
        refine wpAnyH_take (i := 1) (oi := ({ dst := some 39, op := Op.move (Operand.tmp 8), type := 3, pos := "scanner.go:61", after := #[{ on := 10, ground := Ground.gcOnly Departure.lateStores }], guard := none } : Oper)) (v := ?_) rfl (by kernel_rfl) (by kernel_rfl) (by kernel_rfl) (fun _ _ _ h => h) (Or.inl ⟨by rfl, ?_⟩) hS ?_
        rotate_left
        · (intro w hSw; (try dsimp only at hSw); go_simp; try with_reducible rfl)
        (try simp only [Act.put, List.setIfInBounds_toArray, List.set_cons_zero, List.set_cons_succ])
        refine wpAnyH_take (i := 2) (oi := ({ dst := some 40, op := Op.move (Operand.tmp 9), type := 86, pos := "scanner.go:61", after := #[], guard := none } : Oper)) (v := ?_) rfl (by kernel_rfl) (by kernel_rfl) (by kernel_rfl) (fun _ _ _ h => h) (Or.inl ⟨by rfl, ?_⟩) hS ?_
        rotate_left
        · (intro w hSw; (try dsimp only at hSw); go_simp; try with_reducible rfl)
        (try simp only [Act.put, List.setIfInBounds_toArray, List.set_cons_zero, List.set_cons_succ])
        refine wpAnyH_take (i := 3) (oi := ({ dst := some 41, op := Op.binOp BinOp.eql 86 (Operand.tmp 40) (Operand.const (Value.int IntKind.i64 0)) 86, type := 4, pos := "scanner.go:61", after := #[{ on := 2, ground := Ground.data }], guard := none } : Oper)) (v := ?_) rfl (by kernel_rfl) (by kernel_rfl) (by kernel_rfl) (fun _ _ _ h => h) (Or.inl ⟨by rfl, ?_⟩) hS ?_
        rotate_left
        · (intro w hSw; (try dsimp only at hSw); go_simp; try with_reducible rfl)
        (try simp only [Act.put, List.setIfInBounds_toArray, List.set_cons_zero, List.set_cons_succ])
        refine wpAnyH_take (i := 4) (oi := ({ dst := some 42, op := Op.move (Operand.tmp 41), type := 4, pos := "scanner.go:61", after := #[{ on := 3, ground := Ground.data }], guard := none } : Oper)) (v := ?_) rfl (by kernel_rfl) (by kernel_rfl) (by kernel_rfl) (fun _ _ _ h => h) (Or.inl ⟨by rfl, ?_⟩) hS ?_
        rotate_left
        · (intro w hSw; (try dsimp only at hSw); go_simp; try with_reducible rfl)
        (try simp only [Act.put, List.setIfInBounds_toArray, List.set_cons_zero, List.set_cons_succ])
        refine wpAnyH_take (i := 5) (oi := ({ dst := some 43, op := Op.move (Operand.tmp 0), type := 75, pos := "scanner.go:61", after := #[{ on := 4, ground := Ground.guard }], guard := some (4, true) } : Oper)) (v := undef) rfl (by kernel_rfl) (by kernel_rfl) (by kernel_rfl) (fun _ _ _ h => h) (Or.inr ⟨by rfl, rfl⟩) hS ?_
        (try simp only [Act.put, List.setIfInBounds_toArray, List.set_cons_zero, List.set_cons_succ])
        refine wpAnyH_take (i := 6) (oi := ({ dst := some 44, op := Op.move (Operand.tmp 1), type := 3, pos := "scanner.go:61", after := #[{ on := 4, ground := Ground.guard }], guard := some (4, true) } : Oper)) (v := undef) rfl (by kernel_rfl) (by kernel_rfl) (by kernel_rfl) (fun _ _ _ h => h) (Or.inr ⟨by rfl, rfl⟩) hS ?_
        (try simp only [Act.put, List.setIfInBounds_toArray, List.set_cons_zero, List.set_cons_succ])
        refine wpAnyH_take (i := 7) (oi := ({ dst := some 45, op := Op.move (Operand.tmp 8), type := 3, pos := "scanner.go:61", after := #[{ on := 4, ground := Ground.guard }], guard := some (4, true) } : Oper)) (v := undef) rfl (by kernel_rfl) (by kernel_rfl) (by kernel_rfl) (fun _ _ _ h => h) (Or.inr ⟨by rfl, rfl⟩) hS ?_
        (try simp only [Act.put, List.setIfInBounds_toArray, List.set_cons_zero, List.set_cons_succ])
        refine wpAnyH_take (i := 8) (oi := ({ dst := some 46, op := Op.call { callee := Callee.value (Operand.func 73), args := #[Operand.tmp 43, Operand.tmp 44, Operand.tmp 45], argTypes := #[75, 3, 3] }, type := 4, pos := "scanner.go:61", after := #[{ on := 5, ground := Ground.data }, { on := 6, ground := Ground.data }, { on := 7, ground := Ground.data }, { on := 4, ground := Ground.chain }, { on := 4, ground := Ground.guard }], guard := some (4, true) } : Oper)) (v := undef) rfl (by kernel_rfl) (by kernel_rfl) (by kernel_rfl) (fun _ _ _ h => h) (Or.inr ⟨by rfl, rfl⟩) hS ?_
        (try simp only [Act.put, List.setIfInBounds_toArray, List.set_cons_zero, List.set_cons_succ])
        refine wpAnyH_take (i := 9) (oi := ({ dst := some 47, op := Op.pick (Operand.tmp 42) (Operand.tmp 46) (Operand.const (Value.bool false)), type := 4, pos := "scanner.go:61", after := #[{ on := 4, ground := Ground.data }, { on := 8, ground := Ground.data }, { on := 11, ground := Ground.gcOnly Departure.lateStores }], guard := none } : Oper)) (v := ?_) rfl (by kernel_rfl) (by kernel_rfl) (by kernel_rfl) (fun _ _ _ h => h) (Or.inl ⟨by rfl, ?_⟩) hS ?_
        rotate_left
        · (intro w hSw; (try dsimp only at hSw); go_simp; try with_reducible rfl)
        (try simp only [Act.put, List.setIfInBounds_toArray, List.set_cons_zero, List.set_cons_succ])
        refine rg_one 10 ({ dst := none, op := Op.store 70 (Operand.tmp 4) (Operand.tmp 38), type := 0, pos := "scanner.go:61", after := #[{ on := 0, ground := Ground.data }, { on := 8, ground := Ground.chain }, { on := 0, ground := Ground.phase }, { on := 1, ground := Ground.textOnly Departure.lateStores }, { on := 2, ground := Ground.textOnly Departure.lateStores }, { on := 3, ground := Ground.textOnly Departure.lateStores }, { on := 4, ground := Ground.textOnly Departure.lateStores }, { on := 5, ground := Ground.textOnly Departure.lateStores }, { on := 6, ground := Ground.textOnly Departure.lateStores }, { on := 7, ground := Ground.textOnly Departure.lateStores }, { on := 8, ground := Ground.textOnly Departure.lateStoresUnsure }, { on := 9, ground := Ground.textOnly Departure.lateStores }], guard := none } : Oper) (by kernel_rfl) rfl (fun K hK => ?_)
        rw [if_pos (by rfl)]; refine wp_put_fr (.tmp 4) (.tmp 38) rfl w.heap.size HA7.out fk fe p4 n4 c4 rfl rfl ?_; intro w8 HF8 HG8; have hN := (show Below w.heap.size w w8 ∧ FO w8 g fk fe (.slice p4 n4 c4) from ⟨below_over hS.1 HG8.out (Nat.le_refl _) hS.1.size, hS.2.over HG8.out (Ne.symm HGN.out)⟩)
        refine hK.out _ _ ?_ (fun hS1 => ?_)
        · (first | exact hN | exact hS)
        clear hK K hS; have hS := hS1; clear hS1
        (try simp only [Act.put])
        refine wpAnyH_take (i := 11) (oi := ({ dst := some 5, op := Op.assign (Operand.tmp 39), type := 3, pos := "scanner.go:61", after := #[{ on := 1, ground := Ground.data }, { on := 10, ground := Ground.chain }, { on := 0, ground := Ground.phase }, { on := 1, ground := Ground.phase }, { on := 2, ground := Ground.textOnly Departure.lateStores }, { on := 3, ground := Ground.textOnly Departure.lateStores }, { on := 4, ground := Ground.textOnly Departure.lateStores }, { on := 5, ground := Ground.textOnly Departure.lateStores }, { on := 6, ground := Ground.textOnly Departure.lateStores }, { on := 7, ground := Ground.textOnly Departure.lateStores }, { on := 8, ground := Ground.textOnly Departure.lateStoresUnsure }, { on := 9, ground := Ground.textOnly Departure.lateStores }, { on := 10, ground := Ground.phase }], guard := none } : Oper)) (v := ?_) rfl (by kernel_rfl) (by kernel_rfl) (by kernel_rfl) (fun _ _ _ h => h) (Or.inl ⟨by rfl, ?_⟩) hS ?_
        rotate_left
        · (intro w hSw; (try dsimp only at hSw); go_simp; try with_reducible rfl)
        (try simp only [Act.put, List.setIfInBounds_toArray, List.set_cons_zero, List.set_cons_succ])
        refine wpAnyH_take (i := 12) (oi := ({ dst := some 6, op := Op.assign (Operand.tmp 47), type := 4, pos := "scanner.go:61", after := #[{ on := 9, ground := Ground.data }, { on := 11, ground := Ground.chain }, { on := 0, ground := Ground.phase }, { on := 1, ground := Ground.phase }, { on := 2, ground := Ground.phase }, { on := 3, ground := Ground.phase }, { on := 4, ground := Ground.phase }, { on := 5, ground := Ground.phase }, { on := 6, ground := Ground.phase }, { on := 7, ground := Ground.phase }, { on := 8, ground := Ground.phase }, { on := 9, ground := Ground.phase }, { on := 10, ground := Ground.phase }, { on := 11, ground := Ground.phase }], guard := none } : Oper)) (v := ?_) rfl (by kernel_rfl) (by kernel_rfl) (by kernel_rfl) (fun _ _ _ h => h) (Or.inl ⟨by rfl, ?_⟩) hS ?_
        rotate_left
        · (intro w hSw; (try dsimp only at hSw); go_simp; try with_reducible rfl)
        (try simp only [Act.put, List.setIfInBounds_toArray, List.set_cons_zero, List.set_cons_succ])
        refine wpAnyH_done (by kernel_rfl) ?_ _
        have HB8 := Lib.hid hS.1
        clear hS
        go_wp2
        refine bodyPost_ret_by (results_row_tmp2 rfl _ _ w.heap.size _ rfl HF8.out.load) rfl ?_
        exact ⟨HB8.out, .inl ⟨by rw [HNO.out], _, _, _, _, _, _, rfl⟩⟩
end Go.Proofs.YtepaghohojomeaaDoor
/-
  WHAT THE SCANNER'S METHOD tell DOES (layer 19): a record more, its place, the end. No condition but bounds.
-/
namespace Go.Proofs.YtepaghohojomeaaDoor
open Go.RowKit
theorem Tryd.info_int : (Tryd.prog.info? 3).map (fun i => (i.zero, i.size, i.bytes)) = some (some (.int .i64 0), 1, 8) := by kernel_rfl
theorem ri_int1 (w : World) (x : Int) : RI .i64 (w.alloc (.cells #[.int .i64 x] 3)) (.slice (some ⟨w.heap.size, 0, none⟩) 1 1) 1 [x] := by
  refine ⟨_, 1, rfl, rfl, Nat.le_refl _, by omega, fun h => by simp at h, fun _ => ⟨w.heap.size, 0, rfl, fun j hj => ?_⟩⟩
  obtain rfl : j = 0 := by omega
  rw [Nat.zero_add, cell_of_row _ w.heap.size 0 _ _ _ (heap_alloc_last w _)]
  rfl
theorem keep_drew (w : World) (o : Obj) : Below w.heap.size w (w.alloc o).drew := (balloc w o).drew
set_option maxRecDepth 8000 in
set_option maxHeartbeats 4000000 in
theorem tell_any {W w : World} {sb jb : Nat} {ep : Int} {bv kv : Value} {a b e : Nat} {o : Bool} {h : List Int} {hv rv : Value} {es : List (List Int × Value)} {pv : Value} {ps : List Int}
    (c : SC W w sb jb ep bv kv a b e o h hv rv es pv ps) (u : Value) (r : List Int) (hu : w.ownsRow W.heap.size 5 1 u r.length (il .u8 r)) (hap : ∀ g, u.ownBlock = some g → some g ≠ hv.ownBlock) (hm : es.length ≤ 1000) (hp : ps.length ≤ 1000) :
    Calls Tryd.prog 51 #[.pointer (some ⟨sb, 0, none⟩), u] w fun e' w' => e' = .returned (.tuple #[]) ∧ ∃ rv' pv', SC W w' sb jb ep bv kv a b a o h hv rv' (es ++ [(r, u)]) pv' (ps ++ [(b : Int)]) := by
  obtain ⟨ua, uc, rfl⟩ := own_form hu
  obtain ⟨ra, rc, rfl⟩ := own_form c.recs.row
  obtain ⟨pa, pc, rfl⟩ := own_form c.places
  obtain ⟨wa, hwa⟩ : ∃ q, w.alloc (.cells #[.slice ua r.length uc] 43) = q := ⟨_, rfl⟩
  have hba : Below w.heap.size w wa := by rw [← hwa]; exact balloc w _
  have HCA := Lib.hid (c.keep hba)
  have HUA := Lib.hid (own_keep hu hba)
  have HKA : Hid (wa.heap[w.heap.size]? = some (.cells #[.slice ua r.length uc] 43 (0, 0))) := Lib.hid (by rw [← hwa]; exact heap_alloc_last w _)
  have HAP := Lib.hid hap
  obtain ⟨_, _, _, _, _, _, z6, _⟩ := c.blk.cells
  clear c hu hap hba
  go_enter Tryd.func51, Tryd.ntmps51
  go_wp2_with (first
    | (at_builtin; refine wpl_app_sr rfl (.tmp 9) (.tmp 11) rfl rfl HCA.out.recs w.heap.size (r, .slice ua r.length uc) rfl HKA.out HUA.out HAP.out (by omega) HCA.out.below.size ?_; intro v8 w8 HR8 HG8; obtain ⟨a8, c8, rfl⟩ := own_form HR8.out.row; have hs8 := HCA.out.blk.grown HCA.out.recs.row (by decide) HG8.out; have z68 := hs8.cells.2.2.2.2.2.2.1; have f68 := hs8.frozen 6; have HC9 := Lib.hid (HCA.out.more (es' := es ++ [(r, .slice ua r.length uc)]) HG8.out (by rw [List.length_append]; exact HR8.out)); obtain ⟨w9, hw9⟩ : ∃ q, w8.setCell ⟨sb, 6, none⟩ (.slice a8 (es.length + 1) c8) = q := ⟨_, rfl⟩; rw [hw9] at HC9; clear hs8))
  clear z6 z68 f68 HCA HUA HKA HAP HR8 HG8
  have HCD := Lib.hid (HC9.out.keep (Below.refl _ w9).drew)
  obtain ⟨_, _, _, _, _, y5, _, y7, _⟩ := HCD.out.blk.cells
  go_wp2_with fail
  refine wp_region_held_drew (S := (fun w' => w'.cell? ⟨sb, 5, none⟩ = some (.int .i64 (b : Int)))) (by kernel_rfl) y5 (fun hS => ?_)
  refine wpAnyH_take (i := 0) (oi := ({ dst := some 16, op := Op.move (Operand.tmp 0), type := 75, pos := "scanner.go:72", after := #[], guard := none } : Oper)) (v := ?_) rfl (by kernel_rfl) (by kernel_rfl) (by kernel_rfl) (fun _ _ _ h => h) (Or.inl ⟨by rfl, ?_⟩) hS ?_
  rotate_left
  · (intro w hSw; (try dsimp only at hSw); go_simp; try with_reducible rfl)
  (try simp only [Act.put, List.setIfInBounds_toArray, List.set_cons_zero, List.set_cons_succ])
  refine wpAnyH_take (i := 1) (oi := ({ dst := some 17, op := Op.move (Operand.tmp 0), type := 75, pos := "scanner.go:72", after := #[], guard := none } : Oper)) (v := ?_) rfl (by kernel_rfl) (by kernel_rfl) (by kernel_rfl) (fun _ _ _ h => h) (Or.inl ⟨by rfl, ?_⟩) hS ?_
  rotate_left
  · (intro w hSw; (try dsimp only at hSw); go_simp; try with_reducible rfl)
  (try simp only [Act.put, List.setIfInBounds_toArray, List.set_cons_zero, List.set_cons_succ])
  refine wpAnyH_take (i := 2) (oi := ({ dst := some 18, op := Op.nilCheck (Operand.tmp 17), type := 0, pos := "scanner.go:72", after := #[{ on := 1, ground := Ground.data }], guard := none } : Oper)) (v := ?_) rfl (by kernel_rfl) (by kernel_rfl) (by kernel_rfl) (fun _ _ _ h => h) (Or.inl ⟨by rfl, ?_⟩) hS ?_
  rotate_left
  · (intro w hSw; (try dsimp only at hSw); go_simp; try with_reducible rfl)
  (try simp only [Act.put, List.setIfInBounds_toArray, List.set_cons_zero, List.set_cons_succ])
  refine wpAnyH_take (i := 3) (oi := ({ dst := some 19, op := Op.fieldAddr 80 (Operand.tmp 18) 6, type := 0, pos := "scanner.go:72", after := #[{ on := 2, ground := Ground.data }], guard := none } : Oper)) (v := ?_) rfl (by kernel_rfl) (by kernel_rfl) (by kernel_rfl) (fun _ _ _ h => h) (Or.inl ⟨by rfl, ?_⟩) hS ?_
  rotate_left
  · (intro w hSw; (try dsimp only at hSw); go_simp; try with_reducible rfl)
  (try simp only [Act.put, List.setIfInBounds_toArray, List.set_cons_zero, List.set_cons_succ])
  refine wpAnyH_take (i := 4) (oi := ({ dst := some 20, op := Op.fieldAddr 49 (Operand.tmp 19) 1, type := 0, pos := "scanner.go:72", after := #[{ on := 3, ground := Ground.data }], guard := none } : Oper)) (v := ?_) rfl (by kernel_rfl) (by kernel_rfl) (by kernel_rfl) (fun _ _ _ h => h) (Or.inl ⟨by rfl, ?_⟩) hS ?_
  rotate_left
  · (intro w hSw; (try dsimp only at hSw); go_simp; try with_reducible rfl)
  (try simp only [Act.put, List.setIfInBounds_toArray, List.set_cons_zero, List.set_cons_succ])
  refine wpAnyH_take (i := 6) (oi := ({ dst := some 22, op := Op.move (Operand.tmp 0), type := 75, pos := "scanner.go:72", after := #[], guard := none } : Oper)) (v := ?_) rfl (by kernel_rfl) (by kernel_rfl) (by kernel_rfl) (fun _ _ _ h => h) (Or.inl ⟨by rfl, ?_⟩) hS ?_
  rotate_left
  · (intro w hSw; (try dsimp only at hSw); go_simp; try with_reducible rfl)
  (try simp only [Act.put, List.setIfInBounds_toArray, List.set_cons_zero, List.set_cons_succ])
  refine wpAnyH_take (i := 7) (oi := ({ dst := some 23, op := Op.nilCheck (Operand.tmp 22), type := 0, pos := "scanner.go:72", after := #[{ on := 6, ground := Ground.data }], guard := none } : Oper)) (v := ?_) rfl (by kernel_rfl) (by kernel_rfl) (by kernel_rfl) (fun _ _ _ h => h) (Or.inl ⟨by rfl, ?_⟩) hS ?_
  rotate_left
  · (intro w hSw; (try dsimp only at hSw); go_simp; try with_reducible rfl)
  (try simp only [Act.put, List.setIfInBounds_toArray, List.set_cons_zero, List.set_cons_succ])
  refine wpAnyH_take (i := 8) (oi := ({ dst := some 24, op := Op.fieldAddr 80 (Operand.tmp 23) 5, type := 0, pos := "scanner.go:72", after := #[{ on := 7, ground := Ground.data }], guard := none } : Oper)) (v := ?_) rfl (by kernel_rfl) (by kernel_rfl) (by kernel_rfl) (fun _ _ _ h => h) (Or.inl ⟨by rfl, ?_⟩) hS ?_
  rotate_left
  · (intro w hSw; (try dsimp only at hSw); go_simp; try with_reducible rfl)
  (try simp only [Act.put, List.setIfInBounds_toArray, List.set_cons_zero, List.set_cons_succ])
  refine wpAnyH_take (i := 9) (oi := ({ dst := some 25, op := Op.load 3 (Operand.tmp 24), type := 3, pos := "scanner.go:72", after := #[{ on := 8, ground := Ground.data }], guard := none } : Oper)) (v := ?_) rfl (by kernel_rfl) (by kernel_rfl) (by kernel_rfl) (fun _ _ _ h => h) (Or.inl ⟨by rfl, ?_⟩) hS ?_
  rotate_left
  · (intro w hSw; (try dsimp only at hSw); go_simp; try with_reducible rfl)
  (try simp only [Act.put, List.setIfInBounds_toArray, List.set_cons_zero, List.set_cons_succ])
  refine rg_both 5 10 ({ dst := some 21, op := Op.load 32 (Operand.tmp 20), type := 32, pos := "scanner.go:72", after := #[{ on := 4, ground := Ground.data }], guard := none } : Oper) ({ dst := some 26, op := Op.buildSlice 32 1 #[(0, Operand.tmp 25)], type := 32, pos := "scanner.go:72", after := #[{ on := 9, ground := Ground.data }], guard := none } : Oper) (by kernel_rfl) rfl rfl (fun K hK => ?_) (fun K hK => ?_)
  · skip
    go_simp
    refine hK.out _ _ ?_ (fun hS1 => ?_)
    · (first | exact hN | exact hS)
    clear hK K hS; have hS := hS1; clear hS1
    (try simp only [Act.put, List.setIfInBounds_toArray, List.set_cons_zero, List.set_cons_succ])
    refine rg_one 10 ({ dst := some 26, op := Op.buildSlice 32 1 #[(0, Operand.tmp 25)], type := 32, pos := "scanner.go:72", after := #[{ on := 9, ground := Ground.data }], guard := none } : Oper) (by kernel_rfl) rfl (fun K hK => ?_)
    go_simp
    (obtain ⟨wA, hwA⟩ : ∃ q, (w9.alloc (.cells #[.int .i64 (b : Int)] 3)).drew = q := ⟨_, rfl⟩; rw [hwA]; have HCA := Lib.hid (HC9.out.keep (hwA ▸ keep_drew w9 _)); have y7 := HCA.out.blk.cells.2.2.2.2.2.2.2.1; have hN := HCA.out.blk.cells.2.2.2.2.2.1; have HRI : Hid (RI .i64 wA (.slice (some ⟨w9.heap.size, 0, none⟩) 1 1) 1 [(b : Int)]) := Lib.hid (hwA ▸ (ri_int1 w9 (b : Int)).keep (Below.refl _ _).drew))
    refine hK.out _ _ ?_ (fun hS1 => ?_)
    · (first | exact hN | exact hS)
    clear hK K hS; have hS := hS1; clear hS1
    (try simp only [Act.put, List.setIfInBounds_toArray, List.set_cons_zero, List.set_cons_succ])
    refine rg_one 11 ({ dst := some 27, op := Op.call { callee := Callee.builtin Builtin.append, args := #[Operand.tmp 21, Operand.tmp 26], argTypes := #[32, 32] }, type := 32, pos := "scanner.go:72", after := #[{ on := 5, ground := Ground.data }, { on := 10, ground := Ground.data }], guard := none } : Oper) (by kernel_rfl) rfl (fun K hK => ?_)
    rw [if_pos (by rfl)]; refine wp_appn (.tmp 21) (.tmp 26) 32 rfl 3 .i64 8 Tryd.underlying32 Tryd.info_int W.heap.size (.slice pa ps.length pc) ps.length ps rfl HCA.out.places _ 1 [(b : Int)] rfl HRI.out (by omega) (by omega) HCA.out.below.size ?_; intro v5 w5 ho5 hg5 _; obtain ⟨a5, c5, rfl⟩ := own_form ho5; have hs5 := HCA.out.blk.grown HCA.out.places (by decide) hg5; have hN := hs5.cells.2.2.2.2.2.1; have z75 := hs5.cells.2.2.2.2.2.2.2.1; have f75 := hs5.frozen 7; have HC6 := Lib.hid (HCA.out.more7 (ps' := ps ++ [(b : Int)]) hg5 (by rw [List.length_append]; exact ho5)); clear hs5
    refine hK.out _ _ ?_ (fun hS1 => ?_)
    · (first | exact hN | exact hS)
    clear hK K hS; have hS := hS1; clear hS1
    (try simp only [Act.put, List.setIfInBounds_toArray, List.set_cons_zero, List.set_cons_succ])
    refine wpAnyH_take (i := 12) (oi := ({ dst := some 28, op := Op.nilCheck (Operand.tmp 16), type := 0, pos := "scanner.go:72", after := #[{ on := 0, ground := Ground.data }, { on := 0, ground := Ground.phase }, { on := 1, ground := Ground.phase }, { on := 2, ground := Ground.phase }, { on := 3, ground := Ground.phase }, { on := 4, ground := Ground.phase }, { on := 5, ground := Ground.phase }, { on := 6, ground := Ground.phase }, { on := 7, ground := Ground.phase }, { on := 8, ground := Ground.phase }, { on := 9, ground := Ground.phase }, { on := 10, ground := Ground.phase }, { on := 11, ground := Ground.phase }], guard := none } : Oper)) (v := ?_) rfl (by kernel_rfl) (by kernel_rfl) (by kernel_rfl) (fun _ _ _ h => h) (Or.inl ⟨by rfl, ?_⟩) hS ?_
    rotate_left
    · (intro w hSw; (try dsimp only at hSw); go_simp; try with_reducible rfl)
    (try simp only [Act.put, List.setIfInBounds_toArray, List.set_cons_zero, List.set_cons_succ])
    refine wpAnyH_take (i := 13) (oi := ({ dst := some 29, op := Op.fieldAddr 80 (Operand.tmp 28) 6, type := 0, pos := "scanner.go:72", after := #[{ on := 12, ground := Ground.data }, { on := 0, ground := Ground.phase }, { on := 1, ground := Ground.phase }, { on := 2, ground := Ground.phase }, { on := 3, ground := Ground.phase }, { on := 4, ground := Ground.phase }, { on := 5, ground := Ground.phase }, { on := 6, ground := Ground.phase }, { on := 7, ground := Ground.phase }, { on := 8, ground := Ground.phase }, { on := 9, ground := Ground.phase }, { on := 10, ground := Ground.phase }, { on := 11, ground := Ground.phase }], guard := none } : Oper)) (v := ?_) rfl (by kernel_rfl) (by kernel_rfl) (by kernel_rfl) (fun _ _ _ h => h) (Or.inl ⟨by rfl, ?_⟩) hS ?_
    rotate_left
    · (intro w hSw; (try dsimp only at hSw); go_simp; try with_reducible rfl)
    (try simp only [Act.put, List.setIfInBounds_toArray, List.set_cons_zero, List.set_cons_succ])
    refine wpAnyH_take (i := 14) (oi := ({ dst := some 30, op := Op.fieldAddr 49 (Operand.tmp 29) 1, type := 0, pos := "scanner.go:72", after := #[{ on := 13, ground := Ground.data }, { on := 0, ground := Ground.phase }, { on := 1, ground := Ground.phase }, { on := 2, ground := Ground.phase }, { on := 3, ground := Ground.phase }, { on := 4, ground := Ground.phase }, { on := 5, ground := Ground.phase }, { on := 6, ground := Ground.phase }, { on := 7, ground := Ground.phase }, { on := 8, ground := Ground.phase }, { on := 9, ground := Ground.phase }, { on := 10, ground := Ground.phase }, { on := 11, ground := Ground.phase }], guard := none } : Oper)) (v := ?_) rfl (by kernel_rfl) (by kernel_rfl) (by kernel_rfl) (fun _ _ _ h => h) (Or.inl ⟨by rfl, ?_⟩) hS ?_
    rotate_left
    · (intro w hSw; (try dsimp only at hSw); go_simp; try with_reducible rfl)
    (try simp only [Act.put, List.setIfInBounds_toArray, List.set_cons_zero, List.set_cons_succ])
    refine rg_one 15 ({ dst := none, op := Op.store 32 (Operand.tmp 30) (Operand.tmp 27), type := 0, pos := "scanner.go:72", after := #[{ on := 14, ground := Ground.data }, { on := 11, ground := Ground.data }, { on := 11, ground := Ground.chain }, { on := 0, ground := Ground.phase }, { on := 1, ground := Ground.phase }, { on := 2, ground := Ground.phase }, { on := 3, ground := Ground.phase }, { on := 4, ground := Ground.phase }, { on := 5, ground := Ground.phase }, { on := 6, ground := Ground.phase }, { on := 7, ground := Ground.phase }, { on := 8, ground := Ground.phase }, { on := 9, ground := Ground.phase }, { on := 10, ground := Ground.phase }, { on := 11, ground := Ground.phase }], guard := none } : Oper) (by kernel_rfl) rfl (fun K hK => ?_)
    go_simp
    (obtain ⟨w6, hw6⟩ : ∃ q, w5.setCell ⟨sb, 7, none⟩ (.slice a5 (ps.length + 1) c5) = q := ⟨_, rfl⟩; rw [hw6]; rw [hw6] at HC6; clear hN; have hN := HC6.out.blk.cells.2.2.2.2.2.1)
    refine hK.out _ _ ?_ (fun hS1 => ?_)
    · (first | exact hN | exact hS)
    clear hK K hS; have hS := hS1; clear hS1
    (try simp only [Act.put])
    refine wpAnyH_done (by kernel_rfl) ?_ _
    clear hS hN
    (try clear y7)
    (try clear z75 f75 hw6)
    obtain ⟨_, _, _, _, x4, _, _, _, x8, _⟩ := HC6.out.blk.cells
    have f8 := HC6.out.blk.frozen 8
    go_wp2
    go_end0
    exact ⟨rfl, _, _, HC6.out.set8 a⟩
  · skip
    go_simp
    (obtain ⟨wA, hwA⟩ : ∃ q, (w9.alloc (.cells #[.int .i64 (b : Int)] 3)).drew = q := ⟨_, rfl⟩; rw [hwA]; have HCA := Lib.hid (HC9.out.keep (hwA ▸ keep_drew w9 _)); have y7 := HCA.out.blk.cells.2.2.2.2.2.2.2.1; have hN := HCA.out.blk.cells.2.2.2.2.2.1; have HRI : Hid (RI .i64 wA (.slice (some ⟨w9.heap.size, 0, none⟩) 1 1) 1 [(b : Int)]) := Lib.hid (hwA ▸ (ri_int1 w9 (b : Int)).keep (Below.refl _ _).drew))
    refine hK.out _ _ ?_ (fun hS1 => ?_)
    · (first | exact hN | exact hS)
    clear hK K hS; have hS := hS1; clear hS1
    (try simp only [Act.put, List.setIfInBounds_toArray, List.set_cons_zero, List.set_cons_succ])
    refine rg_one 5 ({ dst := some 21, op := Op.load 32 (Operand.tmp 20), type := 32, pos := "scanner.go:72", after := #[{ on := 4, ground := Ground.data }], guard := none } : Oper) (by kernel_rfl) rfl (fun K hK => ?_)
    go_simp
    refine hK.out _ _ ?_ (fun hS1 => ?_)
    · (first | exact hN | exact hS)
    clear hK K hS; have hS := hS1; clear hS1
    (try simp only [Act.put, List.setIfInBounds_toArray, List.set_cons_zero, List.set_cons_succ])
    refine rg_one 11 ({ dst := some 27, op := Op.call { callee := Callee.builtin Builtin.append, args := #[Operand.tmp 21, Operand.tmp 26], argTypes := #[32, 32] }, type := 32, pos := "scanner.go:72", after := #[{ on := 5, ground := Ground.data }, { on := 10, ground := Ground.data }], guard := none } : Oper) (by kernel_rfl) rfl (fun K hK => ?_)
    rw [if_pos (by rfl)]; refine wp_appn (.tmp 21) (.tmp 26) 32 rfl 3 .i64 8 Tryd.underlying32 Tryd.info_int W.heap.size (.slice pa ps.length pc) ps.length ps rfl HCA.out.places _ 1 [(b : Int)] rfl HRI.out (by omega) (by omega) HCA.out.below.size ?_; intro v5 w5 ho5 hg5 _; obtain ⟨a5, c5, rfl⟩ := own_form ho5; have hs5 := HCA.out.blk.grown HCA.out.places (by decide) hg5; have hN := hs5.cells.2.2.2.2.2.1; have z75 := hs5.cells.2.2.2.2.2.2.2.1; have f75 := hs5.frozen 7; have HC6 := Lib.hid (HCA.out.more7 (ps' := ps ++ [(b : Int)]) hg5 (by rw [List.length_append]; exact ho5)); clear hs5
    refine hK.out _ _ ?_ (fun hS1 => ?_)
    · (first | exact hN | exact hS)
    clear hK K hS; have hS := hS1; clear hS1
    (try simp only [Act.put, List.setIfInBounds_toArray, List.set_cons_zero, List.set_cons_succ])
    refine wpAnyH_take (i := 12) (oi := ({ dst := some 28, op := Op.nilCheck (Operand.tmp 16), type := 0, pos := "scanner.go:72", after := #[{ on := 0, ground := Ground.data }, { on := 0, ground := Ground.phase }, { on := 1, ground := Ground.phase }, { on := 2, ground := Ground.phase }, { on := 3, ground := Ground.phase }, { on := 4, ground := Ground.phase }, { on := 5, ground := Ground.phase }, { on := 6, ground := Ground.phase }, { on := 7, ground := Ground.phase }, { on := 8, ground := Ground.phase }, { on := 9, ground := Ground.phase }, { on := 10, ground := Ground.phase }, { on := 11, ground := Ground.phase }], guard := none } : Oper)) (v := ?_) rfl (by kernel_rfl) (by kernel_rfl) (by kernel_rfl) (fun _ _ _ h => h) (Or.inl ⟨by rfl, ?_⟩) hS ?_
    rotate_left
    · (intro w hSw; (try dsimp only at hSw); go_simp; try with_reducible rfl)
    (try simp only [Act.put, List.setIfInBounds_toArray, List.set_cons_zero, List.set_cons_succ])
    refine wpAnyH_take (i := 13) (oi := ({ dst := some 29, op := Op.fieldAddr 80 (Operand.tmp 28) 6, type := 0, pos := "scanner.go:72", after := #[{ on := 12, ground := Ground.data }, { on := 0, ground := Ground.phase }, { on := 1, ground := Ground.phase }, { on := 2, ground := Ground.phase }, { on := 3, ground := Ground.phase }, { on := 4, ground := Ground.phase }, { on := 5, ground := Ground.phase }, { on := 6, ground := Ground.phase }, { on := 7, ground := Ground.phase }, { on := 8, ground := Ground.phase }, { on := 9, ground := Ground.phase }, { on := 10, ground := Ground.phase }, { on := 11, ground := Ground.phase }], guard := none } : Oper)) (v := ?_) rfl (by kernel_rfl) (by kernel_rfl) (by kernel_rfl) (fun _ _ _ h => h) (Or.inl ⟨by rfl, ?_⟩) hS ?_
    rotate_left
    · (intro w hSw; (try dsimp only at hSw); go_simp; try with_reducible rfl)
    (try simp only [Act.put, List.setIfInBounds_toArray, List.set_cons_zero, List.set_cons_succ])
    refine wpAnyH_take (i := 14) (oi := ({ dst := some 30, op := Op.fieldAddr 49 (Operand.tmp 29) 1, type := 0, pos := "scanner.go:72", after := #[{ on := 13, ground := Ground.data }, { on := 0, ground := Ground.phase }, { on := 1, ground := Ground.phase }, { on := 2, ground := Ground.phase }, { on := 3, ground := Ground.phase }, { on := 4, ground := Ground.phase }, { on := 5, ground := Ground.phase }, { on := 6, ground := Ground.phase }, { on := 7, ground := Ground.phase }, { on := 8, ground := Ground.phase }, { on := 9, ground := Ground.phase }, { on := 10, ground := Ground.phase }, { on := 11, ground := Ground.phase }], guard := none } : Oper)) (v := ?_) rfl (by kernel_rfl) (by kernel_rfl) (by kernel_rfl) (fun _ _ _ h => h) (Or.inl ⟨by rfl, ?_⟩) hS ?_
    rotate_left
    · (intro w hSw; (try dsimp only at hSw); go_simp; try with_reducible rfl)
    (try simp only [Act.put, List.setIfInBounds_toArray, List.set_cons_zero, List.set_cons_succ])
    refine rg_one 15 ({ dst := none, op := Op.store 32 (Operand.tmp 30) (Operand.tmp 27), type := 0, pos := "scanner.go:72", after := #[{ on := 14, ground := Ground.data }, { on := 11, ground := Ground.data }, { on := 11, ground := Ground.chain }, { on := 0, ground := Ground.phase }, { on := 1, ground := Ground.phase }, { on := 2, ground := Ground.phase }, { on := 3, ground := Ground.phase }, { on := 4, ground := Ground.phase }, { on := 5, ground := Ground.phase }, { on := 6, ground := Ground.phase }, { on := 7, ground := Ground.phase }, { on := 8, ground := Ground.phase }, { on := 9, ground := Ground.phase }, { on := 10, ground := Ground.phase }, { on := 11, ground := Ground.phase }], guard := none } : Oper) (by kernel_rfl) rfl (fun K hK => ?_)
    go_simp
    (obtain ⟨w6, hw6⟩ : ∃ q, w5.setCell ⟨sb, 7, none⟩ (.slice a5 (ps.length + 1) c5) = q := ⟨_, rfl⟩; rw [hw6]; rw [hw6] at HC6; clear hN; have hN := HC6.out.blk.cells.2.2.2.2.2.1)
    refine hK.out _ _ ?_ (fun hS1 => ?_)
    · (first | exact hN | exact hS)
    clear hK K hS; have hS := hS1; clear hS1
    (try simp only [Act.put])
    refine wpAnyH_done (by kernel_rfl) ?_ _
    clear hS hN
    (try clear y7)
    (try clear z75 f75 hw6)
    obtain ⟨_, _, _, _, x4, _, _, _, x8, _⟩ := HC6.out.blk.cells
    have f8 := HC6.out.blk.frozen 8
    go_wp2
    go_end0
    exact ⟨rfl, _, _, HC6.out.set8 a⟩
end Go.Proofs.YtepaghohojomeaaDoor
/-
  WHAT New AND Idle OF THE PROGRAM'S LAYER 15 (join) ANSWER, and Feed of no joiner. No condition.
-/
namespace Go.Proofs.YtepaghohojomeaaDoor
open Go.RowKit
set_option maxRecDepth 8000 in
theorem new_any (w : World) : Calls Tryd.prog 46 #[] w fun e w' => e = .returned (.pointer (some ⟨w.heap.size, 0, none⟩)) ∧ JB w' w.heap.size w.heap.size false (.slice none 0 0) [] ∧ Below w.heap.size w w' := by
  go_enter Tryd.func46, Tryd.ntmps46
  go_wp2
  go_ret
  exact ⟨rfl, ⟨heap_alloc_last w _, World.ownsRow_nil _ _ _ _, fun _ => ⟨rfl, rfl⟩, by simp, Nat.le_refl _⟩, balloc w _⟩
set_option maxRecDepth 8000 in
theorem idle_any (o : Bool) (v : Value) (jb : Nat) (w : World) (h : JO w jb o v) : Calls Tryd.prog 49 #[.pointer (some ⟨jb, 0, none⟩)] w fun e w' => e = .returned (.bool (!o)) ∧ w = w' := by
  obtain ⟨h0, h1⟩ := h.cells
  clear h
  go_enter Tryd.func49, Tryd.ntmps49
  go_wp2
  go_ret
  exact ⟨rfl, rfl⟩
set_option maxRecDepth 8000 in
theorem idle_nil (w : World) : Calls Tryd.prog 49 #[.pointer none] w fun e w' => e = .returned (.bool true) ∧ w = w' := by
  go_enter Tryd.func49, Tryd.ntmps49
  go_wp2
  go_ret
  exact ⟨rfl, rfl⟩
set_option maxRecDepth 8000 in
theorem feed_nil (k ep : Int) (v : Value) (w : World) : Calls Tryd.prog 50 #[.pointer none, .agg (fA k ep v)] w fun e w' => e = .returned (.tuple #[.slice none 0 0, .bool false, .int .i64 11]) ∧ Below w.heap.size w w' := by
  go_enter Tryd.func50, Tryd.ntmps50
  go_wp2
  go_step3
  go_wp2
  try rw [Exit.noGoto_ret]
  go_ret3
  exact ⟨rfl, balloc w _⟩
end Go.Proofs.YtepaghohojomeaaDoor
/-
  WHAT stamp.Empty ANSWERS (layer 6). No condition.
-/
namespace Go.Proofs.YtepaghohojomeaaDoor
open Go.RowKit
set_option maxRecDepth 8000 in
theorem empty_any (l : List Int) (hl : l.length = 64) (w : World) :
    Calls Tryd.prog 53 #[.agg (sv l)] w fun e w' => e = .returned (.bool (decide (l = z64))) ∧ Below w.heap.size w w' := by
  obtain ⟨z, hz⟩ : ∃ z, decide (l = z64) = z := ⟨_, rfl⟩
  have HQ := Lib.hid (run_eq_sec l z64 hl z64_length)
  rw [hz] at HQ
  rw [hz]
  have HK0 := Lib.hid (Blk.new w l hl)
  have HZ := Lib.hid z64_cells
  have hq := HQ.out (w.alloc (.cells (sv l) 28))
  rw [HZ.out] at hq
  clear hl hz
  go_enter Tryd.func53, Tryd.ntmps53
  go_wp2_with (first
    | (refine wpl_load_sec (by rfl) _ rfl w.heap.size rfl l HK0.out ?_))
  go_ret
  exact ⟨rfl, below_alloc _ _⟩
end Go.Proofs.YtepaghohojomeaaDoor
/-
  WHAT Rest OF THE PROGRAM'S LAYER 19 (scan) ANSWERS, of any sectors and any end. No condition.
-/
namespace Go.Proofs.YtepaghohojomeaaDoor
open Go.RowKit
theorem rest_step {fs : List Int} {e i : Nat} (h : ∀ j, j < i → restS fs e j = true) (hz : restS fs e i = true) : ∀ j, j < i + 1 → restS fs e j = true := fun j hj => by
  by_cases ej : j = i
  · rw [ej]; exact hz
  · exact h j (by omega)
theorem u8_zero (w : World) : (zeroValue 5).run Tryd.prog w = .ok (.int .u8 0) w := by
  obtain ⟨i, hi, hz0, _, _⟩ := info_parts Tryd.info_u8
  simp [zeroValue, typeInfo, hi, hz0]
/-- clear(s[:m]) of a sector in a block -/
theorem wpl_clear_sec {ops : Array Oper} {rest : List Oper} {o : Oper} {a : Act} {w : World} {Q : Exit → Act → World → Prop} (hgd : o.guard = none) (d : Operand)
    (ho : o.op = .call { callee := .builtin .clear, args := #[d], argTypes := #[43] }) (g m c : Nat) (l : List Int) (hk : Blk w g l) (hd : a.eval d = .slice (some ⟨g, 0, none⟩) m c) (h0 : 0 < m) (hm : m ≤ 64)
    (h : ∀ w' v, Hid (Blk w' g (cleared l m)) → Hid (w.grownBy w' (some g)) → wpList Tryd.prog ops Q rest (a.put o.dst v) w') : wpList Tryd.prog ops Q (o :: rest) a w := by
  refine wpList_plain hgd fun K hK => ?_
  have hrun := Lib.run_clear_slice (P := Tryd.prog) w 43 5 o.type (.int .u8 0) Tryd.underlying43 u8_zero rfl rfl g 0 m c h0 (fun j hj => by rw [Nat.zero_add, hk.cell j (by omega)]; rfl) (fun j hj => by rw [Nat.zero_add]; exact hk.frozen j)
  have hc : (w.setCells g 0 (List.replicate m (.int .u8 0))).heap[g]? = some (.cells (sv (cleared l m)) 28 (0, 0)) := by
    have h1 := heap_setCells g 28 (0, 0) (List.replicate m (.int .u8 0)) 0 w (il .u8 l) (by rw [List.length_replicate, il_length, hk.2]; omega) hk.1
    have e : splice (il .u8 l) 0 (List.replicate m (Value.int .u8 0)) = il .u8 (cleared l m) := by
      unfold cleared splice il
      simp only [List.map_append, List.map_take, List.map_drop, List.map_replicate, List.length_replicate]
    rw [h1, e]
    rfl
  unfold Oper.wp
  simp [execOp, ho, resolve, invoke, builtin, hd, hrun, Result.andThen]
  exact hK _ _ (h _ _ ⟨hc, cleared_length _ hk.2 _ hm⟩ (grown_setCells g _ 0 w))
set_option maxRecDepth 8000 in
set_option maxHeartbeats 4000000 in
theorem rest_any (v : Value) (n : Nat) (fs : List Int) (x : Int) (hx : I63 x) (w : World) (h : FS w v n fs) :
    Calls Tryd.prog 28 #[v, .int .i64 x] w fun r w' => r = .returned (.bool (restB n fs (nr x))) ∧ Below w.heap.size w w' := by
  have hle := nr_le x
  have HW : Hid (∀ w, Calls Tryd.prog 52 #[.int .i64 x] w fun e w' => e = .returned (.agg #[.int .i64 ((nr x / 52 : Nat) : Int), .int .i64 ((nr x % 52 : Nat) : Int)]) ∧ Below w.heap.size w w') := Lib.hid fun w => where_any x hx w
  obtain ⟨e, he⟩ : ∃ e, nr x = e := ⟨_, rfl⟩
  rw [he] at HW hle ⊢
  obtain ⟨q, hq⟩ : ∃ q, e / 52 = q := ⟨_, rfl⟩
  obtain ⟨o, ho⟩ : ∃ o, e % 52 = o := ⟨_, rfl⟩
  rw [hq, ho] at HW
  have hfl := h.length
  obtain ⟨ad, cap, rfl, _, hc1, hc2, _⟩ := id h
  have HH := Lib.hid h
  have HFL := Lib.hid hfl
  obtain ⟨m, hm⟩ : ∃ m, min n 16 = m := ⟨_, rfl⟩
  have hmi : (if (16 : Int) < (n : Int) then (16 : Int) else (n : Int)) = (m : Int) := by split <;> omega
  have HM := Lib.hid hm
  have HQ := Lib.hid hq
  have HO := Lib.hid ho
  have ho51 : o ≤ 51 := by omega
  have hq16 : q ≤ 16 := by omega
  obtain ⟨t, ht⟩ : ∃ t : Nat, 12 + o = t := ⟨_, rfl⟩
  have htI : (12 : Int) + (o : Int) = (t : Int) := by omega
  have htb : (t : Int) ≤ 64 := by omega
  have HT := Lib.hid ht
  have hwz := Lib.hid (Nat.le_refl w.heap.size)
  clear h hx hfl hm hq ho he ht
  go_enter Tryd.func28, Tryd.ntmps28
  go_wp2_with (first
    | (go_at_call 52; (with_reducible refine (HW.out _).mono ?_); rintro r w1 ⟨rfl, hb⟩; have HB1 := Lib.hid hb; clear hb))
  obtain ⟨w2, hw2⟩ : ∃ q', w1.alloc (.cells #[.int .i64 (q : Int), .int .i64 (o : Int)] 112) = q' := ⟨_, rfl⟩
  rw [hw2]
  have HB2 : Hid (Below w.heap.size w w2) := Lib.hid (by rw [← hw2]; exact bch HB1.out (balloc w1 _))
  have HC2 : Hid (w2.cell? ⟨w1.heap.size, 0, none⟩ = some (.int .i64 (q : Int)) ∧ w2.cell? ⟨w1.heap.size, 1, none⟩ = some (.int .i64 (o : Int))) := Lib.hid ⟨cell_of_row w2 w1.heap.size 0 _ _ _ (by rw [← hw2]; exact heap_alloc_last w1 _), cell_of_row w2 w1.heap.size 1 _ _ _ (by rw [← hw2]; exact heap_alloc_last w1 _)⟩
  obtain ⟨sb, hsb⟩ : ∃ g, w1.heap.size = g := ⟨_, rfl⟩
  rw [hsb] at HC2
  rw [hsb]
  clear hw2 hsb HW HB1
  go_loopw [6] (fun iv wr => ∃ i : Nat, iv = .int .i64 i ∧ q ≤ i ∧ i ≤ 16 ∧ Hid (∀ j, j < i → restS fs e j = true) ∧ Hid (Below w2.heap.size w2 wr)) (fun iv _ => 16 - (intOf iv).toNat)
  case atStart => exact ⟨q, rfl, by omega, hq16, Lib.hid (fun j hj => restS_ahead (by rw [HQ.out]; exact hj)), Lib.hid (Below.refl _ _)⟩
  case round =>
    obtain ⟨i, rfl, hqi, hi16, HR, HB⟩ := hrel
    by_cases hlt : (i : Int) < (m : Int)
    · have hin : i < n ∧ i < 16 := by have := HM.out; omega
      obtain ⟨b, off, rfl, hat⟩ := ((HH.out.keep HB2.out).keep HB.out).at_ i hin.1
      obtain ⟨l, hsl⟩ : ∃ l, secOf fs i = l := ⟨_, rfl⟩
      have hat : At wr b (off + i * 64) l := by rw [← hsl]; exact hat
      have HAT := Lib.hid hat
      have HSL : Hid (l.length = 64) := Lib.hid (by rw [← hsl]; exact secOf_length fs n i HFL.out hin.1)
      have HC3 : Hid (∀ w', Below w2.heap.size w2 w' → w'.cell? ⟨sb, 0, none⟩ = some (.int .i64 (q : Int)) ∧ w'.cell? ⟨sb, 1, none⟩ = some (.int .i64 (o : Int))) := Lib.hid fun w' h => ⟨cell_keep h HC2.out.1, cell_keep h HC2.out.2⟩
      have HWR : Hid (w2.heap.size ≤ wr.heap.size) := Lib.hid HB.out.size
      have HT64 : Hid (t ≤ 64) := Lib.hid (by omega)
      have HT0 : Hid (0 < t) := Lib.hid (by omega)
      clear hat
      rcases (by omega : ((i : Int) = (q : Int) ∧ (0 : Int) < (o : Int)) ∨ ((i : Int) = (q : Int) ∧ ¬ (0 : Int) < (o : Int)) ∨ ¬ (i : Int) = (q : Int)) with ⟨h1, h2⟩ | ⟨h1, h2⟩ | h1
      · skip
        obtain rfl : i = q := by omega
        clear h1
        obtain ⟨L, hL⟩ : ∃ L, cleared l t = L := ⟨_, rfl⟩
        have HLL : Hid (L.length = 64) := Lib.hid (by rw [← hL]; exact cleared_length _ HSL.out _ HT64.out)
        have hy : restS fs e i = decide (L = z64) := by rw [← hL, ← hsl, ← HT.out, ← HO.out]; exact restS_mid HFL.out (by omega) (by have := HQ.out; omega) (by have := HO.out; omega)
        have HLQ := Lib.hid hL
        have HE0 := fun w => empty_any L HLL.out w
        rw [← hy] at HE0
        have hno := fun z => restB_no (n := n) (fs := fs) (e := e) (i := i) (by omega) (by omega) z
        cases hz : restS fs e i with
        | true =>
          rw [hz] at HE0
          have HE := Lib.hid HE0
          have HNX : Hid (∀ j, j < i + 1 → restS fs e j = true) := Lib.hid (rest_step HR.out hz)
          clear hno HE0 hy hz hsl hL
          go_wp2_with (first
            | (refine wpl_load_at rfl _ rfl b _ rfl _ HAT.out ?_)
            | (refine wpl_store_new rfl (.tmp 7) (.tmp 22) rfl rfl wr.heap.size rfl l HSL.out rfl rfl wr (Below.refl _ _) ?_; intro w3 HK3 HB3 _; have HB3 := Lib.hid (bch HB.out HB3.out); obtain ⟨y03, y13⟩ := HC3.out _ HB3.out)
            | (refine wpl_clear_sec rfl (.tmp 35) rfl wr.heap.size t 64 l HK3.out rfl HT0.out HT64.out ?_; intro w4 v4 HK4 HG4; rw [HLQ.out] at HK4; have HB4 := Lib.hid (HB3.out.grown HG4.out HB3.out.size (fun q' hq' => by cases hq'; exact HWR.out)))
            | (refine wpl_load_sec (by rfl) (.tmp 7) rfl wr.heap.size rfl L HK4.out ?_)
            | (go_at_call 53; (with_reducible refine (HE.out _).mono ?_); rintro r w5 ⟨rfl, hb⟩; have HB5 := Lib.hid (bch HB4.out hb); clear hb))
          go_roundw
          case rel => exact ⟨i + 1, by go_num, by omega, by omega, HNX, HB5⟩
          case measure => simp [intOf]; omega
        | false =>
          rw [hz] at HE0
          have HE := Lib.hid HE0
          have HNO := Lib.hid (hno hz)
          clear hno HE0 hy hz hsl hL
          go_wp2_with (first
            | (refine wpl_load_at rfl _ rfl b _ rfl _ HAT.out ?_)
            | (refine wpl_store_new rfl (.tmp 7) (.tmp 22) rfl rfl wr.heap.size rfl l HSL.out rfl rfl wr (Below.refl _ _) ?_; intro w3 HK3 HB3 _; have HB3 := Lib.hid (bch HB.out HB3.out); obtain ⟨y03, y13⟩ := HC3.out _ HB3.out)
            | (refine wpl_clear_sec rfl (.tmp 35) rfl wr.heap.size t 64 l HK3.out rfl HT0.out HT64.out ?_; intro w4 v4 HK4 HG4; rw [HLQ.out] at HK4; have HB4 := Lib.hid (HB3.out.grown HG4.out HB3.out.size (fun q' hq' => by cases hq'; exact HWR.out)))
            | (refine wpl_load_sec (by rfl) (.tmp 7) rfl wr.heap.size rfl L HK4.out ?_)
            | (go_at_call 53; (with_reducible refine (HE.out _).mono ?_); rintro r w5 ⟨rfl, hb⟩; have HB5 := Lib.hid (bch HB4.out hb); clear hb))
          (first | go_ret2 | go_ret3 | go_ret)
          exact ⟨ret_bool HNO.out.symm, bch HB2.out HB5.out⟩
      · skip
        obtain rfl : i = q := by omega
        clear h1
        obtain ⟨L, hL⟩ : ∃ L, l = L := ⟨_, rfl⟩
        subst hL
        have HLL := HSL
        have hy : restS fs e i = decide (l = z64) := by rw [← hsl]; exact restS_behind HFL.out (by omega) (by have := HQ.out; have := HO.out; omega)
        have HE0 := fun w => empty_any l HLL.out w
        rw [← hy] at HE0
        have hno := fun z => restB_no (n := n) (fs := fs) (e := e) (i := i) (by omega) (by omega) z
        cases hz : restS fs e i with
        | true =>
          rw [hz] at HE0
          have HE := Lib.hid HE0
          have HNX : Hid (∀ j, j < i + 1 → restS fs e j = true) := Lib.hid (rest_step HR.out hz)
          clear hno HE0 hy hz hsl
          go_wp2_with (first
            | (refine wpl_load_at rfl _ rfl b _ rfl _ HAT.out ?_)
            | (refine wpl_store_new rfl (.tmp 7) (.tmp 22) rfl rfl wr.heap.size rfl l HSL.out rfl rfl wr (Below.refl _ _) ?_; intro w3 HK3 HB3 _; have HB3 := Lib.hid (bch HB.out HB3.out); obtain ⟨y03, y13⟩ := HC3.out _ HB3.out)
            | (refine wpl_load_sec (by rfl) (.tmp 7) rfl wr.heap.size rfl l HK3.out ?_)
            | (go_at_call 53; (with_reducible refine (HE.out _).mono ?_); rintro r w5 ⟨rfl, hb⟩; have HB5 := Lib.hid (bch HB3.out hb); clear hb))
          go_roundw
          case rel => exact ⟨i + 1, by go_num, by omega, by omega, HNX, HB5⟩
          case measure => simp [intOf]; omega
        | false =>
          rw [hz] at HE0
          have HE := Lib.hid HE0
          have HNO := Lib.hid (hno hz)
          clear hno HE0 hy hz hsl
          go_wp2_with (first
            | (refine wpl_load_at rfl _ rfl b _ rfl _ HAT.out ?_)
            | (refine wpl_store_new rfl (.tmp 7) (.tmp 22) rfl rfl wr.heap.size rfl l HSL.out rfl rfl wr (Below.refl _ _) ?_; intro w3 HK3 HB3 _; have HB3 := Lib.hid (bch HB.out HB3.out); obtain ⟨y03, y13⟩ := HC3.out _ HB3.out)
            | (refine wpl_load_sec (by rfl) (.tmp 7) rfl wr.heap.size rfl l HK3.out ?_)
            | (go_at_call 53; (with_reducible refine (HE.out _).mono ?_); rintro r w5 ⟨rfl, hb⟩; have HB5 := Lib.hid (bch HB3.out hb); clear hb))
          (first | go_ret2 | go_ret3 | go_ret)
          exact ⟨ret_bool HNO.out.symm, bch HB2.out HB5.out⟩
      · skip
        obtain ⟨L, hL⟩ : ∃ L, l = L := ⟨_, rfl⟩
        subst hL
        have HLL := HSL
        have hy : restS fs e i = decide (l = z64) := by rw [← hsl]; exact restS_behind HFL.out (by omega) (by have := HQ.out; have := HO.out; omega)
        have HE0 := fun w => empty_any l HLL.out w
        rw [← hy] at HE0
        have hno := fun z => restB_no (n := n) (fs := fs) (e := e) (i := i) (by omega) (by omega) z
        cases hz : restS fs e i with
        | true =>
          rw [hz] at HE0
          have HE := Lib.hid HE0
          have HNX : Hid (∀ j, j < i + 1 → restS fs e j = true) := Lib.hid (rest_step HR.out hz)
          clear hno HE0 hy hz hsl
          go_wp2_with (first
            | (refine wpl_load_at rfl _ rfl b _ rfl _ HAT.out ?_)
            | (refine wpl_store_new rfl (.tmp 7) (.tmp 22) rfl rfl wr.heap.size rfl l HSL.out rfl rfl wr (Below.refl _ _) ?_; intro w3 HK3 HB3 _; have HB3 := Lib.hid (bch HB.out HB3.out); obtain ⟨y03, y13⟩ := HC3.out _ HB3.out)
            | (refine wpl_load_sec (by rfl) (.tmp 7) rfl wr.heap.size rfl l HK3.out ?_)
            | (go_at_call 53; (with_reducible refine (HE.out _).mono ?_); rintro r w5 ⟨rfl, hb⟩; have HB5 := Lib.hid (bch HB3.out hb); clear hb))
          go_roundw
          case rel => exact ⟨i + 1, by go_num, by omega, by omega, HNX, HB5⟩
          case measure => simp [intOf]; omega
        | false =>
          rw [hz] at HE0
          have HE := Lib.hid HE0
          have HNO := Lib.hid (hno hz)
          clear hno HE0 hy hz hsl
          go_wp2_with (first
            | (refine wpl_load_at rfl _ rfl b _ rfl _ HAT.out ?_)
            | (refine wpl_store_new rfl (.tmp 7) (.tmp 22) rfl rfl wr.heap.size rfl l HSL.out rfl rfl wr (Below.refl _ _) ?_; intro w3 HK3 HB3 _; have HB3 := Lib.hid (bch HB.out HB3.out); obtain ⟨y03, y13⟩ := HC3.out _ HB3.out)
            | (refine wpl_load_sec (by rfl) (.tmp 7) rfl wr.heap.size rfl l HK3.out ?_)
            | (go_at_call 53; (with_reducible refine (HE.out _).mono ?_); rintro r w5 ⟨rfl, hb⟩; have HB5 := Lib.hid (bch HB3.out hb); clear hb))
          (first | go_ret2 | go_ret3 | go_ret)
          exact ⟨ret_bool HNO.out.symm, bch HB2.out HB5.out⟩
    · have hall : restB n fs e = true := restB_yes fun j h1 h2 => HR.out j (by have := HM.out; omega)
      have HALL := Lib.hid hall
      clear hall
      go_wp2
      go_ret
      exact ⟨ret_bool HALL.out.symm, bch HB2.out HB.out⟩
end Go.Proofs.YtepaghohojomeaaDoor
/-
  WHETHER TWO LISTS OF BYTES ARE THE SAME: Same of the reference of layer 4 (field). Bytes must lie where the slices say.
-/
namespace Go.Proofs.YtepaghohojomeaaDoor
open Go.RowKit
set_option maxRecDepth 8000 in
set_option maxHeartbeats 1000000 in
theorem same_some (b off n cap : Nat) (la : List (List Int)) (b2 off2 cap2 : Nat) (lb : List (List Int)) (w : World) (ha : RL .u8 w (.slice (some ⟨b, off, none⟩) n cap) n la) (hb : RL .u8 w (.slice (some ⟨b2, off2, none⟩) n cap2) n lb)
    (hba : ∀ l ∈ la, isB l) (hbb : ∀ l ∈ lb, isB l) (h0 : 0 < n) :
    Calls Tryd.prog 14 #[.slice (some ⟨b, off, none⟩) n cap, .slice (some ⟨b2, off2, none⟩) n cap2] w fun e w' => e = .returned (.bool (decide (la = lb))) ∧ Below w.heap.size w w' := by
  obtain ⟨b', off', hbo, hat⟩ := ha.at_ h0
  simp only [Option.some.injEq, Addr.mk.injEq, and_true] at hbo
  obtain ⟨rfl, rfl⟩ := hbo
  obtain ⟨b', off', hbo, hat2⟩ := hb.at_ h0
  simp only [Option.some.injEq, Addr.mk.injEq, and_true] at hbo
  obtain ⟨rfl, rfl⟩ := hbo
  have HA := Lib.hid hat
  have HB := Lib.hid hat2
  have HLA := Lib.hid ha.length
  have HLB := Lib.hid hb.length
  have hn : (n : Int) ≤ 9223372036854775807 := by have := ha.le; omega
  have HBA := Lib.hid hba
  have HBB := Lib.hid hbb
  clear hat hat2 ha hb hba hbb
  go_enter Tryd.func14, Tryd.ntmps14
  go_wp2
  go_loopw [5] (fun iv wr => ∃ i : Nat, iv = .int .i64 i ∧ i ≤ n ∧ Hid (la.take i = lb.take i) ∧ Hid (Below w.heap.size w wr)) (fun iv _ => n - (intOf iv).toNat)
  case atStart => exact ⟨0, rfl, by omega, Lib.hid (by simp), Lib.hid (Below.refl _ _)⟩
  case round =>
    obtain ⟨i, rfl, hi, HE, HW⟩ := hrel
    by_cases hlt : (i : Int) < (n : Int)
    · obtain ⟨x1, k1, hc1, hr1⟩ := HA.out i (by omega)
      obtain ⟨x2, k2, hc2, hr2⟩ := HB.out i (by omega)
      have HT := Lib.hid (show la.take (i + 1) = la.take i ++ [la.getD i []] from by rw [List.take_succ_eq_append_getElem (by rw [HLA.out]; omega)]; simp [List.getD, HLA.out, show i < n by omega])
      have HT2 := Lib.hid (show lb.take (i + 1) = lb.take i ++ [lb.getD i []] from by rw [List.take_succ_eq_append_getElem (by rw [HLB.out]; omega)]; simp [List.getD, HLB.out, show i < n by omega])
      have HI1 := Lib.hid (show isB (la.getD i []) from HBA.out _ (by simp [List.getD, HLA.out, show i < n by omega]))
      have HI2 := Lib.hid (show isB (lb.getD i []) from HBB.out _ (by simp [List.getD, HLB.out, show i < n by omega]))
      have HNE := Lib.hid (show ¬ la.getD i [] = lb.getD i [] → ¬ la = lb from fun h1 h2 => h1 (by rw [h2]))
      generalize la.getD i [] = l1 at hc1 hr1 HT HI1 HNE
      generalize lb.getD i [] = l2 at hc2 hr2 HT2 HI2 HNE
      have HR1 := Lib.hid (hr1.keep HW.out)
      have HR2 := Lib.hid (hr2.keep HW.out)
      have hcell1 := cell_keep HW.out hc1
      have hcell2 := cell_keep HW.out hc2
      obtain ⟨s1, hs1⟩ : ∃ s, strOfNums l1 = s := ⟨_, rfl⟩
      obtain ⟨s2, hs2⟩ : ∃ s, strOfNums l2 = s := ⟨_, rfl⟩
      have hv1 : ∀ m, (convert 43 9 (.slice x1 l1.length k1)).run Tryd.prog (wr.drewN m) = .ok (.string s1) (wr.drewN m) := fun m => by
        rw [← hs1]; exact conv_of Tryd.underlying43 Tryd.underlying5 Tryd.underlying9 (HR1.out.keep (drew_below wr m))
      have hv2 : ∀ m, (convert 43 9 (.slice x2 l2.length k2)).run Tryd.prog (wr.drewN m) = .ok (.string s2) (wr.drewN m) := fun m => by
        rw [← hs2]; exact conv_of Tryd.underlying43 Tryd.underlying5 Tryd.underlying9 (HR2.out.keep (drew_below wr m))
      have HS := Lib.hid (fun h : s1 = s2 => strOfNums_inj HI1.out HI2.out (by rw [hs1, hs2]; exact h))
      have HSN := Lib.hid (fun h : l1 = l2 => (show s1 = s2 from by rw [← hs1, ← hs2, h]))
      clear hs1 hs2
      clear hc1 hc2 hr1 hr2
      by_cases he : s1 = s2
      · subst he
        have HTT := Lib.hid (show la.take (i + 1) = lb.take (i + 1) from by rw [HT.out, HT2.out, HE.out, HS.out rfl])
        go_wp2_with fail
        go_quiet (fail)
        go_wp2
        go_roundw
        case rel => exact ⟨i + 1, by go_num, by omega, HTT, Lib.hid (HW.out.trans ((drew_below wr nq).mono HW.out.size))⟩
        case measure => simp [intOf]; omega
      · have hse := str_ne he
        have HX := Lib.hid (show ¬ la = lb from HNE.out fun h => he (HSN.out h))
        clear he
        go_wp2_with fail
        go_quiet (fail)
        go_wp2
        go_ret
        exact ⟨by show Ending.returned (Value.bool false) = _; rw [decide_eq_false HX.out], HW.out.trans ((drew_below wr nq).mono HW.out.size)⟩
    · go_wp2
      go_ret
      have h5 := HE.out
      rw [List.take_of_length_le (by rw [HLA.out]; omega), List.take_of_length_le (by rw [HLB.out]; omega)] at h5
      exact ⟨by show Ending.returned (Value.bool true) = _; rw [decide_eq_true h5], HW.out⟩
set_option maxRecDepth 8000 in
theorem same_none (a a2 : Option Addr) (cap cap2 : Nat) (w : World) :
    Calls Tryd.prog 14 #[.slice a 0 cap, .slice a2 0 cap2] w fun e w' => e = .returned (.bool true) ∧ w = w' := by
  go_enter Tryd.func14, Tryd.ntmps14
  go_wp2
  refine wp_loop_rounds 1 ?_
  rw [rounds_succ]
  go_wp2
  go_ret
  exact ⟨rfl, rfl⟩
set_option maxRecDepth 8000 in
theorem same_unlike (a a2 : Option Addr) (n m cap cap2 : Nat) (h : ¬ (n : Int) = m) (w : World) :
    Calls Tryd.prog 14 #[.slice a n cap, .slice a2 m cap2] w fun e w' => e = .returned (.bool false) ∧ w = w' := by
  go_enter Tryd.func14, Tryd.ntmps14
  go_wp2
  go_ret
  exact ⟨rfl, rfl⟩
theorem same_any (va vb : Value) (n m : Nat) (la lb : List (List Int)) (w : World) (ha : RL .u8 w va n la) (hb : RL .u8 w vb m lb) (hba : ∀ l ∈ la, isB l) (hbb : ∀ l ∈ lb, isB l) :
    Calls Tryd.prog 14 #[va, vb] w fun e w' => e = .returned (.bool (decide (la = lb))) ∧ Below w.heap.size w w' := by
  obtain ⟨a, cap, rfl, _⟩ := ha.form
  obtain ⟨a2, cap2, rfl, _⟩ := hb.form
  by_cases h : n = m
  · subst h
    by_cases h0 : 0 < n
    · obtain ⟨b, off, rfl, _⟩ := ha.at_ h0
      obtain ⟨b2, off2, rfl, _⟩ := hb.at_ h0
      exact same_some b off n cap la b2 off2 cap2 lb w ha hb hba hbb h0
    · obtain rfl : n = 0 := by omega
      obtain rfl : la = [] := List.length_eq_zero_iff.1 ha.length
      obtain rfl : lb = [] := List.length_eq_zero_iff.1 hb.length
      exact (same_none a a2 cap cap2 w).mono fun _ _ ⟨he, hw⟩ => ⟨he, by subst hw; exact Below.refl _ _⟩
  · have hne : ¬ la = lb := fun h2 => h (by rw [← ha.length, ← hb.length, h2])
    exact (same_unlike a a2 n m cap cap2 (by omega) w).mono fun _ _ ⟨he, hw⟩ => ⟨by rw [he, decide_eq_false hne], by subst hw; exact Below.refl _ _⟩
end Go.Proofs.YtepaghohojomeaaDoor
