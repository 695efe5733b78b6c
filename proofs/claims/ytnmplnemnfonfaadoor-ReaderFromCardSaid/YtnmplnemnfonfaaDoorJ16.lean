/-
  TEXTS JOINED: ScanRef, RdRef, FieldSame, ScanTells, RdFromLaw. Each one's own words stand at its head.
-/
import Derived.Test.YtnmplnemnfonfaaDoorJ15
import Derived.Test.YtnmplnemnfonfaaDoorJ9
import Derived.Test.YtnmplnemnfonfaaDoorJ14
import Derived.Test.YtnmplnemnfonfaaDoorJ11
import Derived.Test.YtnmplnemnfonfaaDoorJ6
import Derived.Test.YtnmplnemnfonfaaDoorJ2
import Derived.BigQuiet
import Derived.Deep.QuietTactic
namespace Go.Proofs.YtnmplnemnfonfaaDoor
open Go.RowKit
theorem Tryd.info_pl : (Tryd.prog.info? 3).map (fun i => (i.zero, i.size, i.bytes)) = some (some (.int .i64 0), 1, 8) := by kernel_rfl
theorem ri_pl1 (w : World) (x : Int) : RI .i64 (w.alloc (.cells #[.int .i64 x] 3)) (.slice (some ⟨w.heap.size, 0, none⟩) 1 1) 1 [x] := by
  refine ⟨_, 1, rfl, rfl, Nat.le_refl _, by omega, fun h => by simp at h, fun _ => ⟨w.heap.size, 0, rfl, fun j hj => ?_⟩⟩
  obtain rfl : j = 0 := by omega
  rw [Nat.zero_add, cell_of_row _ w.heap.size 0 _ _ _ (heap_alloc_last w _)]
  rfl
section
variable {w : World} {b : Nat} {o' : Bool} {v : Value}
theorem wpl_load_ko {ops : Array Oper} {rest : List Oper} {o : Oper} {a : Act} {Q : Exit → Act → World → Prop} (hgd : o.guard = none) (x : Operand) (ho : o.op = .load 51 x) (hx : a.eval x = .pointer (some ⟨b, 0, none⟩)) (h : KO w b o' v)
    (hk : wpList Tryd.prog ops Q rest (a.put o.dst (.agg (kA o' v))) w) : wpList Tryd.prog ops Q (o :: rest) a w :=
  wpList_load_row hgd 51 x ho b hx _ (kA o' v) (0, 0) _ h Tryd.underlying51 rfl (kj_info _ _) hk
theorem KO.alloc (w : World) : KO (w.alloc (.cells (kA o' v) 51)) w.heap.size o' v := heap_alloc_last w _
theorem KO.apart {b' : Nat} (h : KO w b o' v) (hne : b ≠ b') (x : Array Value) : KO (w.setRow b' x) b o' v := (setRow_other w b' b x hne).trans h
end
abbrev uA (rv pv : Value) (e k : Int) : Array Value := #[rv, pv, .int .i64 e, .int .i64 k]
theorem ut_info (c : Array Value) (h : c.size = 4) : (Tryd.prog.info? 31).map (·.size) = some c.size := by rw [h]; kernel_rfl
theorem ut_one (a1 a2 : Option Addr) (n1 c1 n2 c2 : Nat) (e k : Int) : (uA (.slice a1 n1 c1) (.slice a2 n2 c2) e k).all (·.oneCell') = true := by simp [uA, Value.oneCell']
theorem blk_ne_own {w : World} {g : Nat} {c : Array Value} {t t' : TypeId} (hg : w.heap[g]? = some (.cells c t (0, 0))) {base n k : Nat} {u : Value} {xs : List Value} (ho : w.ownsRow base t' k u n xs) (ht : t' ≠ t) : ∀ q, u.ownBlock = some q → q ≠ g := by
  rintro q hq rfl
  rcases ho.2 with ⟨rfl, _⟩ | ⟨q', cap, cur, rfl, _, hcur, _⟩
  · simp [Value.ownBlock] at hq
  · simp only [Value.ownBlock, Option.some.injEq] at hq
    subst hq
    rw [hg] at hcur
    simp only [Option.some.injEq, Obj.cells.injEq] at hcur
    exact ht hcur.2.1.symm
theorem blk_grown {w w' : World} {g : Nat} {c : Array Value} {t t' : TypeId} (hg : w.heap[g]? = some (.cells c t (0, 0))) {base n k : Nat} {u : Value} {xs : List Value} (ho : w.ownsRow base t' k u n xs) (ht : t' ≠ t) (h : w.grownBy w' u.ownBlock) : w'.heap[g]? = some (.cells c t (0, 0)) :=
  (h.block g (Array.getElem?_eq_some_iff.1 hg).1 (fun q => blk_ne_own hg ho ht g q.symm rfl)).trans hg
theorem blk_ne {w : World} {g g' : Nat} {c c' : Array Value} {t t' : TypeId} (hg : w.heap[g]? = some (.cells c t (0, 0))) (hg' : w.heap[g']? = some (.cells c' t' (0, 0))) (ht : t ≠ t') : g ≠ g' := by
  rintro rfl
  rw [hg] at hg'
  simp only [Option.some.injEq, Obj.cells.injEq] at hg'
  exact ht hg'.2.1
theorem grn_row (w : World) (g : Nat) (c : Array Value) : w.grownBy (w.setRow g c) (some g) := ⟨rfl, rfl, rfl, by simp, fun i _ hne => setRow_other w g i c (fun e => hne (by rw [e]))⟩
theorem grn_cell (w : World) (g j : Nat) (v : Value) : w.grownBy (w.setCell ⟨g, j, none⟩ v) (some g) := ⟨rfl, rfl, rfl, by simp, fun i _ hne => heap_setCell_other w ⟨g, j, none⟩ i v (fun e => hne (by rw [e]))⟩
structure RX (W w : World) (rb jb e : Nat) (k : Int) (o : Bool) (h : List Int) (hv rv : Value) (es : List (List Int × Value)) (pv : Value) (ps : List Int) : Prop where
  blk : w.heap[rb]? = some (.cells (uA rv pv e k) 31 (0, 0))
  low : W.heap.size ≤ rb
  jlow : W.heap.size ≤ jb
  jn : KO w jb o hv
  row : w.ownsRow W.heap.size 5 1 hv h.length (il .u8 h)
  few : h.length ≤ 512
  recs : SR W.heap.size w rv es.length es (.slice none 0 0)
  places : w.ownsRow W.heap.size 3 1 pv ps.length (il .i64 ps)
  below : Below W.heap.size W w
section
variable {W w w' : World} {rb jb e : Nat} {k : Int} {o o' : Bool} {h h' : List Int} {hv hv' rv rv' pv pv' : Value} {es es' : List (List Int × Value)} {ps ps' : List Int}
theorem RX.keep (c : RX W w rb jb e k o h hv rv es pv ps) (hb : Below w.heap.size w w') : RX W w' rb jb e k o h hv rv es pv ps :=
  ⟨(hb.block rb (Array.getElem?_eq_some_iff.1 c.blk).1).trans c.blk, c.low, c.jlow, c.jn.keep hb, own_keep c.row hb, c.few, c.recs.keep hb, own_keep c.places hb, bch c.below hb⟩
theorem RX.cells (c : RX W w rb jb e k o h hv rv es pv ps) : w.cell? ⟨rb, 0, none⟩ = some rv ∧ w.cell? ⟨rb, 1, none⟩ = some pv ∧ w.cell? ⟨rb, 2, none⟩ = some (.int .i64 e) ∧ w.cell? ⟨rb, 3, none⟩ = some (.int .i64 k) :=
  ⟨cell_of_row w rb 0 _ _ _ c.blk, cell_of_row w rb 1 _ _ _ c.blk, cell_of_row w rb 2 _ _ _ c.blk, cell_of_row w rb 3 _ _ _ c.blk⟩
theorem RX.frozen (c : RX W w rb jb e k o h hv rv es pv ps) (j : Nat) : w.frozen? ⟨rb, j, none⟩ = false := Joins.unfrozen_of_block c.blk j
theorem RX.turn (c : RX W w rb jb e k o h hv rv es pv ps) (hg : w.grownBy w' (some rb)) {e' : Nat} {k' : Int} (hs : w'.heap[rb]? = some (.cells (uA rv pv e' k') 31 (0, 0))) : RX W w' rb jb e' k' o h hv rv es pv ps := by
  have hne : ∀ {base n q : Nat} {t : TypeId} {u : Value} {xs : List Value}, w.ownsRow base t q u n xs → t ≠ 31 → w'.ownsRow base t q u n xs := fun ho ht =>
    own_over ho hg (fun q hq x => blk_ne_own c.blk ho ht q hq (Option.some.inj x))
  exact ⟨hs, c.low, c.jlow, (hg.block jb c.jn.lt (fun x => blk_ne c.jn c.blk (by decide) (Option.some.inj x))).trans c.jn, hne c.row (by decide), c.few, ⟨hne c.recs.row (by decide), fun x hx => hne (c.recs.data x hx) (by decide), c.recs.apart⟩, hne c.places (by decide),
    c.below.grown hg c.below.size (fun q hq => by cases hq; exact c.low)⟩
theorem RX.set2 (c : RX W w rb jb e k o h hv rv es pv ps) (x : Nat) : RX W (w.setCell ⟨rb, 2, none⟩ (.int .i64 (x : Int))) rb jb x k o h hv rv es pv ps := c.turn (grn_cell _ _ _ _) (Joins.block_setCell c.blk _)
theorem RX.set3 (c : RX W w rb jb e k o h hv rv es pv ps) (x : Int) : RX W (w.setCell ⟨rb, 3, none⟩ (.int .i64 x)) rb jb e x o h hv rv es pv ps := c.turn (grn_cell _ _ _ _) (Joins.block_setCell c.blk _)
theorem RX.join (c : RX W w rb jb e k o h hv rv es pv ps) (hr : w.ownsRow W.heap.size 5 1 hv' h'.length (il .u8 h')) (hf : h'.length ≤ 512) : RX W (w.setRow jb (kA o' hv')) rb jb e k o' h' hv' rv es pv ps := by
  have hg := grn_row w jb (kA o' hv')
  have hne : ∀ {base n q : Nat} {t : TypeId} {u : Value} {xs : List Value}, w.ownsRow base t q u n xs → t ≠ 51 → (w.setRow jb (kA o' hv')).ownsRow base t q u n xs := fun ho ht =>
    own_over ho hg (fun q hq x => blk_ne_own c.jn ho ht q hq (Option.some.inj x))
  exact ⟨(hg.block rb (Array.getElem?_eq_some_iff.1 c.blk).1 (fun x => blk_ne c.blk c.jn (by decide) (Option.some.inj x))).trans c.blk, c.low, c.jlow, c.jn.row o' hv', hne hr (by decide), hf, ⟨hne c.recs.row (by decide), fun x hx => hne (c.recs.data x hx) (by decide), c.recs.apart⟩, hne c.places (by decide),
    c.below.grown hg c.below.size (fun q hq => by cases hq; exact c.jlow)⟩
theorem RX.more (c : RX W w rb jb e k o h hv rv es pv ps) (hg : w.grownBy w' rv.ownBlock) (hr : SR W.heap.size w' rv' es'.length es' (.slice none 0 0)) : RX W (w'.setCell ⟨rb, 0, none⟩ rv') rb jb e k o h hv rv' es' pv ps := by
  have hs := blk_grown c.blk c.recs.row (by decide) hg
  have hj : KO w' jb o hv := blk_grown c.jn c.recs.row (by decide) hg
  have hp := c.recs.other hg c.places (by decide)
  have hr2 := c.recs.other hg c.row (by decide)
  have hb : Below W.heap.size W w' := c.below.grown hg c.below.size (fun q hq => (c.recs.row.lt q hq).1)
  have hg2 := grn_cell w' rb 0 rv'
  have hne : ∀ {base n q : Nat} {t : TypeId} {u : Value} {xs : List Value}, w'.ownsRow base t q u n xs → t ≠ 31 → (w'.setCell ⟨rb, 0, none⟩ rv').ownsRow base t q u n xs := fun ho ht =>
    own_over ho hg2 (fun q hq x => blk_ne_own hs ho ht q hq (Option.some.inj x))
  exact ⟨Joins.block_setCell hs _, c.low, c.jlow, (hg2.block jb hj.lt (fun x => blk_ne hj hs (by decide) (Option.some.inj x))).trans hj, hne hr2 (by decide), c.few, ⟨hne hr.row (by decide), fun x hx => hne (hr.data x hx) (by decide), hr.apart⟩, hne hp (by decide),
    hb.grown hg2 hb.size (fun q hq => by cases hq; exact c.low)⟩
theorem RX.more1 (c : RX W w rb jb e k o h hv rv es pv ps) (hg : w.grownBy w' pv.ownBlock) (hp : w'.ownsRow W.heap.size 3 1 pv' ps'.length (il .i64 ps')) : RX W (w'.setCell ⟨rb, 1, none⟩ pv') rb jb e k o h hv rv es pv' ps' := by
  have hs := blk_grown c.blk c.places (by decide) hg
  have hj : KO w' jb o hv := blk_grown c.jn c.places (by decide) hg
  have hne1 : ∀ {base n q : Nat} {t : TypeId} {u : Value} {xs : List Value}, w.ownsRow base t q u n xs → t ≠ 3 → w'.ownsRow base t q u n xs := fun ho ht => own_over ho hg (own_types ho c.places ht)
  have hb : Below W.heap.size W w' := c.below.grown hg c.below.size (fun q hq => (c.places.lt q hq).1)
  have hg2 := grn_cell w' rb 1 pv'
  have hne : ∀ {base n q : Nat} {t : TypeId} {u : Value} {xs : List Value}, w'.ownsRow base t q u n xs → t ≠ 31 → (w'.setCell ⟨rb, 1, none⟩ pv').ownsRow base t q u n xs := fun ho ht =>
    own_over ho hg2 (fun q hq x => blk_ne_own hs ho ht q hq (Option.some.inj x))
  exact ⟨Joins.block_setCell hs _, c.low, c.jlow, (hg2.block jb hj.lt (fun x => blk_ne hj hs (by decide) (Option.some.inj x))).trans hj, hne (hne1 c.row (by decide)) (by decide), c.few, ⟨hne (hne1 c.recs.row (by decide)) (by decide), fun x hx => hne (hne1 (c.recs.data x hx) (by decide)) (by decide), c.recs.apart⟩, hne hp (by decide),
    hb.grown hg2 hb.size (fun q hq => by cases hq; exact c.low)⟩
end
def RS (W w : World) (rb jb : Nat) (s : SS) : Prop := ∃ hv rv es pv, RX W w rb jb s.fin 0 s.o s.h hv rv es pv s.places ∧ es.map Prod.fst = s.recs
def RScanF (n : Nat) (fs : List Int) (S : SS) (w : World) (r : Ending) (w' : World) : Prop :=
  ∃ rv pv es, r = .returned (.agg (uA rv pv (S.fin : Nat) (scKind n fs S.fin))) ∧ SR w.heap.size w' rv es.length es (.slice none 0 0) ∧ es.map Prod.fst = S.recs ∧ w'.ownsRow w.heap.size 3 1 pv S.places.length (il .i64 S.places) ∧ Below w.heap.size w w'
set_option maxRecDepth 8000 in
set_option maxHeartbeats 16000000 in
theorem rscan_any (x : Int) (hx : U64 x) (v : Value) (n : Nat) (fs : List Int) (hbf : isB fs) (w : World) (h : FS w v n fs) (hn : n ≤ 1000000) :
    Calls Tryd.prog 7 #[.int .u64 x, v] w (RScanF n fs (scEnd (x % 4294967296) (flatB x n fs 16) (flatK x n fs 16)) w) := by
  obtain ⟨wa, hwa⟩ : ∃ q, w.alloc (.cells (uA (.slice none 0 0) (.slice none 0 0) 0 0) 31) = q := ⟨_, rfl⟩
  have hba : Below w.heap.size w wa := by rw [← hwa]; exact balloc w _
  have HBA := Lib.hid hba
  have HRA : Hid (wa.heap[w.heap.size]? = some (.cells (uA (.slice none 0 0) (.slice none 0 0) 0 0) 31 (0, 0))) := Lib.hid (by rw [← hwa]; exact heap_alloc_last w _)
  have HFL := Lib.hid (rflat_any x hx v n fs wa (h.keep hba))
  have hfl := h.length
  have hB : (flatB x n fs 16).length = 832 := flatB_length x n fs hfl 16
  have hBb : isB (flatB x n fs 16) := by
    have hz : ∀ k, isB (flatB x n fs k) := fun k => by
      induction k with
      | zero => exact isB.nil
      | succ k ih =>
        have hr : isB (roomAt x n fs k) := by
          unfold roomAt
          split
          · exact ((hbf.drop _).take _).drop _
          · intro y hy; have := List.eq_of_mem_replicate hy; omega
        unfold flatB
        exact ih.append hr
    exact hz 16
  have HFS := Lib.hid (h.keep hba)
  have HREA : Hid (∀ fin : Nat, fin ≤ 832 → ∀ w, FS w v n fs → Calls Tryd.prog 16 #[v, .int .i64 fin] w fun r w' => r = .returned (.bool (restB n fs fin)) ∧ Below w.heap.size w w') := Lib.hid fun fin hf w h => by
    have := rrest_any v n fs (fin : Int) (by unfold I63; omega) w h hn; rwa [nr_nat fin hf] at this
  obtain ⟨B, hBe⟩ : ∃ B, flatB x n fs 16 = B := ⟨_, rfl⟩
  obtain ⟨K, hKe⟩ : ∃ K, flatK x n fs 16 = K := ⟨_, rfl⟩
  rw [hBe, hKe] at HFL
  rw [hBe] at hB hBb
  rw [hBe, hKe]
  obtain ⟨ep, hep⟩ : ∃ e, x % 4294967296 = e := ⟨_, rfl⟩
  have HACC : Hid (∀ (bv kv : Value) (w : World) (a : Nat), RI .u8 w bv 832 B → BS w kv 16 K → (a = 832 ∨ a + 11 ≤ 832) → Calls Tryd.prog 13 #[.int .u64 x, bv, kv, .int .i64 a] w (AccF (scF ep B K a) w)) := Lib.hid fun bv kv w a h1 h2 h3 => by
    have := racc_any x hx bv kv B K w hB hBb h1 h2 a h3; rwa [hep] at this
  rw [hep]
  obtain ⟨va, vc, rfl⟩ : ∃ a c, v = .slice a n c := by obtain ⟨a, c, q, _⟩ := h; exact ⟨a, c, q⟩
  have HWA : Hid (w.heap.size < wa.heap.size) := Lib.hid (by rw [← hwa, alloc_size]; omega)
  have HBL := Lib.hid hB
  clear hx hbf h hba hfl hB hBb hep hBe hKe
  go_enter Tryd.func7, Tryd.ntmps7
  go_wp2_with (first
    | (go_at_call 12; (refine HFL.out.mono ?_); rintro r W ⟨bv, kv, rfl, hbv, hkv, hbw⟩; have HBV := Lib.hid hbv; have HKV := Lib.hid hkv; have HBW := Lib.hid hbw; clear hbv hkv hbw))
  obtain ⟨w0, hw0⟩ : ∃ q, (W.alloc (.cells (uA (.slice none 0 0) (.slice none 0 0) 0 0) 31)).alloc (.cells (kA false (.slice none 0 0)) 51) = q := ⟨_, rfl⟩
  have hz1 : (W.alloc (.cells (uA (.slice none 0 0) (.slice none 0 0) 0 0) 31)).heap.size = W.heap.size + 1 := alloc_size W _
  have HX0 : Hid (RX W w0 W.heap.size (W.heap.size + 1) 0 0 false [] (.slice none 0 0) (.slice none 0 0) [] (.slice none 0 0) []) := Lib.hid ⟨by
      rw [← hw0]; exact ((balloc (W.alloc (.cells (uA (.slice none 0 0) (.slice none 0 0) 0 0) 31)) _).block W.heap.size (by rw [hz1]; omega)).trans (heap_alloc_last W _), Nat.le_refl _, by omega, by rw [← hw0, ← hz1]; exact KO.alloc _, World.ownsRow_nil _ _ _ _, by simp, SR.nil _ _ _, World.ownsRow_nil _ _ _ _, by rw [← hw0]; exact bch (balloc W _) (balloc _ _)⟩
  rw [hw0]
  obtain ⟨rb, hrb⟩ : ∃ g, W.heap.size = g := ⟨_, rfl⟩
  have HX0' : Hid (RX W w0 rb (rb + 1) 0 0 false [] (.slice none 0 0) (.slice none 0 0) [] (.slice none 0 0) []) := Lib.hid (hrb ▸ HX0.out)
  obtain ⟨jb, hjb⟩ : ∃ g, W.heap.size + 1 = g := ⟨_, rfl⟩
  have HX00 : Hid (RX W w0 rb jb 0 0 false [] (.slice none 0 0) (.slice none 0 0) [] (.slice none 0 0) []) := Lib.hid (by rw [← hjb, hrb]; exact HX0'.out)
  rw [hjb, hrb]
  clear hw0 hz1 HX0 HX0' hrb hjb HFL
  go_loopw [9, 10] (fun av fv wr => ∃ s : SS, Hid (OnWay ep B K s) ∧ av = .int .i64 (s.at_ : Int) ∧ fv = .int .i64 (s.first : Int) ∧ Hid (RS W wr rb jb s)) (fun av _ _ => 832 - (intOf av).toNat)
  case atStart => exact ⟨sc0, Lib.hid onway_0, rfl, rfl, Lib.hid ⟨_, _, [], _, HX00.out, rfl⟩⟩
  case round =>
    obtain ⟨⟨at0, first, o, h, recs, places, fin⟩, HO, rfl, rfl, HRS⟩ := hrel
    dsimp only at *
    obtain ⟨hv, rv, es, pv, hc, hes0⟩ := HRS.out
    dsimp only at hc hes0
    have hs := HO.out.1
    have ha0 : at0 ≤ 832 := hs.at_
    have hroom : 11 * recs.length ≤ at0 := hs.room
    have hfew : recs.length = places.length := hs.few
    have hesl : es.length = recs.length := by rw [← hes0, List.length_map]
    have hes : es.length ≤ 1000 := by omega
    have hpl : places.length ≤ 1000 := by omega
    have HFIN : Hid (fin ≤ 832) := Lib.hid hs.fin
    obtain ⟨ra, rc, rfl⟩ := own_form hc.recs.row
    obtain ⟨pa, pc, rfl⟩ := own_form hc.places
    obtain ⟨ha, hcc, rfl⟩ := own_form hc.row
    have HX := Lib.hid hc
    have HES := Lib.hid hes0
    have HNXF : ∀ f m, scF ep B K (beginN at0) = (f, m) → (m = 0 ∨ jErr o h f.kind f.data ≠ 0) → scNext ep B K ⟨at0, first, o, h, recs, places, fin⟩ = none := fun f m e q => scNext_none (by dsimp only; rw [e]; exact q)
    have HNXT : ∀ f m, scF ep B K (beginN at0) = (f, m) → m ≠ 0 → jErr o h f.kind f.data = 0 → scNext ep B K ⟨at0, first, o, h, recs, places, fin⟩ = some (scStep ⟨at0, first, o, h, recs, places, fin⟩ f m) := fun f m e q1 q2 => by
      have := scNext_some (ep := ep) (B := B) (K := K) (s := ⟨at0, first, o, h, recs, places, fin⟩) (by dsimp only; rw [e]; exact q1) (by dsimp only; rw [e]; exact q2)
      dsimp only at this
      rw [e] at this
      exact this
    have HSE : ∀ f m, jEnds o h f.kind f.data = true → scStep ⟨at0, first, o, h, recs, places, fin⟩ f m = ⟨beginN at0 + m, if o = true then first else beginN at0, jGoes o h f.kind f.data, jHad o h f.kind f.data, recs ++ [jTell o h f.kind f.data], places ++ [(((if o = true then first else beginN at0) : Nat) : Int)], beginN at0 + m⟩ := fun f m q => by unfold scStep scFirst; dsimp only; rw [q]; rfl
    have HSG : ∀ f m, jEnds o h f.kind f.data = false → scStep ⟨at0, first, o, h, recs, places, fin⟩ f m = ⟨beginN at0 + m, if o = true then first else beginN at0, jGoes o h f.kind f.data, jHad o h f.kind f.data, recs, places, fin⟩ := fun f m q => by unfold scStep scFirst; dsimp only; rw [q]; rfl
    have hble := begin_le at0 ha0
    have hb11 : beginN at0 = 832 ∨ beginN at0 + 11 ≤ 832 := by
      rcases begin_room at0 ha0 with q | ⟨q, _⟩
      · exact .inl q
      · have := left_le (beginN at0) hble; exact .inr (by omega)
    have hbge : at0 ≤ beginN at0 := by unfold beginN; split <;> omega
    have HBG : Hid (∀ w, Calls Tryd.prog 15 #[.int .i64 at0] w fun e w' => e = .returned (.int .i64 (beginN at0 : Int)) ∧ w = w') := Lib.hid fun w => by
      have := rbegin_any (at0 : Int) (by unfold I63; omega) w
      rw [nr_nat at0 ha0] at this
      exact this.mono fun r w' ⟨h1, h2⟩ => ⟨h1, h2.symm⟩
    obtain ⟨a, hab⟩ : ∃ a, beginN at0 = a := ⟨_, rfl⟩
    rw [hab] at hble HBG HNXF HNXT HSE HSG hb11 hbge
    obtain ⟨⟨⟨k, e, d⟩, m⟩, hF⟩ : ∃ F, scF ep B K a = F := ⟨_, rfl⟩
    have HAC : Hid (∀ w', Below wr.heap.size wr w' → Calls Tryd.prog 13 #[.int .u64 x, bv, kv, .int .i64 a] w' fun r w'' => ∃ p c, r = .returned (.tuple #[.agg (fA k e (.slice p d.length c)), .int .i64 (m : Int)]) ∧ w''.ownsRow w'.heap.size 5 1 (.slice p d.length c) d.length (il .u8 d) ∧ Below w'.heap.size w' w'') := Lib.hid fun w' hb => by
      have := HACC.out bv kv w' a (HBV.out.keep (bch hc.below hb)) (HKV.out.kin (Kin.below (bch hc.below hb))) hb11
      rw [hF] at this
      exact this
    have hsz : ∀ hm : m ≠ 0, a + m ≤ 832 ∧ d.length ≤ 197 ∧ 11 ≤ m := fun hm => by
      obtain ⟨_, _, h3, _, h5⟩ := scF_some (ep := ep) (B := B) (K := K) (a := a) (by rw [hF]; exact hm)
      have hp := scD_parts HBL.out hble h3
      rw [hF] at h5
      simp only [Prod.mk.injEq] at h5
      rw [← h5.1, ← h5.2] at hp
      exact ⟨hp.2.2.1, hp.2.2.2.2, hp.1⟩
    by_cases hm : m = 0
    · have HSTP := Lib.hid (HO.out.stop (HNXF _ _ hF (.inl hm)))
      subst hm
      clear HNXF HNXT HSE HSG hF hsz hc hes0 hs hroom hfew hesl hab hble hb11 HRS HO hbge HX00
      have HRE0 := HREA.out fin HFIN.out
      obtain ⟨y, hy⟩ : ∃ y, restB n fs fin = y := ⟨_, rfl⟩
      rw [hy] at HRE0
      have HRE := Lib.hid HRE0
      have HKD : Hid (scKind n fs fin = if y = true then 1 else 2) := Lib.hid (by unfold scKind; rw [hy])
      clear HRE0 hy
      cases y with
      | true =>
        go_wp2_with (first
          | (go_at_call 15; (with_reducible refine (HBG.out _).mono ?_); rintro r w1 ⟨rfl, rfl⟩)
          | (go_at_call 13; (refine (HAC.out _ (Below.refl _ _)).mono ?_); rintro r w2 ⟨p2, c2, rfl, ho2, hb2⟩; have HX2 := Lib.hid (HX.out.keep hb2); clear ho2 hb2)
          | (refine wpl_put_fr rfl (.tmp 11) (.tmp 33) rfl w2.heap.size (FO.alloc w2) k e p2 d.length c2 rfl rfl ?_; intro w3 HF3 HG3; have hb3 : Below w2.heap.size w2 w3 := below_over (balloc w2 _) HG3.out (Nat.le_refl _) (balloc w2 _).size; have HX3 := Lib.hid (HX2.out.keep hb3); clear hb3 HX2; obtain ⟨_, _, z2, z3⟩ := HX3.out.cells; have f3 := HX3.out.frozen 3; obtain ⟨w4, hw4⟩ : ∃ q, w3.setCell ⟨rb, 3, none⟩ (.int .i64 2) = q := ⟨_, rfl⟩; have HX4 := Lib.hid (show RX _ w4 _ _ _ _ _ _ _ _ _ _ _ from by rw [← hw4]; exact HX3.out.set3 2); have y2 := HX4.out.cells.2.2.1; clear HX3)
          | (go_at_call 16; (refine (HRE.out _ (HFS.out.keep (bch HBW.out HX4.out.below))).mono ?_); rintro r w16 ⟨rfl, hb⟩; have HX16 := Lib.hid (HX4.out.keep hb); have z316 := HX16.out.cells.2.2.2; have f316 := HX16.out.frozen 3; clear hb; obtain ⟨w18, hw18⟩ : ∃ q, w16.setCell ⟨rb, 3, none⟩ (.int .i64 1) = q := ⟨_, rfl⟩; have HX18 := Lib.hid (show RX _ w18 _ _ _ _ _ _ _ _ _ _ _ from by rw [← hw18]; exact HX16.out.set3 1))
          | (refine wpList_load_row rfl 31 (.tmp 7) rfl rb rfl _ (uA (.slice ra es.length rc) (.slice pa places.length pc) fin 1) (0, 0) _ HX18.out.blk Tryd.underlying31 rfl (ut_info _ rfl) ?_)
          | (refine wpList_store_row rfl 31 _ _ rfl w.heap.size (uA (.slice ra es.length rc) (.slice pa places.length pc) fin 1) rfl rfl _ _ (((bch HBW.out HX18.out.below).block _ HWA.out).trans HRA.out) (ut_info _ rfl) rfl (ut_one _ _ _ _ _ _ _ _) ?_))
        refine bodyPost_ret_by (v := .agg (uA (.slice ra es.length rc) (.slice pa places.length pc) fin 1)) (results_cell_row rfl _ _ w.heap.size _ (uA (.slice ra es.length rc) (.slice pa places.length pc) fin 1) (0, 0) _ rfl (setRow_heap _ _ _ _ _ _ (((bch HBW.out HX18.out.below).block _ HWA.out).trans HRA.out)) Tryd.underlying31 rfl (ut_info _ rfl)) rfl ?_
        have hz : w.heap.size ≤ W.heap.size := Nat.le_trans (Nat.le_of_lt HWA.out) HBW.out.size
        have hne : ∀ {base n q : Nat} {t : TypeId} {u : Value} {xs : List Value}, W.heap.size ≤ base → w18.ownsRow base t q u n xs → (w18.setRow w.heap.size (uA (.slice ra es.length rc) (.slice pa places.length pc) fin 1)).ownsRow base t q u n xs := fun hbs ho =>
          own_over ho (grn_row w18 w.heap.size _) (fun g hg x => by have h1 := (ho.lt g hg).1; have h2 := HBW.out.size; have h3 := HWA.out; have h4 := Option.some.inj x; omega)
        have HSTQ := HSTP.out
        rw [← HSTQ]
        exact ⟨_, _, es, by show _ = Ending.returned (.agg (uA _ _ (fin : Nat) (scKind n fs fin))); rw [HKD.out]; rfl, ⟨own_mono (hne (Nat.le_refl _) HX18.out.recs.row) hz, fun x hx => own_mono (hne (Nat.le_refl _) (HX18.out.recs.data x hx)) hz, HX18.out.recs.apart⟩, HES.out, own_mono (hne (Nat.le_refl _) HX18.out.places) hz, brow (bch HBA.out (bch HBW.out HX18.out.below)) (Nat.le_refl _) (Nat.le_refl _) _⟩
      | false =>
        go_wp2_with (first
          | (go_at_call 15; (with_reducible refine (HBG.out _).mono ?_); rintro r w1 ⟨rfl, rfl⟩)
          | (go_at_call 13; (refine (HAC.out _ (Below.refl _ _)).mono ?_); rintro r w2 ⟨p2, c2, rfl, ho2, hb2⟩; have HX2 := Lib.hid (HX.out.keep hb2); clear ho2 hb2)
          | (refine wpl_put_fr rfl (.tmp 11) (.tmp 33) rfl w2.heap.size (FO.alloc w2) k e p2 d.length c2 rfl rfl ?_; intro w3 HF3 HG3; have hb3 : Below w2.heap.size w2 w3 := below_over (balloc w2 _) HG3.out (Nat.le_refl _) (balloc w2 _).size; have HX3 := Lib.hid (HX2.out.keep hb3); clear hb3 HX2; obtain ⟨_, _, z2, z3⟩ := HX3.out.cells; have f3 := HX3.out.frozen 3; obtain ⟨w4, hw4⟩ : ∃ q, w3.setCell ⟨rb, 3, none⟩ (.int .i64 2) = q := ⟨_, rfl⟩; have HX4 := Lib.hid (show RX _ w4 _ _ _ _ _ _ _ _ _ _ _ from by rw [← hw4]; exact HX3.out.set3 2); have y2 := HX4.out.cells.2.2.1; clear HX3)
          | (go_at_call 16; (refine (HRE.out _ (HFS.out.keep (bch HBW.out HX4.out.below))).mono ?_); rintro r w16 ⟨rfl, hb⟩; have HX16 := Lib.hid (HX4.out.keep hb); have z316 := HX16.out.cells.2.2.2; have f316 := HX16.out.frozen 3; clear hb; have HX18 := HX16)
          | (refine wpList_load_row rfl 31 (.tmp 7) rfl rb rfl _ (uA (.slice ra es.length rc) (.slice pa places.length pc) fin 2) (0, 0) _ HX18.out.blk Tryd.underlying31 rfl (ut_info _ rfl) ?_)
          | (refine wpList_store_row rfl 31 _ _ rfl w.heap.size (uA (.slice ra es.length rc) (.slice pa places.length pc) fin 2) rfl rfl _ _ (((bch HBW.out HX18.out.below).block _ HWA.out).trans HRA.out) (ut_info _ rfl) rfl (ut_one _ _ _ _ _ _ _ _) ?_))
        refine bodyPost_ret_by (v := .agg (uA (.slice ra es.length rc) (.slice pa places.length pc) fin 2)) (results_cell_row rfl _ _ w.heap.size _ (uA (.slice ra es.length rc) (.slice pa places.length pc) fin 2) (0, 0) _ rfl (setRow_heap _ _ _ _ _ _ (((bch HBW.out HX18.out.below).block _ HWA.out).trans HRA.out)) Tryd.underlying31 rfl (ut_info _ rfl)) rfl ?_
        have hz : w.heap.size ≤ W.heap.size := Nat.le_trans (Nat.le_of_lt HWA.out) HBW.out.size
        have hne : ∀ {base n q : Nat} {t : TypeId} {u : Value} {xs : List Value}, W.heap.size ≤ base → w16.ownsRow base t q u n xs → (w16.setRow w.heap.size (uA (.slice ra es.length rc) (.slice pa places.length pc) fin 2)).ownsRow base t q u n xs := fun hbs ho =>
          own_over ho (grn_row w16 w.heap.size _) (fun g hg x => by have h1 := (ho.lt g hg).1; have h2 := HBW.out.size; have h3 := HWA.out; have h4 := Option.some.inj x; omega)
        have HSTQ := HSTP.out
        rw [← HSTQ]
        exact ⟨_, _, es, by show _ = Ending.returned (.agg (uA _ _ (fin : Nat) (scKind n fs fin))); rw [HKD.out]; rfl, ⟨own_mono (hne (Nat.le_refl _) HX18.out.recs.row) hz, fun x hx => own_mono (hne (Nat.le_refl _) (HX18.out.recs.data x hx)) hz, HX18.out.recs.apart⟩, HES.out, own_mono (hne (Nat.le_refl _) HX18.out.places) hz, brow (bch HBA.out (bch HBW.out HX18.out.below)) (Nat.le_refl _) (Nat.le_refl _) _⟩
    · obtain ⟨ham, hdl, hm11⟩ := hsz hm
      have hmi : ¬ (m : Int) = 0 := by omega
      have HNXT := HNXT _ _ hF hm
      have HNXF := HNXF _ _ hF
      have HSE := HSE ⟨k, e, d⟩ m
      have HSG := HSG ⟨k, e, d⟩ m
      dsimp only at HNXT HNXF HSE HSG
      obtain ⟨t, ht⟩ : ∃ t, a + m = t := ⟨_, rfl⟩
      rw [ht] at HSE HSG ham
      have htI : (a : Int) + (m : Int) = (t : Int) := by omega
      have htb : (t : Int) ≤ 832 := by omega
      have hup : at0 < t := by omega
      have HFD : ∀ (w : World) (hv : Value) (x : Option Addr) (c : Nat), w.ownsRow W.heap.size 5 1 hv h.length (il .u8 h) → RI .u8 w (.slice x d.length c) d.length d → Calls Tryd.prog 14 #[.agg (kA o hv), .agg (fA k e (.slice x d.length c))] w fun r w' =>
          ∃ u v', r = .returned (.tuple #[.agg (kA (jGoes o h k d) v'), u, .bool (jEnds o h k d), .int .i64 (jErr o h k d)]) ∧ w'.ownsRow w.heap.size 5 1 v' (jHad o h k d).length (il .u8 (jHad o h k d)) ∧ w'.ownsRow w.heap.size 5 1 u (jTell o h k d).length (il .u8 (jTell o h k d)) ∧ Below w.heap.size w w' := fun w hv x c h1 h2 =>
        rfeed_any o hv h k e (.slice x d.length c) d.length d w (RI.own h1) hs.h h2 (by omega)
      have H6 := Lib.hid (jHad_le (o := o) (h := h) (k := k) (d := d))
      by_cases her : jErr o h k d = 0
      · have HNX1 := HNXT her
        rw [her] at HFD
        cases hen : jEnds o h k d with
        | true =>
          rw [HSE hen] at HNX1
          rw [hen] at HFD
          have HFD := Lib.hid HFD
          have HNX1 := HO.out.next HBL.out HNX1
          clear HNXF HNXT HSE HSG hF hsz hm hc hes0 hs hroom hfew hesl hab hble hb11 HRS HO her hen ht ham hbge HX00
          generalize jGoes o h k d = g6 at *
          generalize jHad o h k d = h6 at *
          generalize jTell o h k d = t6 at *
          cases o with
          | true =>
            rw [if_pos rfl] at HNX1
            have HNX := Lib.hid HNX1
            clear HNX1
            go_wp2_with (first
              | (go_at_call 15; (with_reducible refine (HBG.out _).mono ?_); rintro r w1 ⟨rfl, rfl⟩)
              | (go_at_call 13; (refine (HAC.out _ (Below.refl _ _)).mono ?_); rintro r w2 ⟨p2, c2, rfl, ho2, hb2⟩; have HX2 := Lib.hid (HX.out.keep hb2); have HO2 := Lib.hid ho2; clear ho2 hb2)
              | (refine wpl_put_fr rfl (.tmp 11) (.tmp 33) rfl w2.heap.size (FO.alloc w2) k e p2 d.length c2 rfl rfl ?_; intro w3 HF3 HG3; have hb3 : Below w2.heap.size w2 w3 := below_over (balloc w2 _) HG3.out (Nat.le_refl _) (balloc w2 _).size; have HX3 := Lib.hid (HX2.out.keep hb3); have HO3 := Lib.hid (own_keep HO2.out hb3); clear hb3 HX2 HO2; have j0 := HX3.out.jn.cells.1)
              | (refine wpl_load_ko rfl (.tmp 8) rfl rfl HX3.out.jn ?_)
              | (refine wpl_load_fr (by rfl) (.tmp 11) rfl rfl HF3.out ?_)
              | (go_at_call 14; (refine (HFD.out _ _ p2 c2 HX3.out.row (RI.own HO3.out)).mono ?_); rintro r w6 ⟨u, v6, rfl, oh6, ou6, hb6⟩; obtain ⟨ua, uc, rfl⟩ := own_form ou6; obtain ⟨qa, qc, rfl⟩ := own_form oh6; have HOH := Lib.hid (own_mono oh6 HX3.out.below.size); have HOU := Lib.hid (own_mono ou6 HX3.out.below.size); have HX6 := Lib.hid (HX3.out.keep hb6); clear oh6 ou6 hb6 HX3)
              | (refine wpList_store_row rfl 51 _ _ rfl w6.heap.size (kA g6 (.slice qa h6.length qc)) rfl rfl _ _ (heap_alloc_last w6 _) (kj_info _ _) rfl (kj_one _ _ _ _) ?_; obtain ⟨w7, hw7⟩ : ∃ q, World.setRow (w6.alloc (.cells (kA false (.slice none 0 0)) 51)) w6.heap.size (kA g6 (.slice qa h6.length qc)) = q := ⟨_, rfl⟩; rw [hw7]; have HK7 : Hid (KO w7 w6.heap.size g6 (.slice qa h6.length qc)) := Lib.hid (hw7 ▸ setRow_heap _ _ _ _ _ _ (heap_alloc_last w6 _)); have hb7 : Below w6.heap.size w6 w7 := hw7 ▸ bnew _ _ _; have HX7 := Lib.hid (HX6.out.keep hb7); have HOH7 := Lib.hid (own_keep HOH.out hb7); have HOU7 := Lib.hid (own_keep HOU.out hb7); clear hw7 hb7 HX6 HOH HOU)
              | (refine wpl_load_ko rfl (.tmp 13) rfl rfl HK7.out ?_)
              | (refine wpList_store_row rfl 51 _ _ rfl jb (kA g6 (.slice qa h6.length qc)) rfl rfl _ _ HX7.out.jn (kj_info _ _) rfl (kj_one _ _ _ _) ?_; obtain ⟨w8, hw8⟩ : ∃ q, World.setRow w7 jb (kA g6 (.slice qa h6.length qc)) = q := ⟨_, rfl⟩; rw [hw8]; have HX8 := Lib.hid (show RX W w8 rb jb fin 0 g6 h6 (.slice qa h6.length qc) (.slice ra es.length rc) es (.slice pa places.length pc) places from hw8 ▸ HX7.out.join HOH7.out H6.out); have HOU8 := Lib.hid (show w8.ownsRow W.heap.size 5 1 (.slice ua t6.length uc) t6.length (il .u8 t6) from hw8 ▸ own_over HOU7.out (grn_row w7 jb _) (fun q hq x => blk_ne_own HX7.out.jn HOU7.out (by decide) q hq (Option.some.inj x))); clear hw8 HX7 HOH7 HOU7; have q0 := HX8.out.cells.1)
              | (at_builtin; refine wpl_app_sr rfl (.tmp 57) (.tmp 59) rfl rfl (HX8.out.recs.keep (balloc w8 _)) w8.heap.size (t6, .slice ua t6.length uc) rfl (heap_alloc_last w8 _) (own_keep HOU8.out (balloc w8 _)) (fun g _ => by simp [Value.ownBlock]) (by omega) (bch HX8.out.below (balloc w8 _)).size ?_; intro v10 w10 HR10 HG10; obtain ⟨a10, c10, rfl⟩ := own_form HR10.out.row; have HXA := HX8.out.keep (balloc w8 (.cells #[.slice ua t6.length uc] 25)); have hs10 := blk_grown HXA.blk HXA.recs.row (by decide) HG10.out; have z0 := cell_of_row w10 rb 0 _ _ _ hs10; have f0 : w10.frozen? ⟨rb, 0, none⟩ = false := Joins.unfrozen_of_block hs10 0; obtain ⟨w11, hw11⟩ : ∃ q, w10.setCell ⟨rb, 0, none⟩ (.slice a10 (es.length + 1) c10) = q := ⟨_, rfl⟩; have HX11 := Lib.hid (show RX W w11 rb jb fin 0 g6 h6 (.slice qa h6.length qc) (.slice a10 (es.length + 1) c10) (es ++ [(t6, .slice ua t6.length uc)]) (.slice pa places.length pc) places from hw11 ▸ HXA.more (es' := es ++ [(t6, .slice ua t6.length uc)]) HG10.out (by rw [List.length_append]; exact HR10.out)); have q1 := HX11.out.cells.2.1; clear HXA hs10 HX8 HOU8 HR10 HG10)
              | (at_builtin; refine wpl_appw rfl (.tmp 63) (.tmp 65) 29 rfl 3 .i64 8 Tryd.underlying29 Tryd.info_pl W.heap.size (.slice pa places.length pc) places.length places rfl (own_keep HX11.out.places (balloc w11 _)) _ 1 [(first : Int)] rfl (ri_pl1 w11 (first : Int)) (by omega) (by omega) (bch HX11.out.below (balloc w11 _)).size ?_; intro v12 w12 HR12 HG12 _; obtain ⟨a12, c12, rfl⟩ := own_form HR12.out; have HXB := HX11.out.keep (balloc w11 (.cells #[.int .i64 (first : Int)] 3)); have hs12 := blk_grown HXB.blk HXB.places (by decide) HG12.out; have q12 := cell_of_row w12 rb 1 _ _ _ hs12; have f1 : w12.frozen? ⟨rb, 1, none⟩ = false := Joins.unfrozen_of_block hs12 1; obtain ⟨w13, hw13⟩ : ∃ q, w12.setCell ⟨rb, 1, none⟩ (.slice a12 (places.length + 1) c12) = q := ⟨_, rfl⟩; have HX13 := Lib.hid (show RX W w13 rb jb fin 0 g6 h6 (.slice qa h6.length qc) (.slice a10 (es.length + 1) c10) (es ++ [(t6, .slice ua t6.length uc)]) (.slice a12 (places.length + 1) c12) (places ++ [(first : Int)]) from hw13 ▸ HXB.more1 (ps' := places ++ [(first : Int)]) HG12.out (by rw [List.length_append]; exact HR12.out)); have q2 := HX13.out.cells.2.2.1; have f2 := HX13.out.frozen 2; obtain ⟨w14, hw14⟩ : ∃ q, w13.setCell ⟨rb, 2, none⟩ (.int .i64 (t : Int)) = q := ⟨_, rfl⟩; have HX14 := Lib.hid (show RX W w14 rb jb t 0 g6 h6 (.slice qa h6.length qc) (.slice a10 (es.length + 1) c10) (es ++ [(t6, .slice ua t6.length uc)]) (.slice a12 (places.length + 1) c12) (places ++ [(first : Int)]) from hw14 ▸ HX13.out.set2 t); clear HXB hs12 HX11 HX13 HR12 HG12))
            go_roundw
            case rel => exact ⟨_, Lib.hid HNX.out, rfl, rfl, Lib.hid ⟨_, _, es ++ [(t6, .slice ua t6.length uc)], _, HX14.out, by rw [List.map_append, HES.out]; rfl⟩⟩
            case measure => simp [intOf]; omega
          | false =>
            rw [if_neg (by decide)] at HNX1
            have HNX := Lib.hid HNX1
            clear HNX1
            go_wp2_with (first
              | (go_at_call 15; (with_reducible refine (HBG.out _).mono ?_); rintro r w1 ⟨rfl, rfl⟩)
              | (go_at_call 13; (refine (HAC.out _ (Below.refl _ _)).mono ?_); rintro r w2 ⟨p2, c2, rfl, ho2, hb2⟩; have HX2 := Lib.hid (HX.out.keep hb2); have HO2 := Lib.hid ho2; clear ho2 hb2)
              | (refine wpl_put_fr rfl (.tmp 11) (.tmp 33) rfl w2.heap.size (FO.alloc w2) k e p2 d.length c2 rfl rfl ?_; intro w3 HF3 HG3; have hb3 : Below w2.heap.size w2 w3 := below_over (balloc w2 _) HG3.out (Nat.le_refl _) (balloc w2 _).size; have HX3 := Lib.hid (HX2.out.keep hb3); have HO3 := Lib.hid (own_keep HO2.out hb3); clear hb3 HX2 HO2; have j0 := HX3.out.jn.cells.1)
              | (refine wpl_load_ko rfl (.tmp 8) rfl rfl HX3.out.jn ?_)
              | (refine wpl_load_fr (by rfl) (.tmp 11) rfl rfl HF3.out ?_)
              | (go_at_call 14; (refine (HFD.out _ _ p2 c2 HX3.out.row (RI.own HO3.out)).mono ?_); rintro r w6 ⟨u, v6, rfl, oh6, ou6, hb6⟩; obtain ⟨ua, uc, rfl⟩ := own_form ou6; obtain ⟨qa, qc, rfl⟩ := own_form oh6; have HOH := Lib.hid (own_mono oh6 HX3.out.below.size); have HOU := Lib.hid (own_mono ou6 HX3.out.below.size); have HX6 := Lib.hid (HX3.out.keep hb6); clear oh6 ou6 hb6 HX3)
              | (refine wpList_store_row rfl 51 _ _ rfl w6.heap.size (kA g6 (.slice qa h6.length qc)) rfl rfl _ _ (heap_alloc_last w6 _) (kj_info _ _) rfl (kj_one _ _ _ _) ?_; obtain ⟨w7, hw7⟩ : ∃ q, World.setRow (w6.alloc (.cells (kA false (.slice none 0 0)) 51)) w6.heap.size (kA g6 (.slice qa h6.length qc)) = q := ⟨_, rfl⟩; rw [hw7]; have HK7 : Hid (KO w7 w6.heap.size g6 (.slice qa h6.length qc)) := Lib.hid (hw7 ▸ setRow_heap _ _ _ _ _ _ (heap_alloc_last w6 _)); have hb7 : Below w6.heap.size w6 w7 := hw7 ▸ bnew _ _ _; have HX7 := Lib.hid (HX6.out.keep hb7); have HOH7 := Lib.hid (own_keep HOH.out hb7); have HOU7 := Lib.hid (own_keep HOU.out hb7); clear hw7 hb7 HX6 HOH HOU)
              | (refine wpl_load_ko rfl (.tmp 13) rfl rfl HK7.out ?_)
              | (refine wpList_store_row rfl 51 _ _ rfl jb (kA g6 (.slice qa h6.length qc)) rfl rfl _ _ HX7.out.jn (kj_info _ _) rfl (kj_one _ _ _ _) ?_; obtain ⟨w8, hw8⟩ : ∃ q, World.setRow w7 jb (kA g6 (.slice qa h6.length qc)) = q := ⟨_, rfl⟩; rw [hw8]; have HX8 := Lib.hid (show RX W w8 rb jb fin 0 g6 h6 (.slice qa h6.length qc) (.slice ra es.length rc) es (.slice pa places.length pc) places from hw8 ▸ HX7.out.join HOH7.out H6.out); have HOU8 := Lib.hid (show w8.ownsRow W.heap.size 5 1 (.slice ua t6.length uc) t6.length (il .u8 t6) from hw8 ▸ own_over HOU7.out (grn_row w7 jb _) (fun q hq x => blk_ne_own HX7.out.jn HOU7.out (by decide) q hq (Option.some.inj x))); clear hw8 HX7 HOH7 HOU7; have q0 := HX8.out.cells.1)
              | (at_builtin; refine wpl_app_sr rfl (.tmp 57) (.tmp 59) rfl rfl (HX8.out.recs.keep (balloc w8 _)) w8.heap.size (t6, .slice ua t6.length uc) rfl (heap_alloc_last w8 _) (own_keep HOU8.out (balloc w8 _)) (fun g _ => by simp [Value.ownBlock]) (by omega) (bch HX8.out.below (balloc w8 _)).size ?_; intro v10 w10 HR10 HG10; obtain ⟨a10, c10, rfl⟩ := own_form HR10.out.row; have HXA := HX8.out.keep (balloc w8 (.cells #[.slice ua t6.length uc] 25)); have hs10 := blk_grown HXA.blk HXA.recs.row (by decide) HG10.out; have z0 := cell_of_row w10 rb 0 _ _ _ hs10; have f0 : w10.frozen? ⟨rb, 0, none⟩ = false := Joins.unfrozen_of_block hs10 0; obtain ⟨w11, hw11⟩ : ∃ q, w10.setCell ⟨rb, 0, none⟩ (.slice a10 (es.length + 1) c10) = q := ⟨_, rfl⟩; have HX11 := Lib.hid (show RX W w11 rb jb fin 0 g6 h6 (.slice qa h6.length qc) (.slice a10 (es.length + 1) c10) (es ++ [(t6, .slice ua t6.length uc)]) (.slice pa places.length pc) places from hw11 ▸ HXA.more (es' := es ++ [(t6, .slice ua t6.length uc)]) HG10.out (by rw [List.length_append]; exact HR10.out)); have q1 := HX11.out.cells.2.1; clear HXA hs10 HX8 HOU8 HR10 HG10)
              | (at_builtin; refine wpl_appw rfl (.tmp 63) (.tmp 65) 29 rfl 3 .i64 8 Tryd.underlying29 Tryd.info_pl W.heap.size (.slice pa places.length pc) places.length places rfl (own_keep HX11.out.places (balloc w11 _)) _ 1 [(a : Int)] rfl (ri_pl1 w11 (a : Int)) (by omega) (by omega) (bch HX11.out.below (balloc w11 _)).size ?_; intro v12 w12 HR12 HG12 _; obtain ⟨a12, c12, rfl⟩ := own_form HR12.out; have HXB := HX11.out.keep (balloc w11 (.cells #[.int .i64 (a : Int)] 3)); have hs12 := blk_grown HXB.blk HXB.places (by decide) HG12.out; have q12 := cell_of_row w12 rb 1 _ _ _ hs12; have f1 : w12.frozen? ⟨rb, 1, none⟩ = false := Joins.unfrozen_of_block hs12 1; obtain ⟨w13, hw13⟩ : ∃ q, w12.setCell ⟨rb, 1, none⟩ (.slice a12 (places.length + 1) c12) = q := ⟨_, rfl⟩; have HX13 := Lib.hid (show RX W w13 rb jb fin 0 g6 h6 (.slice qa h6.length qc) (.slice a10 (es.length + 1) c10) (es ++ [(t6, .slice ua t6.length uc)]) (.slice a12 (places.length + 1) c12) (places ++ [(a : Int)]) from hw13 ▸ HXB.more1 (ps' := places ++ [(a : Int)]) HG12.out (by rw [List.length_append]; exact HR12.out)); have q2 := HX13.out.cells.2.2.1; have f2 := HX13.out.frozen 2; obtain ⟨w14, hw14⟩ : ∃ q, w13.setCell ⟨rb, 2, none⟩ (.int .i64 (t : Int)) = q := ⟨_, rfl⟩; have HX14 := Lib.hid (show RX W w14 rb jb t 0 g6 h6 (.slice qa h6.length qc) (.slice a10 (es.length + 1) c10) (es ++ [(t6, .slice ua t6.length uc)]) (.slice a12 (places.length + 1) c12) (places ++ [(a : Int)]) from hw14 ▸ HX13.out.set2 t); clear HXB hs12 HX11 HX13 HR12 HG12))
            go_roundw
            case rel => exact ⟨_, Lib.hid HNX.out, rfl, rfl, Lib.hid ⟨_, _, es ++ [(t6, .slice ua t6.length uc)], _, HX14.out, by rw [List.map_append, HES.out]; rfl⟩⟩
            case measure => simp [intOf]; omega
        | false =>
          rw [HSG hen] at HNX1
          rw [hen] at HFD
          have HFD := Lib.hid HFD
          have HNX1 := HO.out.next HBL.out HNX1
          clear HNXF HNXT HSE HSG hF hsz hm hc hes0 hs hroom hfew hesl hab hble hb11 HRS HO her hen ht ham hbge HX00
          generalize jGoes o h k d = g6 at *
          generalize jHad o h k d = h6 at *
          generalize jTell o h k d = t6 at *
          cases o with
          | true =>
            rw [if_pos rfl] at HNX1
            have HNX := Lib.hid HNX1
            clear HNX1
            go_wp2_with (first
              | (go_at_call 15; (with_reducible refine (HBG.out _).mono ?_); rintro r w1 ⟨rfl, rfl⟩)
              | (go_at_call 13; (refine (HAC.out _ (Below.refl _ _)).mono ?_); rintro r w2 ⟨p2, c2, rfl, ho2, hb2⟩; have HX2 := Lib.hid (HX.out.keep hb2); have HO2 := Lib.hid ho2; clear ho2 hb2)
              | (refine wpl_put_fr rfl (.tmp 11) (.tmp 33) rfl w2.heap.size (FO.alloc w2) k e p2 d.length c2 rfl rfl ?_; intro w3 HF3 HG3; have hb3 : Below w2.heap.size w2 w3 := below_over (balloc w2 _) HG3.out (Nat.le_refl _) (balloc w2 _).size; have HX3 := Lib.hid (HX2.out.keep hb3); have HO3 := Lib.hid (own_keep HO2.out hb3); clear hb3 HX2 HO2; have j0 := HX3.out.jn.cells.1)
              | (refine wpl_load_ko rfl (.tmp 8) rfl rfl HX3.out.jn ?_)
              | (refine wpl_load_fr (by rfl) (.tmp 11) rfl rfl HF3.out ?_)
              | (go_at_call 14; (refine (HFD.out _ _ p2 c2 HX3.out.row (RI.own HO3.out)).mono ?_); rintro r w6 ⟨u, v6, rfl, oh6, ou6, hb6⟩; obtain ⟨ua, uc, rfl⟩ := own_form ou6; obtain ⟨qa, qc, rfl⟩ := own_form oh6; have HOH := Lib.hid (own_mono oh6 HX3.out.below.size); have HOU := Lib.hid (own_mono ou6 HX3.out.below.size); have HX6 := Lib.hid (HX3.out.keep hb6); clear oh6 ou6 hb6 HX3)
              | (refine wpList_store_row rfl 51 _ _ rfl w6.heap.size (kA g6 (.slice qa h6.length qc)) rfl rfl _ _ (heap_alloc_last w6 _) (kj_info _ _) rfl (kj_one _ _ _ _) ?_; obtain ⟨w7, hw7⟩ : ∃ q, World.setRow (w6.alloc (.cells (kA false (.slice none 0 0)) 51)) w6.heap.size (kA g6 (.slice qa h6.length qc)) = q := ⟨_, rfl⟩; rw [hw7]; have HK7 : Hid (KO w7 w6.heap.size g6 (.slice qa h6.length qc)) := Lib.hid (hw7 ▸ setRow_heap _ _ _ _ _ _ (heap_alloc_last w6 _)); have hb7 : Below w6.heap.size w6 w7 := hw7 ▸ bnew _ _ _; have HX7 := Lib.hid (HX6.out.keep hb7); have HOH7 := Lib.hid (own_keep HOH.out hb7); have HOU7 := Lib.hid (own_keep HOU.out hb7); clear hw7 hb7 HX6 HOH HOU)
              | (refine wpl_load_ko rfl (.tmp 13) rfl rfl HK7.out ?_)
              | (refine wpList_store_row rfl 51 _ _ rfl jb (kA g6 (.slice qa h6.length qc)) rfl rfl _ _ HX7.out.jn (kj_info _ _) rfl (kj_one _ _ _ _) ?_; obtain ⟨w8, hw8⟩ : ∃ q, World.setRow w7 jb (kA g6 (.slice qa h6.length qc)) = q := ⟨_, rfl⟩; rw [hw8]; have HX8 := Lib.hid (show RX W w8 rb jb fin 0 g6 h6 (.slice qa h6.length qc) (.slice ra es.length rc) es (.slice pa places.length pc) places from hw8 ▸ HX7.out.join HOH7.out H6.out); have HOU8 := Lib.hid (show w8.ownsRow W.heap.size 5 1 (.slice ua t6.length uc) t6.length (il .u8 t6) from hw8 ▸ own_over HOU7.out (grn_row w7 jb _) (fun q hq x => blk_ne_own HX7.out.jn HOU7.out (by decide) q hq (Option.some.inj x))); clear hw8 HX7 HOH7 HOU7))
            go_roundw
            case rel => exact ⟨_, Lib.hid HNX.out, rfl, rfl, Lib.hid ⟨_, _, es, _, HX8.out, HES.out⟩⟩
            case measure => simp [intOf]; omega
          | false =>
            rw [if_neg (by decide)] at HNX1
            have HNX := Lib.hid HNX1
            clear HNX1
            go_wp2_with (first
              | (go_at_call 15; (with_reducible refine (HBG.out _).mono ?_); rintro r w1 ⟨rfl, rfl⟩)
              | (go_at_call 13; (refine (HAC.out _ (Below.refl _ _)).mono ?_); rintro r w2 ⟨p2, c2, rfl, ho2, hb2⟩; have HX2 := Lib.hid (HX.out.keep hb2); have HO2 := Lib.hid ho2; clear ho2 hb2)
              | (refine wpl_put_fr rfl (.tmp 11) (.tmp 33) rfl w2.heap.size (FO.alloc w2) k e p2 d.length c2 rfl rfl ?_; intro w3 HF3 HG3; have hb3 : Below w2.heap.size w2 w3 := below_over (balloc w2 _) HG3.out (Nat.le_refl _) (balloc w2 _).size; have HX3 := Lib.hid (HX2.out.keep hb3); have HO3 := Lib.hid (own_keep HO2.out hb3); clear hb3 HX2 HO2; have j0 := HX3.out.jn.cells.1)
              | (refine wpl_load_ko rfl (.tmp 8) rfl rfl HX3.out.jn ?_)
              | (refine wpl_load_fr (by rfl) (.tmp 11) rfl rfl HF3.out ?_)
              | (go_at_call 14; (refine (HFD.out _ _ p2 c2 HX3.out.row (RI.own HO3.out)).mono ?_); rintro r w6 ⟨u, v6, rfl, oh6, ou6, hb6⟩; obtain ⟨ua, uc, rfl⟩ := own_form ou6; obtain ⟨qa, qc, rfl⟩ := own_form oh6; have HOH := Lib.hid (own_mono oh6 HX3.out.below.size); have HOU := Lib.hid (own_mono ou6 HX3.out.below.size); have HX6 := Lib.hid (HX3.out.keep hb6); clear oh6 ou6 hb6 HX3)
              | (refine wpList_store_row rfl 51 _ _ rfl w6.heap.size (kA g6 (.slice qa h6.length qc)) rfl rfl _ _ (heap_alloc_last w6 _) (kj_info _ _) rfl (kj_one _ _ _ _) ?_; obtain ⟨w7, hw7⟩ : ∃ q, World.setRow (w6.alloc (.cells (kA false (.slice none 0 0)) 51)) w6.heap.size (kA g6 (.slice qa h6.length qc)) = q := ⟨_, rfl⟩; rw [hw7]; have HK7 : Hid (KO w7 w6.heap.size g6 (.slice qa h6.length qc)) := Lib.hid (hw7 ▸ setRow_heap _ _ _ _ _ _ (heap_alloc_last w6 _)); have hb7 : Below w6.heap.size w6 w7 := hw7 ▸ bnew _ _ _; have HX7 := Lib.hid (HX6.out.keep hb7); have HOH7 := Lib.hid (own_keep HOH.out hb7); have HOU7 := Lib.hid (own_keep HOU.out hb7); clear hw7 hb7 HX6 HOH HOU)
              | (refine wpl_load_ko rfl (.tmp 13) rfl rfl HK7.out ?_)
              | (refine wpList_store_row rfl 51 _ _ rfl jb (kA g6 (.slice qa h6.length qc)) rfl rfl _ _ HX7.out.jn (kj_info _ _) rfl (kj_one _ _ _ _) ?_; obtain ⟨w8, hw8⟩ : ∃ q, World.setRow w7 jb (kA g6 (.slice qa h6.length qc)) = q := ⟨_, rfl⟩; rw [hw8]; have HX8 := Lib.hid (show RX W w8 rb jb fin 0 g6 h6 (.slice qa h6.length qc) (.slice ra es.length rc) es (.slice pa places.length pc) places from hw8 ▸ HX7.out.join HOH7.out H6.out); have HOU8 := Lib.hid (show w8.ownsRow W.heap.size 5 1 (.slice ua t6.length uc) t6.length (il .u8 t6) from hw8 ▸ own_over HOU7.out (grn_row w7 jb _) (fun q hq x => blk_ne_own HX7.out.jn HOU7.out (by decide) q hq (Option.some.inj x))); clear hw8 HX7 HOH7 HOU7))
            go_roundw
            case rel => exact ⟨_, Lib.hid HNX.out, rfl, rfl, Lib.hid ⟨_, _, es, _, HX8.out, HES.out⟩⟩
            case measure => simp [intOf]; omega
      · have HSTP := Lib.hid (HO.out.stop (HNXF (.inr her)))
        have hne : (jErr o h k d != 0) = true := by simpa using her
        have HFD := Lib.hid HFD
        clear HNXF HNXT HSE HSG hF hsz hm hc hes0 hs hroom hfew hesl hab hble hb11 HRS HO her ht ham hbge HX00
        generalize jErr o h k d = er at *
        generalize jEnds o h k d = en at *
        generalize jGoes o h k d = g6 at *
        generalize jHad o h k d = h6 at *
        generalize jTell o h k d = t6 at *
        cases o with
        | true =>
          have HRE0 := HREA.out fin HFIN.out
          obtain ⟨y, hy⟩ : ∃ y, restB n fs fin = y := ⟨_, rfl⟩
          rw [hy] at HRE0
          have HRE := Lib.hid HRE0
          have HKD : Hid (scKind n fs fin = if y = true then 1 else 2) := Lib.hid (by unfold scKind; rw [hy])
          clear HRE0 hy
          cases y with
          | true =>
            go_wp2_with (first
              | (go_at_call 15; (with_reducible refine (HBG.out _).mono ?_); rintro r w1 ⟨rfl, rfl⟩)
              | (go_at_call 13; (refine (HAC.out _ (Below.refl _ _)).mono ?_); rintro r w2 ⟨p2, c2, rfl, ho2, hb2⟩; have HX2 := Lib.hid (HX.out.keep hb2); have HO2 := Lib.hid ho2; clear ho2 hb2)
              | (refine wpl_put_fr rfl (.tmp 11) (.tmp 33) rfl w2.heap.size (FO.alloc w2) k e p2 d.length c2 rfl rfl ?_; intro w3 HF3 HG3; have hb3 : Below w2.heap.size w2 w3 := below_over (balloc w2 _) HG3.out (Nat.le_refl _) (balloc w2 _).size; have HX3 := Lib.hid (HX2.out.keep hb3); have HO3 := Lib.hid (own_keep HO2.out hb3); clear hb3 HX2 HO2; have j0 := HX3.out.jn.cells.1)
              | (refine wpl_load_ko rfl (.tmp 8) rfl rfl HX3.out.jn ?_)
              | (refine wpl_load_fr (by rfl) (.tmp 11) rfl rfl HF3.out ?_)
              | (go_at_call 14; (refine (HFD.out _ _ p2 c2 HX3.out.row (RI.own HO3.out)).mono ?_); rintro r w6 ⟨u, v6, rfl, oh6, ou6, hb6⟩; obtain ⟨ua, uc, rfl⟩ := own_form ou6; obtain ⟨qa, qc, rfl⟩ := own_form oh6; have HOH := Lib.hid (own_mono oh6 HX3.out.below.size); have HOU := Lib.hid (own_mono ou6 HX3.out.below.size); have HX6 := Lib.hid (HX3.out.keep hb6); clear oh6 ou6 hb6 HX3)
              | (refine wpList_store_row rfl 51 _ _ rfl w6.heap.size (kA g6 (.slice qa h6.length qc)) rfl rfl _ _ (heap_alloc_last w6 _) (kj_info _ _) rfl (kj_one _ _ _ _) ?_; obtain ⟨w7, hw7⟩ : ∃ q, World.setRow (w6.alloc (.cells (kA false (.slice none 0 0)) 51)) w6.heap.size (kA g6 (.slice qa h6.length qc)) = q := ⟨_, rfl⟩; rw [hw7]; have HK7 : Hid (KO w7 w6.heap.size g6 (.slice qa h6.length qc)) := Lib.hid (hw7 ▸ setRow_heap _ _ _ _ _ _ (heap_alloc_last w6 _)); have hb7 : Below w6.heap.size w6 w7 := hw7 ▸ bnew _ _ _; have HX7 := Lib.hid (HX6.out.keep hb7); have HOH7 := Lib.hid (own_keep HOH.out hb7); have HOU7 := Lib.hid (own_keep HOU.out hb7); clear hw7 hb7 HX6 HOH HOU; obtain ⟨_, _, z2, z3⟩ := HX7.out.cells; have f3 := HX7.out.frozen 3; obtain ⟨w4, hw4⟩ : ∃ q, w7.setCell ⟨rb, 3, none⟩ (.int .i64 2) = q := ⟨_, rfl⟩; have HX4 := Lib.hid (show RX _ w4 _ _ _ _ _ _ _ _ _ _ _ from by rw [← hw4]; exact HX7.out.set3 2); have y2 := HX4.out.cells.2.2.1; clear HX7)
              | (go_at_call 16; (refine (HRE.out _ (HFS.out.keep (bch HBW.out HX4.out.below))).mono ?_); rintro r w16 ⟨rfl, hb⟩; have HX16 := Lib.hid (HX4.out.keep hb); have z316 := HX16.out.cells.2.2.2; have f316 := HX16.out.frozen 3; clear hb; obtain ⟨w18, hw18⟩ : ∃ q, w16.setCell ⟨rb, 3, none⟩ (.int .i64 1) = q := ⟨_, rfl⟩; have HX18 := Lib.hid (show RX _ w18 _ _ _ _ _ _ _ _ _ _ _ from by rw [← hw18]; exact HX16.out.set3 1))
              | (refine wpList_load_row rfl 31 (.tmp 7) rfl rb rfl _ (uA (.slice ra es.length rc) (.slice pa places.length pc) fin 1) (0, 0) _ HX18.out.blk Tryd.underlying31 rfl (ut_info _ rfl) ?_)
              | (refine wpList_store_row rfl 31 _ _ rfl w.heap.size (uA (.slice ra es.length rc) (.slice pa places.length pc) fin 1) rfl rfl _ _ (((bch HBW.out HX18.out.below).block _ HWA.out).trans HRA.out) (ut_info _ rfl) rfl (ut_one _ _ _ _ _ _ _ _) ?_))
            refine bodyPost_ret_by (v := .agg (uA (.slice ra es.length rc) (.slice pa places.length pc) fin 1)) (results_cell_row rfl _ _ w.heap.size _ (uA (.slice ra es.length rc) (.slice pa places.length pc) fin 1) (0, 0) _ rfl (setRow_heap _ _ _ _ _ _ (((bch HBW.out HX18.out.below).block _ HWA.out).trans HRA.out)) Tryd.underlying31 rfl (ut_info _ rfl)) rfl ?_
            have hz : w.heap.size ≤ W.heap.size := Nat.le_trans (Nat.le_of_lt HWA.out) HBW.out.size
            have hne : ∀ {base n q : Nat} {t : TypeId} {u : Value} {xs : List Value}, W.heap.size ≤ base → w18.ownsRow base t q u n xs → (w18.setRow w.heap.size (uA (.slice ra es.length rc) (.slice pa places.length pc) fin 1)).ownsRow base t q u n xs := fun hbs ho =>
              own_over ho (grn_row w18 w.heap.size _) (fun g hg x => by have h1 := (ho.lt g hg).1; have h2 := HBW.out.size; have h3 := HWA.out; have h4 := Option.some.inj x; omega)
            have HSTQ := HSTP.out
            rw [← HSTQ]
            exact ⟨_, _, es, by show _ = Ending.returned (.agg (uA _ _ (fin : Nat) (scKind n fs fin))); rw [HKD.out]; rfl, ⟨own_mono (hne (Nat.le_refl _) HX18.out.recs.row) hz, fun x hx => own_mono (hne (Nat.le_refl _) (HX18.out.recs.data x hx)) hz, HX18.out.recs.apart⟩, HES.out, own_mono (hne (Nat.le_refl _) HX18.out.places) hz, brow (bch HBA.out (bch HBW.out HX18.out.below)) (Nat.le_refl _) (Nat.le_refl _) _⟩
          | false =>
            go_wp2_with (first
              | (go_at_call 15; (with_reducible refine (HBG.out _).mono ?_); rintro r w1 ⟨rfl, rfl⟩)
              | (go_at_call 13; (refine (HAC.out _ (Below.refl _ _)).mono ?_); rintro r w2 ⟨p2, c2, rfl, ho2, hb2⟩; have HX2 := Lib.hid (HX.out.keep hb2); have HO2 := Lib.hid ho2; clear ho2 hb2)
              | (refine wpl_put_fr rfl (.tmp 11) (.tmp 33) rfl w2.heap.size (FO.alloc w2) k e p2 d.length c2 rfl rfl ?_; intro w3 HF3 HG3; have hb3 : Below w2.heap.size w2 w3 := below_over (balloc w2 _) HG3.out (Nat.le_refl _) (balloc w2 _).size; have HX3 := Lib.hid (HX2.out.keep hb3); have HO3 := Lib.hid (own_keep HO2.out hb3); clear hb3 HX2 HO2; have j0 := HX3.out.jn.cells.1)
              | (refine wpl_load_ko rfl (.tmp 8) rfl rfl HX3.out.jn ?_)
              | (refine wpl_load_fr (by rfl) (.tmp 11) rfl rfl HF3.out ?_)
              | (go_at_call 14; (refine (HFD.out _ _ p2 c2 HX3.out.row (RI.own HO3.out)).mono ?_); rintro r w6 ⟨u, v6, rfl, oh6, ou6, hb6⟩; obtain ⟨ua, uc, rfl⟩ := own_form ou6; obtain ⟨qa, qc, rfl⟩ := own_form oh6; have HOH := Lib.hid (own_mono oh6 HX3.out.below.size); have HOU := Lib.hid (own_mono ou6 HX3.out.below.size); have HX6 := Lib.hid (HX3.out.keep hb6); clear oh6 ou6 hb6 HX3)
              | (refine wpList_store_row rfl 51 _ _ rfl w6.heap.size (kA g6 (.slice qa h6.length qc)) rfl rfl _ _ (heap_alloc_last w6 _) (kj_info _ _) rfl (kj_one _ _ _ _) ?_; obtain ⟨w7, hw7⟩ : ∃ q, World.setRow (w6.alloc (.cells (kA false (.slice none 0 0)) 51)) w6.heap.size (kA g6 (.slice qa h6.length qc)) = q := ⟨_, rfl⟩; rw [hw7]; have HK7 : Hid (KO w7 w6.heap.size g6 (.slice qa h6.length qc)) := Lib.hid (hw7 ▸ setRow_heap _ _ _ _ _ _ (heap_alloc_last w6 _)); have hb7 : Below w6.heap.size w6 w7 := hw7 ▸ bnew _ _ _; have HX7 := Lib.hid (HX6.out.keep hb7); have HOH7 := Lib.hid (own_keep HOH.out hb7); have HOU7 := Lib.hid (own_keep HOU.out hb7); clear hw7 hb7 HX6 HOH HOU; obtain ⟨_, _, z2, z3⟩ := HX7.out.cells; have f3 := HX7.out.frozen 3; obtain ⟨w4, hw4⟩ : ∃ q, w7.setCell ⟨rb, 3, none⟩ (.int .i64 2) = q := ⟨_, rfl⟩; have HX4 := Lib.hid (show RX _ w4 _ _ _ _ _ _ _ _ _ _ _ from by rw [← hw4]; exact HX7.out.set3 2); have y2 := HX4.out.cells.2.2.1; clear HX7)
              | (go_at_call 16; (refine (HRE.out _ (HFS.out.keep (bch HBW.out HX4.out.below))).mono ?_); rintro r w16 ⟨rfl, hb⟩; have HX16 := Lib.hid (HX4.out.keep hb); have z316 := HX16.out.cells.2.2.2; have f316 := HX16.out.frozen 3; clear hb; have HX18 := HX16)
              | (refine wpList_load_row rfl 31 (.tmp 7) rfl rb rfl _ (uA (.slice ra es.length rc) (.slice pa places.length pc) fin 2) (0, 0) _ HX18.out.blk Tryd.underlying31 rfl (ut_info _ rfl) ?_)
              | (refine wpList_store_row rfl 31 _ _ rfl w.heap.size (uA (.slice ra es.length rc) (.slice pa places.length pc) fin 2) rfl rfl _ _ (((bch HBW.out HX18.out.below).block _ HWA.out).trans HRA.out) (ut_info _ rfl) rfl (ut_one _ _ _ _ _ _ _ _) ?_))
            refine bodyPost_ret_by (v := .agg (uA (.slice ra es.length rc) (.slice pa places.length pc) fin 2)) (results_cell_row rfl _ _ w.heap.size _ (uA (.slice ra es.length rc) (.slice pa places.length pc) fin 2) (0, 0) _ rfl (setRow_heap _ _ _ _ _ _ (((bch HBW.out HX18.out.below).block _ HWA.out).trans HRA.out)) Tryd.underlying31 rfl (ut_info _ rfl)) rfl ?_
            have hz : w.heap.size ≤ W.heap.size := Nat.le_trans (Nat.le_of_lt HWA.out) HBW.out.size
            have hne : ∀ {base n q : Nat} {t : TypeId} {u : Value} {xs : List Value}, W.heap.size ≤ base → w16.ownsRow base t q u n xs → (w16.setRow w.heap.size (uA (.slice ra es.length rc) (.slice pa places.length pc) fin 2)).ownsRow base t q u n xs := fun hbs ho =>
              own_over ho (grn_row w16 w.heap.size _) (fun g hg x => by have h1 := (ho.lt g hg).1; have h2 := HBW.out.size; have h3 := HWA.out; have h4 := Option.some.inj x; omega)
            have HSTQ := HSTP.out
            rw [← HSTQ]
            exact ⟨_, _, es, by show _ = Ending.returned (.agg (uA _ _ (fin : Nat) (scKind n fs fin))); rw [HKD.out]; rfl, ⟨own_mono (hne (Nat.le_refl _) HX18.out.recs.row) hz, fun x hx => own_mono (hne (Nat.le_refl _) (HX18.out.recs.data x hx)) hz, HX18.out.recs.apart⟩, HES.out, own_mono (hne (Nat.le_refl _) HX18.out.places) hz, brow (bch HBA.out (bch HBW.out HX18.out.below)) (Nat.le_refl _) (Nat.le_refl _) _⟩
        | false =>
          have HRE0 := HREA.out fin HFIN.out
          obtain ⟨y, hy⟩ : ∃ y, restB n fs fin = y := ⟨_, rfl⟩
          rw [hy] at HRE0
          have HRE := Lib.hid HRE0
          have HKD : Hid (scKind n fs fin = if y = true then 1 else 2) := Lib.hid (by unfold scKind; rw [hy])
          clear HRE0 hy
          cases y with
          | true =>
            go_wp2_with (first
              | (go_at_call 15; (with_reducible refine (HBG.out _).mono ?_); rintro r w1 ⟨rfl, rfl⟩)
              | (go_at_call 13; (refine (HAC.out _ (Below.refl _ _)).mono ?_); rintro r w2 ⟨p2, c2, rfl, ho2, hb2⟩; have HX2 := Lib.hid (HX.out.keep hb2); have HO2 := Lib.hid ho2; clear ho2 hb2)
              | (refine wpl_put_fr rfl (.tmp 11) (.tmp 33) rfl w2.heap.size (FO.alloc w2) k e p2 d.length c2 rfl rfl ?_; intro w3 HF3 HG3; have hb3 : Below w2.heap.size w2 w3 := below_over (balloc w2 _) HG3.out (Nat.le_refl _) (balloc w2 _).size; have HX3 := Lib.hid (HX2.out.keep hb3); have HO3 := Lib.hid (own_keep HO2.out hb3); clear hb3 HX2 HO2; have j0 := HX3.out.jn.cells.1)
              | (refine wpl_load_ko rfl (.tmp 8) rfl rfl HX3.out.jn ?_)
              | (refine wpl_load_fr (by rfl) (.tmp 11) rfl rfl HF3.out ?_)
              | (go_at_call 14; (refine (HFD.out _ _ p2 c2 HX3.out.row (RI.own HO3.out)).mono ?_); rintro r w6 ⟨u, v6, rfl, oh6, ou6, hb6⟩; obtain ⟨ua, uc, rfl⟩ := own_form ou6; obtain ⟨qa, qc, rfl⟩ := own_form oh6; have HOH := Lib.hid (own_mono oh6 HX3.out.below.size); have HOU := Lib.hid (own_mono ou6 HX3.out.below.size); have HX6 := Lib.hid (HX3.out.keep hb6); clear oh6 ou6 hb6 HX3)
              | (refine wpList_store_row rfl 51 _ _ rfl w6.heap.size (kA g6 (.slice qa h6.length qc)) rfl rfl _ _ (heap_alloc_last w6 _) (kj_info _ _) rfl (kj_one _ _ _ _) ?_; obtain ⟨w7, hw7⟩ : ∃ q, World.setRow (w6.alloc (.cells (kA false (.slice none 0 0)) 51)) w6.heap.size (kA g6 (.slice qa h6.length qc)) = q := ⟨_, rfl⟩; rw [hw7]; have HK7 : Hid (KO w7 w6.heap.size g6 (.slice qa h6.length qc)) := Lib.hid (hw7 ▸ setRow_heap _ _ _ _ _ _ (heap_alloc_last w6 _)); have hb7 : Below w6.heap.size w6 w7 := hw7 ▸ bnew _ _ _; have HX7 := Lib.hid (HX6.out.keep hb7); have HOH7 := Lib.hid (own_keep HOH.out hb7); have HOU7 := Lib.hid (own_keep HOU.out hb7); clear hw7 hb7 HX6 HOH HOU; obtain ⟨_, _, z2, z3⟩ := HX7.out.cells; have f3 := HX7.out.frozen 3; obtain ⟨w4, hw4⟩ : ∃ q, w7.setCell ⟨rb, 3, none⟩ (.int .i64 2) = q := ⟨_, rfl⟩; have HX4 := Lib.hid (show RX _ w4 _ _ _ _ _ _ _ _ _ _ _ from by rw [← hw4]; exact HX7.out.set3 2); have y2 := HX4.out.cells.2.2.1; clear HX7)
              | (go_at_call 16; (refine (HRE.out _ (HFS.out.keep (bch HBW.out HX4.out.below))).mono ?_); rintro r w16 ⟨rfl, hb⟩; have HX16 := Lib.hid (HX4.out.keep hb); have z316 := HX16.out.cells.2.2.2; have f316 := HX16.out.frozen 3; clear hb; obtain ⟨w18, hw18⟩ : ∃ q, w16.setCell ⟨rb, 3, none⟩ (.int .i64 1) = q := ⟨_, rfl⟩; have HX18 := Lib.hid (show RX _ w18 _ _ _ _ _ _ _ _ _ _ _ from by rw [← hw18]; exact HX16.out.set3 1))
              | (refine wpList_load_row rfl 31 (.tmp 7) rfl rb rfl _ (uA (.slice ra es.length rc) (.slice pa places.length pc) fin 1) (0, 0) _ HX18.out.blk Tryd.underlying31 rfl (ut_info _ rfl) ?_)
              | (refine wpList_store_row rfl 31 _ _ rfl w.heap.size (uA (.slice ra es.length rc) (.slice pa places.length pc) fin 1) rfl rfl _ _ (((bch HBW.out HX18.out.below).block _ HWA.out).trans HRA.out) (ut_info _ rfl) rfl (ut_one _ _ _ _ _ _ _ _) ?_))
            refine bodyPost_ret_by (v := .agg (uA (.slice ra es.length rc) (.slice pa places.length pc) fin 1)) (results_cell_row rfl _ _ w.heap.size _ (uA (.slice ra es.length rc) (.slice pa places.length pc) fin 1) (0, 0) _ rfl (setRow_heap _ _ _ _ _ _ (((bch HBW.out HX18.out.below).block _ HWA.out).trans HRA.out)) Tryd.underlying31 rfl (ut_info _ rfl)) rfl ?_
            have hz : w.heap.size ≤ W.heap.size := Nat.le_trans (Nat.le_of_lt HWA.out) HBW.out.size
            have hne : ∀ {base n q : Nat} {t : TypeId} {u : Value} {xs : List Value}, W.heap.size ≤ base → w18.ownsRow base t q u n xs → (w18.setRow w.heap.size (uA (.slice ra es.length rc) (.slice pa places.length pc) fin 1)).ownsRow base t q u n xs := fun hbs ho =>
              own_over ho (grn_row w18 w.heap.size _) (fun g hg x => by have h1 := (ho.lt g hg).1; have h2 := HBW.out.size; have h3 := HWA.out; have h4 := Option.some.inj x; omega)
            have HSTQ := HSTP.out
            rw [← HSTQ]
            exact ⟨_, _, es, by show _ = Ending.returned (.agg (uA _ _ (fin : Nat) (scKind n fs fin))); rw [HKD.out]; rfl, ⟨own_mono (hne (Nat.le_refl _) HX18.out.recs.row) hz, fun x hx => own_mono (hne (Nat.le_refl _) (HX18.out.recs.data x hx)) hz, HX18.out.recs.apart⟩, HES.out, own_mono (hne (Nat.le_refl _) HX18.out.places) hz, brow (bch HBA.out (bch HBW.out HX18.out.below)) (Nat.le_refl _) (Nat.le_refl _) _⟩
          | false =>
            go_wp2_with (first
              | (go_at_call 15; (with_reducible refine (HBG.out _).mono ?_); rintro r w1 ⟨rfl, rfl⟩)
              | (go_at_call 13; (refine (HAC.out _ (Below.refl _ _)).mono ?_); rintro r w2 ⟨p2, c2, rfl, ho2, hb2⟩; have HX2 := Lib.hid (HX.out.keep hb2); have HO2 := Lib.hid ho2; clear ho2 hb2)
              | (refine wpl_put_fr rfl (.tmp 11) (.tmp 33) rfl w2.heap.size (FO.alloc w2) k e p2 d.length c2 rfl rfl ?_; intro w3 HF3 HG3; have hb3 : Below w2.heap.size w2 w3 := below_over (balloc w2 _) HG3.out (Nat.le_refl _) (balloc w2 _).size; have HX3 := Lib.hid (HX2.out.keep hb3); have HO3 := Lib.hid (own_keep HO2.out hb3); clear hb3 HX2 HO2; have j0 := HX3.out.jn.cells.1)
              | (refine wpl_load_ko rfl (.tmp 8) rfl rfl HX3.out.jn ?_)
              | (refine wpl_load_fr (by rfl) (.tmp 11) rfl rfl HF3.out ?_)
              | (go_at_call 14; (refine (HFD.out _ _ p2 c2 HX3.out.row (RI.own HO3.out)).mono ?_); rintro r w6 ⟨u, v6, rfl, oh6, ou6, hb6⟩; obtain ⟨ua, uc, rfl⟩ := own_form ou6; obtain ⟨qa, qc, rfl⟩ := own_form oh6; have HOH := Lib.hid (own_mono oh6 HX3.out.below.size); have HOU := Lib.hid (own_mono ou6 HX3.out.below.size); have HX6 := Lib.hid (HX3.out.keep hb6); clear oh6 ou6 hb6 HX3)
              | (refine wpList_store_row rfl 51 _ _ rfl w6.heap.size (kA g6 (.slice qa h6.length qc)) rfl rfl _ _ (heap_alloc_last w6 _) (kj_info _ _) rfl (kj_one _ _ _ _) ?_; obtain ⟨w7, hw7⟩ : ∃ q, World.setRow (w6.alloc (.cells (kA false (.slice none 0 0)) 51)) w6.heap.size (kA g6 (.slice qa h6.length qc)) = q := ⟨_, rfl⟩; rw [hw7]; have HK7 : Hid (KO w7 w6.heap.size g6 (.slice qa h6.length qc)) := Lib.hid (hw7 ▸ setRow_heap _ _ _ _ _ _ (heap_alloc_last w6 _)); have hb7 : Below w6.heap.size w6 w7 := hw7 ▸ bnew _ _ _; have HX7 := Lib.hid (HX6.out.keep hb7); have HOH7 := Lib.hid (own_keep HOH.out hb7); have HOU7 := Lib.hid (own_keep HOU.out hb7); clear hw7 hb7 HX6 HOH HOU; obtain ⟨_, _, z2, z3⟩ := HX7.out.cells; have f3 := HX7.out.frozen 3; obtain ⟨w4, hw4⟩ : ∃ q, w7.setCell ⟨rb, 3, none⟩ (.int .i64 2) = q := ⟨_, rfl⟩; have HX4 := Lib.hid (show RX _ w4 _ _ _ _ _ _ _ _ _ _ _ from by rw [← hw4]; exact HX7.out.set3 2); have y2 := HX4.out.cells.2.2.1; clear HX7)
              | (go_at_call 16; (refine (HRE.out _ (HFS.out.keep (bch HBW.out HX4.out.below))).mono ?_); rintro r w16 ⟨rfl, hb⟩; have HX16 := Lib.hid (HX4.out.keep hb); have z316 := HX16.out.cells.2.2.2; have f316 := HX16.out.frozen 3; clear hb; have HX18 := HX16)
              | (refine wpList_load_row rfl 31 (.tmp 7) rfl rb rfl _ (uA (.slice ra es.length rc) (.slice pa places.length pc) fin 2) (0, 0) _ HX18.out.blk Tryd.underlying31 rfl (ut_info _ rfl) ?_)
              | (refine wpList_store_row rfl 31 _ _ rfl w.heap.size (uA (.slice ra es.length rc) (.slice pa places.length pc) fin 2) rfl rfl _ _ (((bch HBW.out HX18.out.below).block _ HWA.out).trans HRA.out) (ut_info _ rfl) rfl (ut_one _ _ _ _ _ _ _ _) ?_))
            refine bodyPost_ret_by (v := .agg (uA (.slice ra es.length rc) (.slice pa places.length pc) fin 2)) (results_cell_row rfl _ _ w.heap.size _ (uA (.slice ra es.length rc) (.slice pa places.length pc) fin 2) (0, 0) _ rfl (setRow_heap _ _ _ _ _ _ (((bch HBW.out HX18.out.below).block _ HWA.out).trans HRA.out)) Tryd.underlying31 rfl (ut_info _ rfl)) rfl ?_
            have hz : w.heap.size ≤ W.heap.size := Nat.le_trans (Nat.le_of_lt HWA.out) HBW.out.size
            have hne : ∀ {base n q : Nat} {t : TypeId} {u : Value} {xs : List Value}, W.heap.size ≤ base → w16.ownsRow base t q u n xs → (w16.setRow w.heap.size (uA (.slice ra es.length rc) (.slice pa places.length pc) fin 2)).ownsRow base t q u n xs := fun hbs ho =>
              own_over ho (grn_row w16 w.heap.size _) (fun g hg x => by have h1 := (ho.lt g hg).1; have h2 := HBW.out.size; have h3 := HWA.out; have h4 := Option.some.inj x; omega)
            have HSTQ := HSTP.out
            rw [← HSTQ]
            exact ⟨_, _, es, by show _ = Ending.returned (.agg (uA _ _ (fin : Nat) (scKind n fs fin))); rw [HKD.out]; rfl, ⟨own_mono (hne (Nat.le_refl _) HX18.out.recs.row) hz, fun x hx => own_mono (hne (Nat.le_refl _) (HX18.out.recs.data x hx)) hz, HX18.out.recs.apart⟩, HES.out, own_mono (hne (Nat.le_refl _) HX18.out.places) hz, brow (bch HBA.out (bch HBW.out HX18.out.below)) (Nat.le_refl _) (Nat.le_refl _) _⟩
end Go.Proofs.YtnmplnemnfonfaaDoor
namespace Go.Proofs.YtnmplnemnfonfaaDoor
open Go.RowKit
set_option maxRecDepth 8000 in
set_option maxHeartbeats 4000000 in
theorem racc_short (x : Int) (bv kv : Value) (B : List Int) (K : List Bool) (w : World) (ep : Int) (hB : B.length = 832) (a : Nat) (ha : a ≤ 832) (hs : 832 < a + 11) :
    Calls Tryd.prog 13 #[.int .u64 x, bv, kv, .int .i64 (a : Int)] w (AccF (scF ep B K a) w) := by
  obtain ⟨wa, hwa⟩ : ∃ q, w.alloc (.cells (fA 0 0 (.slice none 0 0)) 43) = q := ⟨_, rfl⟩
  have HA : Hid (FO wa w.heap.size 0 0 (.slice none 0 0)) := Lib.hid (by rw [← hwa]; exact FO.alloc w)
  have HBA := Lib.hid (show Below w.heap.size w wa from by rw [← hwa]; exact balloc w _)
  obtain ⟨t, ht⟩ : ∃ t, a + 11 = t := ⟨_, rfl⟩
  have htI : (a : Int) + 11 = (t : Int) := by omega
  have htb : (t : Int) ≤ 1000 := by omega
  have HR := Lib.hid (scF_short (ep := ep) (K := K) hB ha hs)
  have h8i : (832 : Int) < (t : Int) := by omega
  rw [HR.out]
  clear hB ha hs ht
  go_enter Tryd.func13, Tryd.ntmps13
  go_wp2_with (first
    | (rw [hwa])
    | (refine wpl_put_fr rfl (.tmp 8) (.tmp 24) rfl w.heap.size HA.out 0 0 none 0 0 rfl rfl ?_; intro wz HZ HGZ))
  refine bodyPost_ret_by (results_row_tmp rfl _ _ w.heap.size _ rfl HZ.out.load) rfl ?_
  exact ⟨none, 0, rfl, World.ownsRow_nil _ _ _ _, below_over HBA.out HGZ.out (Nat.le_refl _) HBA.out.size⟩
theorem racc_le (x : Int) (hx : U64 x) (bv kv : Value) (B : List Int) (K : List Bool) (w : World) (hB : B.length = 832) (hBb : isB B) (hbv : RI .u8 w bv 832 B) (hk : BS w kv 16 K) (a : Nat) (ha : a ≤ 832) :
    Calls Tryd.prog 13 #[.int .u64 x, bv, kv, .int .i64 (a : Int)] w (AccF (scF (x % 4294967296) B K a) w) := by
  by_cases h : a + 11 ≤ 832
  · exact racc_any x hx bv kv B K w hB hBb hbv hk a (.inr h)
  · exact racc_short x bv kv B K w _ hB a ha (by omega)
structure RJ (W w : World) (jb : Nat) (o : Bool) (h : List Int) (hv : Value) : Prop where
  jn : KO w jb o hv
  row : w.ownsRow W.heap.size 5 1 hv h.length (il .u8 h)
  low : W.heap.size ≤ jb
  below : Below W.heap.size W w
theorem RJ.keep {W w w' : World} {jb : Nat} {o : Bool} {h : List Int} {hv : Value} (c : RJ W w jb o h hv) (hb : Below w.heap.size w w') : RJ W w' jb o h hv := ⟨c.jn.keep hb, own_keep c.row hb, c.low, bch c.below hb⟩
theorem RJ.join {W w : World} {jb : Nat} {o o' : Bool} {h h' : List Int} {hv hv' : Value} (c : RJ W w jb o h hv) (hr : w.ownsRow W.heap.size 5 1 hv' h'.length (il .u8 h')) : RJ W (w.setRow jb (kA o' hv')) jb o' h' hv' :=
  ⟨c.jn.row o' hv', c.jn.row_own _ hr (by decide), c.low, brow c.below c.low (Nat.le_refl _) _⟩
set_option maxRecDepth 8000 in
set_option maxHeartbeats 8000000 in
theorem rfrom_any (x : Int) (hx : U64 x) (v : Value) (n : Nat) (fs : List Int) (hbf : isB fs) (w : World) (h : FS w v n fs) (p : Int) :
    Calls Tryd.prog 6 #[.int .u64 x, v, .int .i64 p] w (FromF (rdAt (x % 4294967296) (flatB x n fs 16) (flatK x n fs 16) p) w) := by
  by_cases hp : p < 0
  · rw [rdAt_out (.inl hp)]
    go_enter Tryd.func6, Tryd.ntmps6
    go_wp2
    go_ret3
    exact ⟨Below.refl _ _, rfl⟩
  by_cases hp8 : p ≥ 832
  · have hn : rdAt (x % 4294967296) (flatB x n fs 16) (flatK x n fs 16) p = none := by
      by_cases h : p = 832
      · subst h; exact (rdAt_in (a := 832) (Nat.le_refl _)).trans rdOf_far
      · exact rdAt_out (.inr (by omega))
    rw [hn]
    clear hn h hbf hx
    go_enter Tryd.func6, Tryd.ntmps6
    go_wp2
    go_ret3
    exact ⟨Below.refl _ _, rfl⟩
  obtain ⟨a0, rfl⟩ : ∃ a : Nat, p = (a : Int) := ⟨p.toNat, by omega⟩
  have ha0 : a0 ≤ 832 := by omega
  rw [rdAt_in ha0]
  have HFL := Lib.hid (rflat_any x hx v n fs w h)
  have hB := flatB_length x n fs h.length 16
  have hBb := flatB_bytes x n fs hbf 16
  obtain ⟨B, hBe⟩ : ∃ B, flatB x n fs 16 = B := ⟨_, rfl⟩
  obtain ⟨K, hKe⟩ : ∃ K, flatK x n fs 16 = K := ⟨_, rfl⟩
  obtain ⟨ep, hep⟩ : ∃ e, x % 4294967296 = e := ⟨_, rfl⟩
  rw [hBe, hKe] at HFL
  rw [hBe] at hB hBb
  rw [hBe, hKe, hep]
  have HACC : Hid (∀ (bv kv : Value) (w : World) (a : Nat), RI .u8 w bv 832 B → BS w kv 16 K → a ≤ 832 → Calls Tryd.prog 13 #[.int .u64 x, bv, kv, .int .i64 a] w (AccF (scF ep B K a) w)) := Lib.hid fun bv kv w a h1 h2 h3 => by
    have := racc_le x hx bv kv B K w hB hBb h1 h2 a h3; rwa [hep] at this
  obtain ⟨va, vc, rfl⟩ : ∃ a c, v = .slice a n c := by obtain ⟨a, c, q, _⟩ := h; exact ⟨a, c, q⟩
  have HBL := Lib.hid (show B.length = 832 from hB)
  have HWY := Lib.hid (rdway_0 (ep := ep) (B := B) (K := K) ha0)
  have hp0 : ¬ (a0 : Int) < 0 := hp
  have hp1 : ¬ (a0 : Int) ≥ 832 := hp8
  have hp2 : ¬ (832 : Int) ≤ (a0 : Int) := hp8
  clear hx hbf h hB hBb hep hBe hKe hp hp8
  go_enter Tryd.func6, Tryd.ntmps6
  go_wp2_with (first
    | (go_at_call 12; (refine HFL.out.mono ?_); rintro r W ⟨bv, kv, rfl, hbv, hkv, hbw⟩; have HBV := Lib.hid hbv; have HKV := Lib.hid hkv; have HBW := Lib.hid hbw; clear hbv hkv hbw)
    | (refine wpList_store_row rfl 51 _ _ rfl W.heap.size (kA false (.slice none 0 0)) rfl rfl _ _ (heap_alloc_last W _) (kj_info _ _) rfl (kj_one _ _ _ _) ?_))
  simp only [Act.put]
  obtain ⟨w0, hw0⟩ : ∃ q, (W.alloc (.cells #[.bool false, .slice none 0 0] 51)).setRow W.heap.size (kA false (.slice none 0 0)) = q := ⟨_, rfl⟩
  have HX0 : Hid (RJ W w0 W.heap.size false [] (.slice none 0 0)) := Lib.hid ⟨by rw [← hw0]; exact setRow_heap _ _ _ _ _ _ (heap_alloc_last W _), World.ownsRow_nil _ _ _ _, Nat.le_refl _, by rw [← hw0]; exact bnew _ _ _⟩
  rw [hw0]
  obtain ⟨jb, hjb⟩ : ∃ g, W.heap.size = g := ⟨_, rfl⟩
  have HX0' : Hid (RJ W w0 jb false [] (.slice none 0 0)) := Lib.hid (hjb ▸ HX0.out)
  rw [hjb]
  clear hw0 HX0 hjb HFL hp0 hp1 hp2
  go_loopw [2] (fun av wr => ∃ s : RR, av = .int .i64 (s.at_ : Int) ∧ Hid (RdWay ep B K a0 s) ∧ ∃ hv, Hid (RJ W wr jb s.o s.h hv)) (fun av _ => 832 - (intOf av).toNat)
  case atStart => exact ⟨⟨a0, false, []⟩, rfl, HWY, _, HX0'⟩
  case round =>
    obtain ⟨s, rfl, HO, hv, HX⟩ := hrel
    obtain ⟨a, o, h⟩ := s
    dsimp only at HX HO ⊢
    have ha : a ≤ 832 := HO.out.1.at_
    have h5 : h.length ≤ 512 := HO.out.1.h
    obtain ⟨ha', hc', rfl⟩ := own_form HX.out.row
    obtain ⟨⟨⟨k, e, d⟩, m⟩, hF⟩ : ∃ F, scF ep B K a = F := ⟨_, rfl⟩
    have hstop : (∀ (r : Option (List Int × Nat)), rrStop ep B K ⟨a, o, h⟩ = true → rdEnd ep B K ⟨a, o, h⟩ = r → rdOf ep B K a0 = r) := fun r q1 q2 => (HO.out.stop q1).trans q2
    have HAC : Hid (∀ w', Below wr.heap.size wr w' → Calls Tryd.prog 13 #[.int .u64 x, bv, kv, .int .i64 a] w' fun r w'' => ∃ p c, r = .returned (.tuple #[.agg (fA k e (.slice p d.length c)), .int .i64 (m : Int)]) ∧ w''.ownsRow w'.heap.size 5 1 (.slice p d.length c) d.length (il .u8 d) ∧ Below w'.heap.size w' w'') := Lib.hid fun w' hb => by
      have := HACC.out bv kv w' a (HBV.out.keep (bch HX.out.below hb)) (HKV.out.kin (Kin.below (bch HX.out.below hb))) ha
      rw [hF] at this
      exact this
    by_cases hm : m = 0
    · have HR : Hid (rdOf ep B K a0 = none) := Lib.hid (by
        have := rr_none (ep := ep) (B := B) (K := K) (s := ⟨a, o, h⟩) (by rw [hF]; exact hm)
        exact hstop _ this.1 this.2)
      rw [HR.out]
      subst hm
      clear hstop hF
      go_wp2_with (first
        | (go_at_call 13; (refine (HAC.out _ (Below.refl _ _)).mono ?_); rintro r w2 ⟨p2, c2, rfl, ho2, hb2⟩; have HX2 := Lib.hid (HX.out.keep hb2); clear ho2 hb2)
        | (refine wpl_put_fr rfl (.tmp 12) (.tmp 37) rfl w2.heap.size (FO.alloc w2) k e p2 d.length c2 rfl rfl ?_; intro w3 HF3 HG3; have hb3 : Below w2.heap.size w2 w3 := below_over (balloc w2 _) HG3.out (Nat.le_refl _) (balloc w2 _).size; have HX3 := Lib.hid (HX2.out.keep hb3); clear hb3 HX2))
      go_ret3
      exact ⟨bch HBW.out HX3.out.below, rfl⟩
    · obtain ⟨hm11, ham, hdl⟩ := scF_in (ep := ep) (K := K) HBL.out ha (by rw [hF]; exact hm)
      rw [hF] at hm11 ham hdl
      dsimp only at hm11 ham hdl
      have hmi : ¬ (m : Int) = 0 := by omega
      have hmi' : ((m : Int) == 0) = false := by simpa using hmi
      obtain ⟨t, ht⟩ : ∃ t, a + m = t := ⟨_, rfl⟩
      rw [ht] at ham
      have htI : (a : Int) + (m : Int) = (t : Int) := by omega
      have htb : (t : Int) ≤ 832 := by omega
      have HFD : ∀ (w : World) (hv : Value) (x : Option Addr) (c : Nat), w.ownsRow W.heap.size 5 1 hv h.length (il .u8 h) → RI .u8 w (.slice x d.length c) d.length d → Calls Tryd.prog 14 #[.agg (kA o hv), .agg (fA k e (.slice x d.length c))] w fun r w' =>
          ∃ u v', r = .returned (.tuple #[.agg (kA (jGoes o h k d) v'), u, .bool (jEnds o h k d), .int .i64 (jErr o h k d)]) ∧ w'.ownsRow w.heap.size 5 1 v' (jHad o h k d).length (il .u8 (jHad o h k d)) ∧ w'.ownsRow w.heap.size 5 1 u (jTell o h k d).length (il .u8 (jTell o h k d)) ∧ Below w.heap.size w w' := fun w hv x c h1 h2 =>
        rfeed_any o hv h k e (.slice x d.length c) d.length d w (RI.own h1) h5 h2 (by omega)
      by_cases her : jErr o h k d = 0
      · rw [her] at HFD
        cases hen : jEnds o h k d with
        | true =>
          have HR : Hid (rdOf ep B K a0 = some (jTell o h k d, t)) := Lib.hid (by
            have := rr_ends (ep := ep) (B := B) (K := K) (s := ⟨a, o, h⟩) (by rw [hF]; exact hm) (by rw [hF]; exact hen)
            rw [hF] at this
            dsimp only at this
            rw [ht] at this
            exact hstop _ this.1 this.2)
          rw [HR.out]
          rw [hen] at HFD
          have HFD := Lib.hid HFD
          clear hstop hF hm her hen ht
          generalize jGoes o h k d = g6 at *
          generalize jHad o h k d = h6 at *
          generalize jTell o h k d = t6 at *
          go_wp2_with (first
          | (go_at_call 13; (refine (HAC.out _ (Below.refl _ _)).mono ?_); rintro r w2 ⟨p2, c2, rfl, ho2, hb2⟩; have HX2 := Lib.hid (HX.out.keep hb2); have HO2 := Lib.hid ho2; clear ho2 hb2)
          | (refine wpl_put_fr rfl (.tmp 12) (.tmp 37) rfl w2.heap.size (FO.alloc w2) k e p2 d.length c2 rfl rfl ?_; intro w3 HF3 HG3; have hb3 : Below w2.heap.size w2 w3 := below_over (balloc w2 _) HG3.out (Nat.le_refl _) (balloc w2 _).size; have HX3 := Lib.hid (HX2.out.keep hb3); have HO3 := Lib.hid (own_keep HO2.out hb3); clear hb3 HX2 HO2)
          | (refine wpl_load_ko rfl (.tmp 11) rfl rfl HX3.out.jn ?_)
          | (refine wpl_load_fr (by rfl) (.tmp 12) rfl rfl HF3.out ?_)
          | (go_at_call 14; (refine (HFD.out _ _ p2 c2 HX3.out.row (RI.own HO3.out)).mono ?_); rintro r w6 ⟨u, v6, rfl, oh6, ou6, hb6⟩; obtain ⟨ua, uc, rfl⟩ := own_form ou6; obtain ⟨qa, qc, rfl⟩ := own_form oh6; have HOH := Lib.hid (own_mono oh6 HX3.out.below.size); have HOU := Lib.hid (own_mono ou6 HX3.out.below.size); have HX6 := Lib.hid (HX3.out.keep hb6); clear oh6 ou6 hb6 HX3)
          | (refine wpList_store_row rfl 51 _ _ rfl w6.heap.size (kA g6 (.slice qa h6.length qc)) rfl rfl _ _ (heap_alloc_last w6 _) (kj_info _ _) rfl (kj_one _ _ _ _) ?_; obtain ⟨w7, hw7⟩ : ∃ q, World.setRow (w6.alloc (.cells (kA false (.slice none 0 0)) 51)) w6.heap.size (kA g6 (.slice qa h6.length qc)) = q := ⟨_, rfl⟩; rw [hw7]; have HK7 : Hid (KO w7 w6.heap.size g6 (.slice qa h6.length qc)) := Lib.hid (hw7 ▸ setRow_heap _ _ _ _ _ _ (heap_alloc_last w6 _)); have hb7 : Below w6.heap.size w6 w7 := hw7 ▸ bnew _ _ _; have HX7 := Lib.hid (HX6.out.keep hb7); have HOH7 := Lib.hid (own_keep HOH.out hb7); have HOU7 := Lib.hid (own_keep HOU.out hb7); clear hw7 hb7 HX6 HOH HOU))
          go_ret3
          exact ⟨bch HBW.out HX7.out.below, _, _, rfl, own_mono HOU7.out HBW.out.size⟩
        | false =>
          have hgo := rr_going (ep := ep) (B := B) (K := K) (s := ⟨a, o, h⟩) (by rw [hF]; exact hm) (by rw [hF]; exact her) (by rw [hF]; exact hen)
          have HNX := HO.out.next HBL.out hgo
          have hgs : rrGo ep B K ⟨a, o, h⟩ = ⟨beginN t, jGoes o h k d, jHad o h k d⟩ := by unfold rrGo; rw [hF]; dsimp only; rw [ht]
          rw [hgs] at HNX
          rw [hen] at HFD
          have HFD := Lib.hid HFD
          have HNX := Lib.hid HNX
          have HBG : Hid (∀ w, Calls Tryd.prog 15 #[.int .i64 t] w fun e w' => e = .returned (.int .i64 (beginN t : Int)) ∧ w = w') := Lib.hid fun w => by
            have := rbegin_any (t : Int) (by unfold I63; omega) w
            rw [nr_nat t ham] at this
            exact this.mono fun r w' ⟨h1, h2⟩ => ⟨h1, h2.symm⟩
          clear hstop hF hm her hen ht hgo hgs
          generalize jGoes o h k d = g6 at *
          generalize jHad o h k d = h6 at *
          generalize jTell o h k d = t6 at *
          generalize beginN t = bt at *
          go_wp2_with (first
          | (go_at_call 13; (refine (HAC.out _ (Below.refl _ _)).mono ?_); rintro r w2 ⟨p2, c2, rfl, ho2, hb2⟩; have HX2 := Lib.hid (HX.out.keep hb2); have HO2 := Lib.hid ho2; clear ho2 hb2)
          | (refine wpl_put_fr rfl (.tmp 12) (.tmp 37) rfl w2.heap.size (FO.alloc w2) k e p2 d.length c2 rfl rfl ?_; intro w3 HF3 HG3; have hb3 : Below w2.heap.size w2 w3 := below_over (balloc w2 _) HG3.out (Nat.le_refl _) (balloc w2 _).size; have HX3 := Lib.hid (HX2.out.keep hb3); have HO3 := Lib.hid (own_keep HO2.out hb3); clear hb3 HX2 HO2)
          | (refine wpl_load_ko rfl (.tmp 11) rfl rfl HX3.out.jn ?_)
          | (refine wpl_load_fr (by rfl) (.tmp 12) rfl rfl HF3.out ?_)
          | (go_at_call 14; (refine (HFD.out _ _ p2 c2 HX3.out.row (RI.own HO3.out)).mono ?_); rintro r w6 ⟨u, v6, rfl, oh6, ou6, hb6⟩; obtain ⟨ua, uc, rfl⟩ := own_form ou6; obtain ⟨qa, qc, rfl⟩ := own_form oh6; have HOH := Lib.hid (own_mono oh6 HX3.out.below.size); have HOU := Lib.hid (own_mono ou6 HX3.out.below.size); have HX6 := Lib.hid (HX3.out.keep hb6); clear oh6 ou6 hb6 HX3)
          | (refine wpList_store_row rfl 51 _ _ rfl w6.heap.size (kA g6 (.slice qa h6.length qc)) rfl rfl _ _ (heap_alloc_last w6 _) (kj_info _ _) rfl (kj_one _ _ _ _) ?_; obtain ⟨w7, hw7⟩ : ∃ q, World.setRow (w6.alloc (.cells (kA false (.slice none 0 0)) 51)) w6.heap.size (kA g6 (.slice qa h6.length qc)) = q := ⟨_, rfl⟩; rw [hw7]; have HK7 : Hid (KO w7 w6.heap.size g6 (.slice qa h6.length qc)) := Lib.hid (hw7 ▸ setRow_heap _ _ _ _ _ _ (heap_alloc_last w6 _)); have hb7 : Below w6.heap.size w6 w7 := hw7 ▸ bnew _ _ _; have HX7 := Lib.hid (HX6.out.keep hb7); have HOH7 := Lib.hid (own_keep HOH.out hb7); have HOU7 := Lib.hid (own_keep HOU.out hb7); clear hw7 hb7 HX6 HOH HOU)
          | (refine wpl_load_ko rfl (.tmp 14) rfl rfl HK7.out ?_)
          | (refine wpList_store_row rfl 51 _ _ rfl jb (kA g6 (.slice qa h6.length qc)) rfl rfl _ _ HX7.out.jn (kj_info _ _) rfl (kj_one _ _ _ _) ?_; obtain ⟨w8, hw8⟩ : ∃ q, World.setRow w7 jb (kA g6 (.slice qa h6.length qc)) = q := ⟨_, rfl⟩; rw [hw8]; have HX8 := Lib.hid (show RJ W w8 jb g6 h6 (.slice qa h6.length qc) from hw8 ▸ HX7.out.join HOH7.out); clear hw8 HX7 HOH7 HOU7)
          | (go_at_call 15; (with_reducible refine (HBG.out _).mono ?_); rintro r w9 ⟨rfl, rfl⟩))
          go_roundw
          case rel => exact ⟨⟨bt, g6, h6⟩, rfl, Lib.hid HNX.out.1, _, HX8⟩
          case measure => have h1 := HNX.out.2; have h2 := HNX.out.1.1.at_; simp only [intOf]; dsimp only at h1 h2; omega
      · have HR : Hid (rdOf ep B K a0 = none) := Lib.hid (by
          have := rr_err (ep := ep) (B := B) (K := K) (s := ⟨a, o, h⟩) (by rw [hF]; exact her)
          exact hstop _ this.1 this.2)
        rw [HR.out]
        generalize jErr o h k d = er at *
        have hx1 : (er == 0) = false := by simpa using her
        have HFD := Lib.hid HFD
        clear hstop hF hm ht
        generalize jGoes o h k d = g6 at *
        generalize jHad o h k d = h6 at *
        generalize jTell o h k d = t6 at *
        generalize jEnds o h k d = d6 at *
        go_wp2_with (first
          | (go_at_call 13; (refine (HAC.out _ (Below.refl _ _)).mono ?_); rintro r w2 ⟨p2, c2, rfl, ho2, hb2⟩; have HX2 := Lib.hid (HX.out.keep hb2); have HO2 := Lib.hid ho2; clear ho2 hb2)
          | (refine wpl_put_fr rfl (.tmp 12) (.tmp 37) rfl w2.heap.size (FO.alloc w2) k e p2 d.length c2 rfl rfl ?_; intro w3 HF3 HG3; have hb3 : Below w2.heap.size w2 w3 := below_over (balloc w2 _) HG3.out (Nat.le_refl _) (balloc w2 _).size; have HX3 := Lib.hid (HX2.out.keep hb3); have HO3 := Lib.hid (own_keep HO2.out hb3); clear hb3 HX2 HO2)
          | (refine wpl_load_ko rfl (.tmp 11) rfl rfl HX3.out.jn ?_)
          | (refine wpl_load_fr (by rfl) (.tmp 12) rfl rfl HF3.out ?_)
          | (go_at_call 14; (refine (HFD.out _ _ p2 c2 HX3.out.row (RI.own HO3.out)).mono ?_); rintro r w6 ⟨u, v6, rfl, oh6, ou6, hb6⟩; obtain ⟨ua, uc, rfl⟩ := own_form ou6; obtain ⟨qa, qc, rfl⟩ := own_form oh6; have HOH := Lib.hid (own_mono oh6 HX3.out.below.size); have HOU := Lib.hid (own_mono ou6 HX3.out.below.size); have HX6 := Lib.hid (HX3.out.keep hb6); clear oh6 ou6 hb6 HX3)
          | (refine wpList_store_row rfl 51 _ _ rfl w6.heap.size (kA g6 (.slice qa h6.length qc)) rfl rfl _ _ (heap_alloc_last w6 _) (kj_info _ _) rfl (kj_one _ _ _ _) ?_; obtain ⟨w7, hw7⟩ : ∃ q, World.setRow (w6.alloc (.cells (kA false (.slice none 0 0)) 51)) w6.heap.size (kA g6 (.slice qa h6.length qc)) = q := ⟨_, rfl⟩; rw [hw7]; have HK7 : Hid (KO w7 w6.heap.size g6 (.slice qa h6.length qc)) := Lib.hid (hw7 ▸ setRow_heap _ _ _ _ _ _ (heap_alloc_last w6 _)); have hb7 : Below w6.heap.size w6 w7 := hw7 ▸ bnew _ _ _; have HX7 := Lib.hid (HX6.out.keep hb7); have HOH7 := Lib.hid (own_keep HOH.out hb7); have HOU7 := Lib.hid (own_keep HOU.out hb7); clear hw7 hb7 HX6 HOH HOU))
        go_ret3
        exact ⟨bch HBW.out HX7.out.below, rfl⟩
end Go.Proofs.YtnmplnemnfonfaaDoor
namespace Go.Proofs.YtnmplnemnfonfaaDoor
open Go.RowKit
end Go.Proofs.YtnmplnemnfonfaaDoor
namespace Go.Proofs.YtnmplnemnfonfaaDoor
open Go.RowKit
theorem go_ok {ep : Int} {B : List Int} {K : List Bool} (hB : B.length = 832) : ∀ k s, s.Ok → (scGo ep B K k s).Ok
  | 0, _, hs => hs
  | k + 1, s, hs => by
    unfold scGo
    cases hn : scNext ep B K s with
    | none => exact hs
    | some t => exact go_ok hB k t (scNext_ok hB hs hn).1
theorem end_ok {ep : Int} {B : List Int} {K : List Bool} (hB : B.length = 832) : (scEnd ep B K).Ok := by
  unfold scEnd
  exact go_ok hB 832 sc0 sc0_ok
theorem scOf_ok (x : Int) (n : Nat) (fs : List Int) (h : fs.length = n * 64) : (scOf x n fs).Ok := by
  unfold scOf
  exact end_ok (flatB_length x n fs h 16)
end Go.Proofs.YtnmplnemnfonfaaDoor
namespace Go.Proofs.YtnmplnemnfonfaaDoor
open Go.RowKit
set_option maxRecDepth 8000 in
set_option maxHeartbeats 8000000 in
theorem rdfrom_walk (x : Int) (hx : U64 x) (v : Value) (n : Nat) (fs : List Int) (hbf : isB fs) (p : Int) (W : World) (h : FS W v n fs) (hT : Tab W) :
    Calls Tryd.prog 3 #[.int .u64 x, v, .int .i64 p] W fun r w' => r = .returned (.bool true) ∧ Below W.heap.size W w' := by
  have HAW : Hid (∀ w, Below W.heap.size W w → Calls Tryd.prog 4 #[] w fun r w' => r = .returned (.bool true) ∧ Below w.heap.size w w') := Lib.hid fun w hb => rd_awake w (hT.keep hb)
  have hfl := h.length
  by_cases hbig : (n : Int) > 100
  · obtain ⟨va, vc, rfl⟩ : ∃ a c, v = .slice a n c := by obtain ⟨a, c, q, _⟩ := h; exact ⟨a, c, q⟩
    clear hx hbf h hT hfl
    go_enter Tryd.func3, Tryd.ntmps3
    go_wp2_with (first
      | (go_at_call 4; (refine (HAW.out _ (Below.refl _ _)).mono ?_); rintro r w5 ⟨rfl, hb⟩; have HB5 := Lib.hid hb; clear hb))
    go_ret
    exact ⟨rfl, HB5.out⟩
  have hB := flatB_length x n fs hfl 16
  have hBb := flatB_bytes x n fs hbf 16
  have hok := scOf_ok x n fs hfl
  have HFR : Hid (∀ w (p : Int), Below W.heap.size W w → Calls Tryd.prog 5 #[.int .u64 x, v, .int .i64 p] w (FromF (rdAt (x % 4294967296) (flatB x n fs 16) (flatK x n fs 16) p) w)) := Lib.hid fun w p hb => from_any x hx v n fs hbf w (h.keep hb) (hT.keep hb) p
  have HRR : Hid (∀ w, Below W.heap.size W w → Calls Tryd.prog 6 #[.int .u64 x, v, .int .i64 p] w (FromF (rdAt (x % 4294967296) (flatB x n fs 16) (flatK x n fs 16) p) w)) := Lib.hid fun w hb => rfrom_any x hx v n fs hbf w (h.keep hb) p
  have HQ : Hid (∀ w, Below W.heap.size W w → Calls Tryd.prog 7 #[.int .u64 x, v] w fun r w' => ∃ rv pv, r = .returned (.agg (uA rv pv ((scOf x n fs).fin : Nat) (scKind n fs (scOf x n fs).fin))) ∧ RL .u8 w' rv (scOf x n fs).recs.length (scOf x n fs).recs ∧ RI .i64 w' pv (scOf x n fs).places.length (scOf x n fs).places ∧ Below w.heap.size w w') := Lib.hid fun w hb =>
    (rscan_any x hx v n fs hbf w (h.keep hb) (by omega)).mono fun r w' ⟨rv, pv, es, h1, h2, h3, h4, h5⟩ => ⟨rv, pv, h1, h2.rl_ h3, RI.own h4, h5⟩
  have hst : Stands (x % 4294967296) (flatB x n fs 16) (flatK x n fs 16) (scOf x n fs) := stands_end hB
  have hpl : (scOf x n fs).places.length ≤ 1000 := by have h1 := hok.few; have h2 := hok.room; have h3 := hok.at_; omega
  have hfew := hok.few
  have HST : Hid (∀ i, i < (scOf x n fs).places.length → ∃ e : Nat, ∀ w, Below W.heap.size W w → Calls Tryd.prog 5 #[.int .u64 x, v, .int .i64 ((scOf x n fs).places.getD i 0)] w fun r w' =>
      ∃ y c, r = .returned (.tuple #[.slice y ((scOf x n fs).recs.getD i []).length c, .int .i64 (e : Nat), .bool true]) ∧ RI .u8 w' (.slice y ((scOf x n fs).recs.getD i []).length c) ((scOf x n fs).recs.getD i []).length ((scOf x n fs).recs.getD i []) ∧ Below w.heap.size w w') := Lib.hid fun i hi => by
    obtain ⟨q, e, h1, h2, h3, _⟩ := hst i ((scOf x n fs).recs.getD i []) ((scOf x n fs).places.getD i 0) (by simp [List.getD, show i < (scOf x n fs).recs.length by omega]) (by simp [List.getD, hi])
    refine ⟨e, fun w hb => (HFR.out w _ hb).mono fun r w' hf => ?_⟩
    rw [h1, rdAt_in h2, h3] at hf
    obtain ⟨hb2, y, c, h4, h5⟩ := hf
    exact ⟨y, c, h4, RI.own h5, hb2⟩
  obtain ⟨R, hR⟩ : ∃ R, rdAt (x % 4294967296) (flatB x n fs 16) (flatK x n fs 16) p = R := ⟨_, rfl⟩
  have HFP : Hid (∀ w, Below W.heap.size W w → Calls Tryd.prog 5 #[.int .u64 x, v, .int .i64 p] w (FromF R w)) := Lib.hid fun w hb => by
    have := HFR.out w p hb; rwa [hR] at this
  rw [hR] at HRR
  generalize scOf x n fs = S at *
  obtain ⟨kd, hkd⟩ : ∃ k, scKind n fs S.fin = k := ⟨_, rfl⟩
  rw [hkd] at HQ
  obtain ⟨va, vc, rfl⟩ : ∃ a c, v = .slice a n c := by obtain ⟨a, c, q, _⟩ := h; exact ⟨a, c, q⟩
  obtain ⟨S0, S1, S2, S3, Rs, P, F⟩ := S
  dsimp only at *
  obtain ⟨q, hq⟩ : ∃ q, P.length = q := ⟨_, rfl⟩
  rw [hq] at hfew
  rw [hfew, hq] at HQ
  rw [hq] at hpl HST
  clear hx hbf h hT hfl hok hB hBb HFR hst hR hkd hfew hq
  have hbig' : ¬ (100 : Int) < (n : Int) := hbig
  have HE : Hid (∃ (y1 : Bool) (z : List Int) (e : Nat), (∀ w, Below W.heap.size W w → Calls Tryd.prog 5 #[.int .u64 x, .slice va n vc, .int .i64 p] w fun r w' => ∃ u, r = .returned (.tuple #[u, .int .i64 (e : Nat), .bool y1]) ∧ RI .u8 w' u z.length z ∧ Below w.heap.size w w') ∧
      (∀ w, Below W.heap.size W w → Calls Tryd.prog 6 #[.int .u64 x, .slice va n vc, .int .i64 p] w fun r w' => ∃ u, r = .returned (.tuple #[u, .int .i64 (e : Nat), .bool y1]) ∧ RI .u8 w' u z.length z ∧ Below w.heap.size w w')) := Lib.hid (by
    cases R with
    | none => exact ⟨false, [], 0, fun w hb => (HFP.out w hb).mono fun r w' ⟨h1, h2⟩ => ⟨_, h2, RI.own (World.ownsRow_nil w' 0 5 1), h1⟩, fun w hb => (HRR.out w hb).mono fun r w' ⟨h1, h2⟩ => ⟨_, h2, RI.own (World.ownsRow_nil w' 0 5 1), h1⟩⟩
    | some t =>
      obtain ⟨z, e⟩ := t
      exact ⟨true, z, e, fun w hb => (HFP.out w hb).mono fun r w' ⟨h1, y, c, h2, h3⟩ => ⟨_, h2, RI.own h3, h1⟩, fun w hb => (HRR.out w hb).mono fun r w' ⟨h1, y, c, h2, h3⟩ => ⟨_, h2, RI.own h3, h1⟩⟩)
  clear HFP HRR
  obtain ⟨y1, z, e, h1, h2⟩ := HE.out
  have HF1 := Lib.hid h1
  have HF2 := Lib.hid h2
  clear h1 h2 HE
  go_enter Tryd.func3, Tryd.ntmps3
  go_wp2_with (first
    | (go_at_call 5; (refine (HF1.out _ (Below.refl _ _)).mono ?_); rintro r w1 ⟨u1, rfl, hr, hb⟩; have HR1 := Lib.hid hr; have HB1 := Lib.hid hb; clear hr hb)
    | (go_at_call 6; (refine (HF2.out _ HB1.out).mono ?_); rintro r w2 ⟨u2, rfl, hr, hb⟩; have c1 := conv_ri (HR1.out.keep hb); have c2 := conv_ri hr; have HB2 := Lib.hid (bch HB1.out hb); clear hr hb)
    | (go_at_call 7; (refine (HQ.out _ HB2.out).mono ?_); rintro r w3 ⟨rv, pv, rfl, hr, hp, hb⟩; obtain ⟨sa, sc, rfl, _⟩ := hr.form; obtain ⟨ta, tc, rfl⟩ : ∃ a c, pv = .slice a q c := (by obtain ⟨a, c, z, _⟩ := hp; exact ⟨a, c, z⟩); obtain ⟨w4, hw4⟩ : ∃ q', w3.alloc (.cells (uA (.slice sa q sc) (.slice ta q tc) (F : Int) kd) 31) = q' := ⟨_, rfl⟩; have hk4 : w4.heap[w3.heap.size]? = some (.cells (uA (.slice sa q sc) (.slice ta q tc) (F : Int) kd) 31 (0, 0)) := (by rw [← hw4]; exact heap_alloc_last w3 _); have hb4 : Below w3.heap.size w3 w4 := (by rw [← hw4]; exact balloc _ _); have HL4 := Lib.hid hk4; have HR4 := Lib.hid (hr.keep hb4); have HP4 := Lib.hid (hp.keep hb4); have HB4 := Lib.hid (bch HB2.out (bch hb hb4)); have z0 : w4.cell? ⟨w3.heap.size, 0, none⟩ = some (.slice sa q sc) := cell_of_row w4 _ 0 _ _ _ hk4; have z1 : w4.cell? ⟨w3.heap.size, 1, none⟩ = some (.slice ta q tc) := cell_of_row w4 _ 1 _ _ _ hk4; clear hr hp hb hk4 hb4))
  obtain ⟨g8, hg8⟩ : ∃ g, w3.heap.size = g := ⟨_, rfl⟩
  rw [hg8] at z0 z1
  rw [hg8]
  have HZ := Lib.hid (show w4.cell? ⟨g8, 0, none⟩ = some (.slice sa q sc) ∧ w4.cell? ⟨g8, 1, none⟩ = some (.slice ta q tc) from ⟨z0, z1⟩)
  clear z0 z1 c1 c2 hg8 HL4 HR1 HB1 HB2 HF1 HF2 HQ hw4
  go_loopw [14] (fun iv wr => ∃ i : Nat, iv = .int .i64 (i : Int) ∧ i ≤ q ∧ Hid (Below w4.heap.size w4 wr)) (fun iv _ => q - (intOf iv).toNat)
  case atStart => exact ⟨0, rfl, by omega, Lib.hid (Below.refl _ _)⟩
  case round =>
    obtain ⟨i, rfl, hi, HB⟩ := hrel
    have y0 := cell_keep HB.out HZ.out.1
    by_cases hlt : (i : Int) < (q : Int)
    · obtain ⟨b, off, rfl, hat⟩ := (HR4.out.keep HB.out).at_ (by omega)
      obtain ⟨b', off', rfl, hcell'⟩ := (HP4.out.keep HB.out).at_ (by omega)
      obtain ⟨ra, rc, hrc, hrr⟩ := hat i (by omega)
      obtain ⟨e', he'⟩ := HST.out i (by omega)
      obtain ⟨pz, hpz⟩ : ∃ z, P.getD i 0 = z := ⟨_, rfl⟩
      have y2 := hcell' i (by omega)
      rw [hpz] at y2 he'
      generalize Rs.getD i [] = rz at *
      have y1' := cell_keep HB.out HZ.out.2
      have HFR := Lib.hid he'
      have HRC := Lib.hid (show wr.cell? ⟨b, off + i, none⟩ = some (.slice ra rz.length rc) ∧ RI .u8 wr (.slice ra rz.length rc) rz.length rz from ⟨hrc, hrr⟩)
      have HBW := Lib.hid (bch HB4.out HB.out)
      clear hat hcell' hrc hrr he' hpz
      go_wp2_with (first
        | (go_at_call 5; (refine (HFR.out _ HBW.out).mono ?_); rintro r w5 ⟨ya, yc, rfl, hr5, hb5⟩; have HST5 := Lib.hid (show w5.drew.cell? ⟨g8, 0, none⟩ = some (.slice (some ⟨b, off, none⟩) q sc) ∧ w5.drew.cell? ⟨b, off + i, none⟩ = some (.slice ra rz.length rc) ∧ RI .u8 w5.drew (.slice ya rz.length yc) rz.length rz ∧ RI .u8 w5.drew (.slice ra rz.length rc) rz.length rz ∧ Below wr.heap.size wr w5.drew from ⟨cell_keep hb5.drew (cell_keep HB.out HZ.out.1), cell_keep hb5.drew HRC.out.1, hr5.keep (Below.refl _ w5).drew, HRC.out.2.keep hb5.drew, hb5.drew⟩); clear hr5 hb5))
      clear y0 y1' y2
      refine wp_region_held_drew (S := (fun w' => w'.cell? ⟨g8, 0, none⟩ = some (.slice (some ⟨b, off, none⟩) q sc) ∧ w'.cell? ⟨b, off + i, none⟩ = some (.slice ra rz.length rc) ∧ RI .u8 w' (.slice ya rz.length yc) rz.length rz ∧ RI .u8 w' (.slice ra rz.length rc) rz.length rz ∧ Below wr.heap.size wr w')) (by kernel_rfl) HST5.out (fun hS => ?_)
      refine rgw 0 ⟨some 75, .move (.tmp 17), 4, _, _, none⟩ hS ?_
      refine rgw 1 ⟨some 76, .unOp .not 4 (.tmp 75), 4, _, _, none⟩ hS ?_
      refine rgw 2 ⟨some 77, .move (.tmp 76), 4, _, _, none⟩ hS ?_
      refine rgw 3 ⟨some 78, .move (.tmp 15), 25, _, _, some (2, false)⟩ hS ?_
      refine rgw 4 ⟨some 79, .convert 25 9 (.tmp 78), 9, _, _, some (2, false)⟩ hS ?_ (hy := by intro w hSw; (try dsimp only at hSw); have hq := conv_ri hSw.2.2.1; go_simp; try with_reducible rfl)
      refine rgw 5 ⟨some 80, .fieldAddr 31 (.tmp 13) 0, 0, _, _, some (2, false)⟩ hS ?_
      refine rgw 6 ⟨some 81, .load 28 (.tmp 80), 28, _, _, some (2, false)⟩ hS ?_
      refine rgw 7 ⟨some 82, .move (.tmp 14), 3, _, _, some (2, false)⟩ hS ?_
      refine rgw 8 ⟨some 83, .indexAddr 28 (.tmp 81) (.tmp 82), 0, _, _, some (2, false)⟩ hS ?_
      refine rgw 9 ⟨some 84, .load 25 (.tmp 83), 25, _, _, some (2, false)⟩ hS ?_
      refine rgw 10 ⟨some 85, .convert 25 9 (.tmp 84), 9, _, _, some (2, false)⟩ hS ?_ (hy := by intro w hSw; (try dsimp only at hSw); have hq := conv_ri hSw.2.2.2.1; go_simp; try with_reducible rfl)
      refine rgw 11 ⟨some 86, .binOp .neq 9 (.tmp 79) (.tmp 85) 9, 4, _, _, some (2, false)⟩ hS ?_
      refine rgw 12 ⟨some 87, .pick (.tmp 77) (.const (.bool true)) (.tmp 86), 4, _, _, none⟩ hS ?_
      refine wpAnyH_done (by kernel_rfl) ?_ _
      have HB5 := Lib.hid (bch HB.out hS.2.2.2.2)
      clear hS
      go_wp2
      go_roundw
      case rel => exact ⟨i + 1, by go_num, by omega, HB5⟩
      case measure => simp [intOf]; omega
    · have HBW := Lib.hid (bch HB4.out HB.out)
      go_wp2_with (first
        | (go_at_call 4; (refine (HAW.out _ HBW.out).mono ?_); rintro r w8 ⟨rfl, hb⟩; have HB8 := Lib.hid (bch HBW.out hb); clear hb))
      go_ret
      exact ⟨rfl, HB8.out⟩
end Go.Proofs.YtnmplnemnfonfaaDoor
