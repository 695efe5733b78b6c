/-
  WHAT Scan OF THE REFERENCE OF LAYER 19 ANSWERS, of any sectors by any epoch. (Written by wip/gen/g33.py.)
-/
import Derived.Test.YthickhfbllddjaaDoorScanAcc
import Derived.Test.YthickhfbllddjaaDoorScanRestR
import Derived.Test.YthickhfbllddjaaDoorJ1
import Derived.Test.YthickhfbllddjaaDoorPlanRefF
import Derived.Test.YthickhfbllddjaaDoorJoinRefF
import Derived.Test.YthickhfbllddjaaDoorJ5
namespace Go.Proofs.YthickhfbllddjaaDoor
open Go.RowKit
theorem Tryd.info_pl : (Tryd.prog.info? 3).map (fun i => (i.zero, i.size, i.bytes)) = some (some (.int .i64 0), 1, 8) := by kernel_rfl
theorem ri_pl1 (w : World) (x : Int) : RI .i64 (w.alloc (.cells #[.int .i64 x] 3)) (.slice (some ⟨w.heap.size, 0, none⟩) 1 1) 1 [x] := by
  refine ⟨_, 1, rfl, rfl, Nat.le_refl _, by omega, fun h => by simp at h, fun _ => ⟨w.heap.size, 0, rfl, fun j hj => ?_⟩⟩
  obtain rfl : j = 0 := by omega
  rw [Nat.zero_add, cell_of_row _ w.heap.size 0 _ _ _ (heap_alloc_last w _)]
  rfl
section
variable {w : World} {b : Nat} {o' : Bool} {v : Value}
theorem wpl_load_ko {ops : Array Oper} {rest : List Oper} {o : Oper} {a : Act} {Q : Exit → Act → World → Prop} (hgd : o.guard = none) (x : Operand) (ho : o.op = .load 61 x) (hx : a.eval x = .pointer (some ⟨b, 0, none⟩)) (h : KO w b o' v)
    (hk : wpList Tryd.prog ops Q rest (a.put o.dst (.agg (kA o' v))) w) : wpList Tryd.prog ops Q (o :: rest) a w :=
  wpList_load_row hgd 61 x ho b hx _ (kA o' v) (0, 0) _ h Tryd.underlying61 rfl (kj_info _ _) hk
theorem KO.alloc (w : World) : KO (w.alloc (.cells (kA o' v) 61)) w.heap.size o' v := heap_alloc_last w _
theorem KO.apart {b' : Nat} (h : KO w b o' v) (hne : b ≠ b') (x : Array Value) : KO (w.setRow b' x) b o' v := (setRow_other w b' b x hne).trans h
end
/-- what is told, in a block -/
abbrev uA (rv pv : Value) (e k : Int) : Array Value := #[rv, pv, .int .i64 e, .int .i64 k]
theorem ut_info (c : Array Value) (h : c.size = 4) : (Tryd.prog.info? 30).map (·.size) = some c.size := by rw [h]; kernel_rfl
theorem ut_one (a1 a2 : Option Addr) (n1 c1 n2 c2 : Nat) (e k : Int) : (uA (.slice a1 n1 c1) (.slice a2 n2 c2) e k).all (·.oneCell') = true := by simp [uA, Value.oneCell']
/-- a row of another kind lies elsewhere -/
theorem blk_ne_own {w : World} {g : Nat} {c : Array Value} {t t' : TypeId} (hg : w.heap[g]? = some (.cells c t (0, 0))) {base n k : Nat} {u : Value} {xs : List Value} (ho : w.ownsRow base t' k u n xs) (ht : t' ≠ t) : ∀ q, u.ownBlock = some q → q ≠ g := by
  rintro q hq rfl
  rcases ho.2 with ⟨rfl, _⟩ | ⟨q', cap, cur, rfl, _, hcur, _⟩
  · simp [Value.ownBlock] at hq
  · simp only [Value.ownBlock, Option.some.injEq] at hq
    subst hq
    rw [hg] at hcur
    simp only [Option.some.injEq, Obj.cells.injEq] at hcur
    exact ht hcur.2.1.symm
theorem blk_grown {w w' : World} {g : Nat} {c : Array Value} {t t' : TypeId} (hg : w.heap[g]? = some (.cells c t (0, 0))) {base n k : Nat} {u : Value} {xs : List Value} (ho : w.ownsRow base t' k u n xs) (ht : t' ≠ t) (h : w.grownBy w' u.ownBlock) : w'.heap[g]? = some (.cells c t (0, 0)) :=
  (h.block g (Array.getElem?_eq_some_iff.1 hg).1 (fun q => blk_ne_own hg ho ht g q.symm rfl)).trans hg
theorem blk_ne {w : World} {g g' : Nat} {c c' : Array Value} {t t' : TypeId} (hg : w.heap[g]? = some (.cells c t (0, 0))) (hg' : w.heap[g']? = some (.cells c' t' (0, 0))) (ht : t ≠ t') : g ≠ g' := by
  rintro rfl
  rw [hg] at hg'
  simp only [Option.some.injEq, Obj.cells.injEq] at hg'
  exact ht hg'.2.1
theorem grn_row (w : World) (g : Nat) (c : Array Value) : w.grownBy (w.setRow g c) (some g) := ⟨rfl, rfl, rfl, by simp, fun i _ hne => setRow_other w g i c (fun e => hne (by rw [e]))⟩
theorem grn_cell (w : World) (g j : Nat) (v : Value) : w.grownBy (w.setCell ⟨g, j, none⟩ v) (some g) := ⟨rfl, rfl, rfl, by simp, fun i _ hne => heap_setCell_other w ⟨g, j, none⟩ i v (fun e => hne (by rw [e]))⟩
/-- where the reference's Scan stands -/
structure RX (W w : World) (rb jb e : Nat) (k : Int) (o : Bool) (h : List Int) (hv rv : Value) (es : List (List Int × Value)) (pv : Value) (ps : List Int) : Prop where
  blk : w.heap[rb]? = some (.cells (uA rv pv e k) 30 (0, 0))
  low : W.heap.size ≤ rb
  jlow : W.heap.size ≤ jb
  jn : KO w jb o hv
  row : w.ownsRow W.heap.size 5 1 hv h.length (il .u8 h)
  few : h.length ≤ 512
  recs : SR W.heap.size w rv es.length es (.slice none 0 0)
  places : w.ownsRow W.heap.size 3 1 pv ps.length (il .i64 ps)
  below : Below W.heap.size W w
section
variable {W w w' : World} {rb jb e : Nat} {k : Int} {o o' : Bool} {h h' : List Int} {hv hv' rv rv' pv pv' : Value} {es es' : List (List Int × Value)} {ps ps' : List Int}
theorem RX.keep (c : RX W w rb jb e k o h hv rv es pv ps) (hb : Below w.heap.size w w') : RX W w' rb jb e k o h hv rv es pv ps :=
  ⟨(hb.block rb (Array.getElem?_eq_some_iff.1 c.blk).1).trans c.blk, c.low, c.jlow, c.jn.keep hb, own_keep c.row hb, c.few, c.recs.keep hb, own_keep c.places hb, bch c.below hb⟩
theorem RX.cells (c : RX W w rb jb e k o h hv rv es pv ps) : w.cell? ⟨rb, 0, none⟩ = some rv ∧ w.cell? ⟨rb, 1, none⟩ = some pv ∧ w.cell? ⟨rb, 2, none⟩ = some (.int .i64 e) ∧ w.cell? ⟨rb, 3, none⟩ = some (.int .i64 k) :=
  ⟨cell_of_row w rb 0 _ _ _ c.blk, cell_of_row w rb 1 _ _ _ c.blk, cell_of_row w rb 2 _ _ _ c.blk, cell_of_row w rb 3 _ _ _ c.blk⟩
theorem RX.frozen (c : RX W w rb jb e k o h hv rv es pv ps) (j : Nat) : w.frozen? ⟨rb, j, none⟩ = false := Joins.unfrozen_of_block c.blk j
/-- the block of what is told alone is turned -/
theorem RX.turn (c : RX W w rb jb e k o h hv rv es pv ps) (hg : w.grownBy w' (some rb)) {e' : Nat} {k' : Int} (hs : w'.heap[rb]? = some (.cells (uA rv pv e' k') 30 (0, 0))) : RX W w' rb jb e' k' o h hv rv es pv ps := by
  have hne : ∀ {base n q : Nat} {t : TypeId} {u : Value} {xs : List Value}, w.ownsRow base t q u n xs → t ≠ 30 → w'.ownsRow base t q u n xs := fun ho ht =>
    own_over ho hg (fun q hq x => blk_ne_own c.blk ho ht q hq (Option.some.inj x))
  exact ⟨hs, c.low, c.jlow, (hg.block jb c.jn.lt (fun x => blk_ne c.jn c.blk (by decide) (Option.some.inj x))).trans c.jn, hne c.row (by decide), c.few, ⟨hne c.recs.row (by decide), fun x hx => hne (c.recs.data x hx) (by decide), c.recs.apart⟩, hne c.places (by decide),
    c.below.grown hg c.below.size (fun q hq => by cases hq; exact c.low)⟩
theorem RX.set2 (c : RX W w rb jb e k o h hv rv es pv ps) (x : Nat) : RX W (w.setCell ⟨rb, 2, none⟩ (.int .i64 (x : Int))) rb jb x k o h hv rv es pv ps := c.turn (grn_cell _ _ _ _) (Joins.block_setCell c.blk _)
theorem RX.set3 (c : RX W w rb jb e k o h hv rv es pv ps) (x : Int) : RX W (w.setCell ⟨rb, 3, none⟩ (.int .i64 x)) rb jb e x o h hv rv es pv ps := c.turn (grn_cell _ _ _ _) (Joins.block_setCell c.blk _)
/-- the joiner is another one -/
theorem RX.join (c : RX W w rb jb e k o h hv rv es pv ps) (hr : w.ownsRow W.heap.size 5 1 hv' h'.length (il .u8 h')) (hf : h'.length ≤ 512) : RX W (w.setRow jb (kA o' hv')) rb jb e k o' h' hv' rv es pv ps := by
  have hg := grn_row w jb (kA o' hv')
  have hne : ∀ {base n q : Nat} {t : TypeId} {u : Value} {xs : List Value}, w.ownsRow base t q u n xs → t ≠ 61 → (w.setRow jb (kA o' hv')).ownsRow base t q u n xs := fun ho ht =>
    own_over ho hg (fun q hq x => blk_ne_own c.jn ho ht q hq (Option.some.inj x))
  exact ⟨(hg.block rb (Array.getElem?_eq_some_iff.1 c.blk).1 (fun x => blk_ne c.blk c.jn (by decide) (Option.some.inj x))).trans c.blk, c.low, c.jlow, c.jn.row o' hv', hne hr (by decide), hf, ⟨hne c.recs.row (by decide), fun x hx => hne (c.recs.data x hx) (by decide), c.recs.apart⟩, hne c.places (by decide),
    c.below.grown hg c.below.size (fun q hq => by cases hq; exact c.jlow)⟩
/-- the list of records has grown -/
theorem RX.more (c : RX W w rb jb e k o h hv rv es pv ps) (hg : w.grownBy w' rv.ownBlock) (hr : SR W.heap.size w' rv' es'.length es' (.slice none 0 0)) : RX W (w'.setCell ⟨rb, 0, none⟩ rv') rb jb e k o h hv rv' es' pv ps := by
  have hs := blk_grown c.blk c.recs.row (by decide) hg
  have hj : KO w' jb o hv := blk_grown c.jn c.recs.row (by decide) hg
  have hp := c.recs.other hg c.places (by decide)
  have hr2 := c.recs.other hg c.row (by decide)
  have hb : Below W.heap.size W w' := c.below.grown hg c.below.size (fun q hq => (c.recs.row.lt q hq).1)
  have hg2 := grn_cell w' rb 0 rv'
  have hne : ∀ {base n q : Nat} {t : TypeId} {u : Value} {xs : List Value}, w'.ownsRow base t q u n xs → t ≠ 30 → (w'.setCell ⟨rb, 0, none⟩ rv').ownsRow base t q u n xs := fun ho ht =>
    own_over ho hg2 (fun q hq x => blk_ne_own hs ho ht q hq (Option.some.inj x))
  exact ⟨Joins.block_setCell hs _, c.low, c.jlow, (hg2.block jb hj.lt (fun x => blk_ne hj hs (by decide) (Option.some.inj x))).trans hj, hne hr2 (by decide), c.few, ⟨hne hr.row (by decide), fun x hx => hne (hr.data x hx) (by decide), hr.apart⟩, hne hp (by decide),
    hb.grown hg2 hb.size (fun q hq => by cases hq; exact c.low)⟩
/-- the list of places has grown -/
theorem RX.more1 (c : RX W w rb jb e k o h hv rv es pv ps) (hg : w.grownBy w' pv.ownBlock) (hp : w'.ownsRow W.heap.size 3 1 pv' ps'.length (il .i64 ps')) : RX W (w'.setCell ⟨rb, 1, none⟩ pv') rb jb e k o h hv rv es pv' ps' := by
  have hs := blk_grown c.blk c.places (by decide) hg
  have hj : KO w' jb o hv := blk_grown c.jn c.places (by decide) hg
  have hne1 : ∀ {base n q : Nat} {t : TypeId} {u : Value} {xs : List Value}, w.ownsRow base t q u n xs → t ≠ 3 → w'.ownsRow base t q u n xs := fun ho ht => own_over ho hg (own_types ho c.places ht)
  have hb : Below W.heap.size W w' := c.below.grown hg c.below.size (fun q hq => (c.places.lt q hq).1)
  have hg2 := grn_cell w' rb 1 pv'
  have hne : ∀ {base n q : Nat} {t : TypeId} {u : Value} {xs : List Value}, w'.ownsRow base t q u n xs → t ≠ 30 → (w'.setCell ⟨rb, 1, none⟩ pv').ownsRow base t q u n xs := fun ho ht =>
    own_over ho hg2 (fun q hq x => blk_ne_own hs ho ht q hq (Option.some.inj x))
  exact ⟨Joins.block_setCell hs _, c.low, c.jlow, (hg2.block jb hj.lt (fun x => blk_ne hj hs (by decide) (Option.some.inj x))).trans hj, hne (hne1 c.row (by decide)) (by decide), c.few, ⟨hne (hne1 c.recs.row (by decide)) (by decide), fun x hx => hne (hne1 (c.recs.data x hx) (by decide)) (by decide), c.recs.apart⟩, hne hp (by decide),
    hb.grown hg2 hb.size (fun q hq => by cases hq; exact c.low)⟩
end
/-- where its round stands, beside the state -/
def RS (W w : World) (rb jb : Nat) (s : SS) : Prop := ∃ hv rv es pv, RX W w rb jb s.fin 0 s.o s.h hv rv es pv s.places ∧ es.map Prod.fst = s.recs
/-- what the reference's Scan leaves -/
def RScanF (n : Nat) (fs : List Int) (S : SS) (w : World) (r : Ending) (w' : World) : Prop :=
  ∃ rv pv es, r = .returned (.agg (uA rv pv (S.fin : Nat) (scKind n fs S.fin))) ∧ SR w.heap.size w' rv es.length es (.slice none 0 0) ∧ es.map Prod.fst = S.recs ∧ w'.ownsRow w.heap.size 3 1 pv S.places.length (il .i64 S.places) ∧ Below w.heap.size w w'
set_option maxRecDepth 8000 in
set_option maxHeartbeats 16000000 in
theorem rscan_any (x : Int) (hx : U64 x) (v : Value) (n : Nat) (fs : List Int) (hbf : isB fs) (w : World) (h : FS w v n fs) (hn : n ≤ 1000000) :
    Calls Tryd.prog 8 #[.int .u64 x, v] w (RScanF n fs (scEnd (x % 4294967296) (flatB x n fs 16) (flatK x n fs 16)) w) := by
  obtain ⟨wa, hwa⟩ : ∃ q, w.alloc (.cells (uA (.slice none 0 0) (.slice none 0 0) 0 0) 30) = q := ⟨_, rfl⟩
  have hba : Below w.heap.size w wa := by rw [← hwa]; exact balloc w _
  have HBA := Lib.hid hba
  have HRA : Hid (wa.heap[w.heap.size]? = some (.cells (uA (.slice none 0 0) (.slice none 0 0) 0 0) 30 (0, 0))) := Lib.hid (by rw [← hwa]; exact heap_alloc_last w _)
  have HFL := Lib.hid (rflat_any x hx v n fs wa (h.keep hba))
  have hfl := h.length
  have hB : (flatB x n fs 16).length = 832 := flatB_length x n fs hfl 16
  have hBb : isB (flatB x n fs 16) := by
    have hz : ∀ k, isB (flatB x n fs k) := fun k => by
      induction k with
      | zero => exact isB.nil
      | succ k ih =>
        have hr : isB (roomAt x n fs k) := by
          unfold roomAt
          split
          · exact ((hbf.drop _).take _).drop _
          · intro y hy; have := List.eq_of_mem_replicate hy; omega
        unfold flatB
        exact ih.append hr
    exact hz 16
  have HFS := Lib.hid (h.keep hba)
  have HREA : Hid (∀ fin : Nat, fin ≤ 832 → ∀ w, FS w v n fs → Calls Tryd.prog 11 #[v, .int .i64 fin] w fun r w' => r = .returned (.bool (restB n fs fin)) ∧ Below w.heap.size w w') := Lib.hid fun fin hf w h => by
    have := rrest_any v n fs (fin : Int) (by unfold I63; omega) w h hn; rwa [nr_nat fin hf] at this
  obtain ⟨B, hBe⟩ : ∃ B, flatB x n fs 16 = B := ⟨_, rfl⟩
  obtain ⟨K, hKe⟩ : ∃ K, flatK x n fs 16 = K := ⟨_, rfl⟩
  rw [hBe, hKe] at HFL
  rw [hBe] at hB hBb
  rw [hBe, hKe]
  obtain ⟨ep, hep⟩ : ∃ e, x % 4294967296 = e := ⟨_, rfl⟩
  have HACC : Hid (∀ (bv kv : Value) (w : World) (a : Nat), RI .u8 w bv 832 B → BS w kv 16 K → (a = 832 ∨ a + 11 ≤ 832) → Calls Tryd.prog 21 #[.int .u64 x, bv, kv, .int .i64 a] w (AccF (scF ep B K a) w)) := Lib.hid fun bv kv w a h1 h2 h3 => by
    have := racc_any x hx bv kv B K w hB hBb h1 h2 a h3; rwa [hep] at this
  rw [hep]
  obtain ⟨va, vc, rfl⟩ : ∃ a c, v = .slice a n c := by obtain ⟨a, c, q, _⟩ := h; exact ⟨a, c, q⟩
  have HWA : Hid (w.heap.size < wa.heap.size) := Lib.hid (by rw [← hwa, alloc_size]; omega)
  have HBL := Lib.hid hB
  clear hx hbf h hba hfl hB hBb hep hBe hKe
  go_enter Tryd.func8, Tryd.ntmps8
  go_wp2_with (first
    | (go_at_call 19; (refine HFL.out.mono ?_); rintro r W ⟨bv, kv, rfl, hbv, hkv, hbw⟩; have HBV := Lib.hid hbv; have HKV := Lib.hid hkv; have HBW := Lib.hid hbw; clear hbv hkv hbw))
  obtain ⟨w0, hw0⟩ : ∃ q, (W.alloc (.cells (uA (.slice none 0 0) (.slice none 0 0) 0 0) 30)).alloc (.cells (kA false (.slice none 0 0)) 61) = q := ⟨_, rfl⟩
  have hz1 : (W.alloc (.cells (uA (.slice none 0 0) (.slice none 0 0) 0 0) 30)).heap.size = W.heap.size + 1 := alloc_size W _
  have HX0 : Hid (RX W w0 W.heap.size (W.heap.size + 1) 0 0 false [] (.slice none 0 0) (.slice none 0 0) [] (.slice none 0 0) []) := Lib.hid ⟨by
      rw [← hw0]; exact ((balloc (W.alloc (.cells (uA (.slice none 0 0) (.slice none 0 0) 0 0) 30)) _).block W.heap.size (by rw [hz1]; omega)).trans (heap_alloc_last W _), Nat.le_refl _, by omega, by rw [← hw0, ← hz1]; exact KO.alloc _, World.ownsRow_nil _ _ _ _, by simp, SR.nil _ _ _, World.ownsRow_nil _ _ _ _, by rw [← hw0]; exact bch (balloc W _) (balloc _ _)⟩
  rw [hw0]
  obtain ⟨rb, hrb⟩ : ∃ g, W.heap.size = g := ⟨_, rfl⟩
  have HX0' : Hid (RX W w0 rb (rb + 1) 0 0 false [] (.slice none 0 0) (.slice none 0 0) [] (.slice none 0 0) []) := Lib.hid (hrb ▸ HX0.out)
  obtain ⟨jb, hjb⟩ : ∃ g, W.heap.size + 1 = g := ⟨_, rfl⟩
  have HX00 : Hid (RX W w0 rb jb 0 0 false [] (.slice none 0 0) (.slice none 0 0) [] (.slice none 0 0) []) := Lib.hid (by rw [← hjb, hrb]; exact HX0'.out)
  rw [hjb, hrb]
  clear hw0 hz1 HX0 HX0' hrb hjb HFL
  go_loopw [9, 10] (fun av fv wr => ∃ s : SS, Hid (OnWay ep B K s) ∧ av = .int .i64 (s.at_ : Int) ∧ fv = .int .i64 (s.first : Int) ∧ Hid (RS W wr rb jb s)) (fun av _ _ => 832 - (intOf av).toNat)
  case atStart => exact ⟨sc0, Lib.hid onway_0, rfl, rfl, Lib.hid ⟨_, _, [], _, HX00.out, rfl⟩⟩
  case round =>
    obtain ⟨⟨at0, first, o, h, recs, places, fin⟩, HO, rfl, rfl, HRS⟩ := hrel
    dsimp only at *
    obtain ⟨hv, rv, es, pv, hc, hes0⟩ := HRS.out
    dsimp only at hc hes0
    have hs := HO.out.1
    have ha0 : at0 ≤ 832 := hs.at_
    have hroom : 11 * recs.length ≤ at0 := hs.room
    have hfew : recs.length = places.length := hs.few
    have hesl : es.length = recs.length := by rw [← hes0, List.length_map]
    have hes : es.length ≤ 1000 := by omega
    have hpl : places.length ≤ 1000 := by omega
    have HFIN : Hid (fin ≤ 832) := Lib.hid hs.fin
    obtain ⟨ra, rc, rfl⟩ := own_form hc.recs.row
    obtain ⟨pa, pc, rfl⟩ := own_form hc.places
    obtain ⟨ha, hcc, rfl⟩ := own_form hc.row
    have HX := Lib.hid hc
    have HES := Lib.hid hes0
    have HNXF : ∀ f m, scF ep B K (beginN at0) = (f, m) → (m = 0 ∨ jErr o h f.kind f.data ≠ 0) → scNext ep B K ⟨at0, first, o, h, recs, places, fin⟩ = none := fun f m e q => scNext_none (by dsimp only; rw [e]; exact q)
    have HNXT : ∀ f m, scF ep B K (beginN at0) = (f, m) → m ≠ 0 → jErr o h f.kind f.data = 0 → scNext ep B K ⟨at0, first, o, h, recs, places, fin⟩ = some (scStep ⟨at0, first, o, h, recs, places, fin⟩ f m) := fun f m e q1 q2 => by
      have := scNext_some (ep := ep) (B := B) (K := K) (s := ⟨at0, first, o, h, recs, places, fin⟩) (by dsimp only; rw [e]; exact q1) (by dsimp only; rw [e]; exact q2)
      dsimp only at this
      rw [e] at this
      exact this
    have HSE : ∀ f m, jEnds o h f.kind f.data = true → scStep ⟨at0, first, o, h, recs, places, fin⟩ f m = ⟨beginN at0 + m, if o = true then first else beginN at0, jGoes o h f.kind f.data, jHad o h f.kind f.data, recs ++ [jTell o h f.kind f.data], places ++ [(((if o = true then first else beginN at0) : Nat) : Int)], beginN at0 + m⟩ := fun f m q => by unfold scStep scFirst; dsimp only; rw [q]; rfl
    have HSG : ∀ f m, jEnds o h f.kind f.data = false → scStep ⟨at0, first, o, h, recs, places, fin⟩ f m = ⟨beginN at0 + m, if o = true then first else beginN at0, jGoes o h f.kind f.data, jHad o h f.kind f.data, recs, places, fin⟩ := fun f m q => by unfold scStep scFirst; dsimp only; rw [q]; rfl
    have hble := begin_le at0 ha0
    have hb11 : beginN at0 = 832 ∨ beginN at0 + 11 ≤ 832 := by
      rcases begin_room at0 ha0 with q | ⟨q, _⟩
      · exact .inl q
      · have := left_le (beginN at0) hble; exact .inr (by omega)
    have hbge : at0 ≤ beginN at0 := by unfold beginN; split <;> omega
    have HBG : Hid (∀ w, Calls Tryd.prog 20 #[.int .i64 at0] w fun e w' => e = .returned (.int .i64 (beginN at0 : Int)) ∧ w = w') := Lib.hid fun w => by
      have := rbegin_any (at0 : Int) (by unfold I63; omega) w
      rw [nr_nat at0 ha0] at this
      exact this.mono fun r w' ⟨h1, h2⟩ => ⟨h1, h2.symm⟩
    obtain ⟨a, hab⟩ : ∃ a, beginN at0 = a := ⟨_, rfl⟩
    rw [hab] at hble HBG HNXF HNXT HSE HSG hb11 hbge
    obtain ⟨⟨⟨k, e, d⟩, m⟩, hF⟩ : ∃ F, scF ep B K a = F := ⟨_, rfl⟩
    have HAC : Hid (∀ w', Below wr.heap.size wr w' → Calls Tryd.prog 21 #[.int .u64 x, bv, kv, .int .i64 a] w' fun r w'' => ∃ p c, r = .returned (.tuple #[.agg (fA k e (.slice p d.length c)), .int .i64 (m : Int)]) ∧ w''.ownsRow w'.heap.size 5 1 (.slice p d.length c) d.length (il .u8 d) ∧ Below w'.heap.size w' w'') := Lib.hid fun w' hb => by
      have := HACC.out bv kv w' a (HBV.out.keep (bch hc.below hb)) (HKV.out.kin (Kin.below (bch hc.below hb))) hb11
      rw [hF] at this
      exact this
    have hsz : ∀ hm : m ≠ 0, a + m ≤ 832 ∧ d.length ≤ 197 ∧ 11 ≤ m := fun hm => by
      obtain ⟨_, _, h3, _, h5⟩ := scF_some (ep := ep) (B := B) (K := K) (a := a) (by rw [hF]; exact hm)
      have hp := scD_parts HBL.out hble h3
      rw [hF] at h5
      simp only [Prod.mk.injEq] at h5
      rw [← h5.1, ← h5.2] at hp
      exact ⟨hp.2.2.1, hp.2.2.2.2, hp.1⟩
    by_cases hm : m = 0
    · have HSTP := Lib.hid (HO.out.stop (HNXF _ _ hF (.inl hm)))
      subst hm
      clear HNXF HNXT HSE HSG hF hsz hc hes0 hs hroom hfew hesl hab hble hb11 HRS HO hbge HX00
      have HRE0 := HREA.out fin HFIN.out
      obtain ⟨y, hy⟩ : ∃ y, restB n fs fin = y := ⟨_, rfl⟩
      rw [hy] at HRE0
      have HRE := Lib.hid HRE0
      have HKD : Hid (scKind n fs fin = if y = true then 1 else 2) := Lib.hid (by unfold scKind; rw [hy])
      clear HRE0 hy
      cases y with
      | true =>
        go_wp2_with (first
          | (go_at_call 20; (with_reducible refine (HBG.out _).mono ?_); rintro r w1 ⟨rfl, rfl⟩)
          | (go_at_call 21; (refine (HAC.out _ (Below.refl _ _)).mono ?_); rintro r w2 ⟨p2, c2, rfl, ho2, hb2⟩; have HX2 := Lib.hid (HX.out.keep hb2); clear ho2 hb2)
          | (refine wpl_put_fr rfl (.tmp 11) (.tmp 33) rfl w2.heap.size (FO.alloc w2) k e p2 d.length c2 rfl rfl ?_; intro w3 HF3 HG3; have hb3 : Below w2.heap.size w2 w3 := below_over (balloc w2 _) HG3.out (Nat.le_refl _) (balloc w2 _).size; have HX3 := Lib.hid (HX2.out.keep hb3); clear hb3 HX2; obtain ⟨_, _, z2, z3⟩ := HX3.out.cells; have f3 := HX3.out.frozen 3; obtain ⟨w4, hw4⟩ : ∃ q, w3.setCell ⟨rb, 3, none⟩ (.int .i64 2) = q := ⟨_, rfl⟩; have HX4 := Lib.hid (show RX _ w4 _ _ _ _ _ _ _ _ _ _ _ from by rw [← hw4]; exact HX3.out.set3 2); have y2 := HX4.out.cells.2.2.1; clear HX3)
          | (go_at_call 11; (refine (HRE.out _ (HFS.out.keep (bch HBW.out HX4.out.below))).mono ?_); rintro r w16 ⟨rfl, hb⟩; have HX16 := Lib.hid (HX4.out.keep hb); have z316 := HX16.out.cells.2.2.2; have f316 := HX16.out.frozen 3; clear hb; obtain ⟨w18, hw18⟩ : ∃ q, w16.setCell ⟨rb, 3, none⟩ (.int .i64 1) = q := ⟨_, rfl⟩; have HX18 := Lib.hid (show RX _ w18 _ _ _ _ _ _ _ _ _ _ _ from by rw [← hw18]; exact HX16.out.set3 1))
          | (refine wpList_load_row rfl 30 (.tmp 7) rfl rb rfl _ (uA (.slice ra es.length rc) (.slice pa places.length pc) fin 1) (0, 0) _ HX18.out.blk Tryd.underlying30 rfl (ut_info _ rfl) ?_)
          | (refine wpList_store_row rfl 30 _ _ rfl w.heap.size (uA (.slice ra es.length rc) (.slice pa places.length pc) fin 1) rfl rfl _ _ (((bch HBW.out HX18.out.below).block _ HWA.out).trans HRA.out) (ut_info _ rfl) rfl (ut_one _ _ _ _ _ _ _ _) ?_))
        refine bodyPost_ret_by (v := .agg (uA (.slice ra es.length rc) (.slice pa places.length pc) fin 1)) (results_cell_row rfl _ _ w.heap.size _ (uA (.slice ra es.length rc) (.slice pa places.length pc) fin 1) (0, 0) _ rfl (setRow_heap _ _ _ _ _ _ (((bch HBW.out HX18.out.below).block _ HWA.out).trans HRA.out)) Tryd.underlying30 rfl (ut_info _ rfl)) rfl ?_
        have hz : w.heap.size ≤ W.heap.size := Nat.le_trans (Nat.le_of_lt HWA.out) HBW.out.size
        have hne : ∀ {base n q : Nat} {t : TypeId} {u : Value} {xs : List Value}, W.heap.size ≤ base → w18.ownsRow base t q u n xs → (w18.setRow w.heap.size (uA (.slice ra es.length rc) (.slice pa places.length pc) fin 1)).ownsRow base t q u n xs := fun hbs ho =>
          own_over ho (grn_row w18 w.heap.size _) (fun g hg x => by have h1 := (ho.lt g hg).1; have h2 := HBW.out.size; have h3 := HWA.out; have h4 := Option.some.inj x; omega)
        have HSTQ := HSTP.out
        rw [← HSTQ]
        exact ⟨_, _, es, by show _ = Ending.returned (.agg (uA _ _ (fin : Nat) (scKind n fs fin))); rw [HKD.out]; rfl, ⟨own_mono (hne (Nat.le_refl _) HX18.out.recs.row) hz, fun x hx => own_mono (hne (Nat.le_refl _) (HX18.out.recs.data x hx)) hz, HX18.out.recs.apart⟩, HES.out, own_mono (hne (Nat.le_refl _) HX18.out.places) hz, brow (bch HBA.out (bch HBW.out HX18.out.below)) (Nat.le_refl _) (Nat.le_refl _) _⟩
      | false =>
        go_wp2_with (first
          | (go_at_call 20; (with_reducible refine (HBG.out _).mono ?_); rintro r w1 ⟨rfl, rfl⟩)
          | (go_at_call 21; (refine (HAC.out _ (Below.refl _ _)).mono ?_); rintro r w2 ⟨p2, c2, rfl, ho2, hb2⟩; have HX2 := Lib.hid (HX.out.keep hb2); clear ho2 hb2)
          | (refine wpl_put_fr rfl (.tmp 11) (.tmp 33) rfl w2.heap.size (FO.alloc w2) k e p2 d.length c2 rfl rfl ?_; intro w3 HF3 HG3; have hb3 : Below w2.heap.size w2 w3 := below_over (balloc w2 _) HG3.out (Nat.le_refl _) (balloc w2 _).size; have HX3 := Lib.hid (HX2.out.keep hb3); clear hb3 HX2; obtain ⟨_, _, z2, z3⟩ := HX3.out.cells; have f3 := HX3.out.frozen 3; obtain ⟨w4, hw4⟩ : ∃ q, w3.setCell ⟨rb, 3, none⟩ (.int .i64 2) = q := ⟨_, rfl⟩; have HX4 := Lib.hid (show RX _ w4 _ _ _ _ _ _ _ _ _ _ _ from by rw [← hw4]; exact HX3.out.set3 2); have y2 := HX4.out.cells.2.2.1; clear HX3)
          | (go_at_call 11; (refine (HRE.out _ (HFS.out.keep (bch HBW.out HX4.out.below))).mono ?_); rintro r w16 ⟨rfl, hb⟩; have HX16 := Lib.hid (HX4.out.keep hb); have z316 := HX16.out.cells.2.2.2; have f316 := HX16.out.frozen 3; clear hb; have HX18 := HX16)
          | (refine wpList_load_row rfl 30 (.tmp 7) rfl rb rfl _ (uA (.slice ra es.length rc) (.slice pa places.length pc) fin 2) (0, 0) _ HX18.out.blk Tryd.underlying30 rfl (ut_info _ rfl) ?_)
          | (refine wpList_store_row rfl 30 _ _ rfl w.heap.size (uA (.slice ra es.length rc) (.slice pa places.length pc) fin 2) rfl rfl _ _ (((bch HBW.out HX18.out.below).block _ HWA.out).trans HRA.out) (ut_info _ rfl) rfl (ut_one _ _ _ _ _ _ _ _) ?_))
        refine bodyPost_ret_by (v := .agg (uA (.slice ra es.length rc) (.slice pa places.length pc) fin 2)) (results_cell_row rfl _ _ w.heap.size _ (uA (.slice ra es.length rc) (.slice pa places.length pc) fin 2) (0, 0) _ rfl (setRow_heap _ _ _ _ _ _ (((bch HBW.out HX18.out.below).block _ HWA.out).trans HRA.out)) Tryd.underlying30 rfl (ut_info _ rfl)) rfl ?_
        have hz : w.heap.size ≤ W.heap.size := Nat.le_trans (Nat.le_of_lt HWA.out) HBW.out.size
        have hne : ∀ {base n q : Nat} {t : TypeId} {u : Value} {xs : List Value}, W.heap.size ≤ base → w16.ownsRow base t q u n xs → (w16.setRow w.heap.size (uA (.slice ra es.length rc) (.slice pa places.length pc) fin 2)).ownsRow base t q u n xs := fun hbs ho =>
          own_over ho (grn_row w16 w.heap.size _) (fun g hg x => by have h1 := (ho.lt g hg).1; have h2 := HBW.out.size; have h3 := HWA.out; have h4 := Option.some.inj x; omega)
        have HSTQ := HSTP.out
        rw [← HSTQ]
        exact ⟨_, _, es, by show _ = Ending.returned (.agg (uA _ _ (fin : Nat) (scKind n fs fin))); rw [HKD.out]; rfl, ⟨own_mono (hne (Nat.le_refl _) HX18.out.recs.row) hz, fun x hx => own_mono (hne (Nat.le_refl _) (HX18.out.recs.data x hx)) hz, HX18.out.recs.apart⟩, HES.out, own_mono (hne (Nat.le_refl _) HX18.out.places) hz, brow (bch HBA.out (bch HBW.out HX18.out.below)) (Nat.le_refl _) (Nat.le_refl _) _⟩
    · obtain ⟨ham, hdl, hm11⟩ := hsz hm
      have hmi : ¬ (m : Int) = 0 := by omega
      have HNXT := HNXT _ _ hF hm
      have HNXF := HNXF _ _ hF
      have HSE := HSE ⟨k, e, d⟩ m
      have HSG := HSG ⟨k, e, d⟩ m
      dsimp only at HNXT HNXF HSE HSG
      obtain ⟨t, ht⟩ : ∃ t, a + m = t := ⟨_, rfl⟩
      rw [ht] at HSE HSG ham
      have htI : (a : Int) + (m : Int) = (t : Int) := by omega
      have htb : (t : Int) ≤ 832 := by omega
      have hup : at0 < t := by omega
      have HFD : ∀ (w : World) (hv : Value) (x : Option Addr) (c : Nat), w.ownsRow W.heap.size 5 1 hv h.length (il .u8 h) → RI .u8 w (.slice x d.length c) d.length d → Calls Tryd.prog 22 #[.agg (kA o hv), .agg (fA k e (.slice x d.length c))] w fun r w' =>
          ∃ u v', r = .returned (.tuple #[.agg (kA (jGoes o h k d) v'), u, .bool (jEnds o h k d), .int .i64 (jErr o h k d)]) ∧ w'.ownsRow w.heap.size 5 1 v' (jHad o h k d).length (il .u8 (jHad o h k d)) ∧ w'.ownsRow w.heap.size 5 1 u (jTell o h k d).length (il .u8 (jTell o h k d)) ∧ Below w.heap.size w w' := fun w hv x c h1 h2 =>
        rfeed_any o hv h k e (.slice x d.length c) d.length d w (RI.own h1) hs.h h2 (by omega)
      have H6 := Lib.hid (jHad_le (o := o) (h := h) (k := k) (d := d))
      by_cases her : jErr o h k d = 0
      · have HNX1 := HNXT her
        rw [her] at HFD
        cases hen : jEnds o h k d with
        | true =>
          rw [HSE hen] at HNX1
          rw [hen] at HFD
          have HFD := Lib.hid HFD
          have HNX1 := HO.out.next HBL.out HNX1
          clear HNXF HNXT HSE HSG hF hsz hm hc hes0 hs hroom hfew hesl hab hble hb11 HRS HO her hen ht ham hbge HX00
          generalize jGoes o h k d = g6 at *
          generalize jHad o h k d = h6 at *
          generalize jTell o h k d = t6 at *
          cases o with
          | true =>
            rw [if_pos rfl] at HNX1
            have HNX := Lib.hid HNX1
            clear HNX1
            go_wp2_with (first
              | (go_at_call 20; (with_reducible refine (HBG.out _).mono ?_); rintro r w1 ⟨rfl, rfl⟩)
              | (go_at_call 21; (refine (HAC.out _ (Below.refl _ _)).mono ?_); rintro r w2 ⟨p2, c2, rfl, ho2, hb2⟩; have HX2 := Lib.hid (HX.out.keep hb2); have HO2 := Lib.hid ho2; clear ho2 hb2)
              | (refine wpl_put_fr rfl (.tmp 11) (.tmp 33) rfl w2.heap.size (FO.alloc w2) k e p2 d.length c2 rfl rfl ?_; intro w3 HF3 HG3; have hb3 : Below w2.heap.size w2 w3 := below_over (balloc w2 _) HG3.out (Nat.le_refl _) (balloc w2 _).size; have HX3 := Lib.hid (HX2.out.keep hb3); have HO3 := Lib.hid (own_keep HO2.out hb3); clear hb3 HX2 HO2; have j0 := HX3.out.jn.cells.1)
              | (refine wpl_load_ko rfl (.tmp 8) rfl rfl HX3.out.jn ?_)
              | (refine wpl_load_fr (by rfl) (.tmp 11) rfl rfl HF3.out ?_)
              | (go_at_call 22; (refine (HFD.out _ _ p2 c2 HX3.out.row (RI.own HO3.out)).mono ?_); rintro r w6 ⟨u, v6, rfl, oh6, ou6, hb6⟩; obtain ⟨ua, uc, rfl⟩ := own_form ou6; obtain ⟨qa, qc, rfl⟩ := own_form oh6; have HOH := Lib.hid (own_mono oh6 HX3.out.below.size); have HOU := Lib.hid (own_mono ou6 HX3.out.below.size); have HX6 := Lib.hid (HX3.out.keep hb6); clear oh6 ou6 hb6 HX3)
              | (refine wpList_store_row rfl 61 _ _ rfl w6.heap.size (kA g6 (.slice qa h6.length qc)) rfl rfl _ _ (heap_alloc_last w6 _) (kj_info _ _) rfl (kj_one _ _ _ _) ?_; obtain ⟨w7, hw7⟩ : ∃ q, World.setRow (w6.alloc (.cells (kA false (.slice none 0 0)) 61)) w6.heap.size (kA g6 (.slice qa h6.length qc)) = q := ⟨_, rfl⟩; rw [hw7]; have HK7 : Hid (KO w7 w6.heap.size g6 (.slice qa h6.length qc)) := Lib.hid (hw7 ▸ setRow_heap _ _ _ _ _ _ (heap_alloc_last w6 _)); have hb7 : Below w6.heap.size w6 w7 := hw7 ▸ bnew _ _ _; have HX7 := Lib.hid (HX6.out.keep hb7); have HOH7 := Lib.hid (own_keep HOH.out hb7); have HOU7 := Lib.hid (own_keep HOU.out hb7); clear hw7 hb7 HX6 HOH HOU)
              | (refine wpl_load_ko rfl (.tmp 13) rfl rfl HK7.out ?_)
              | (refine wpList_store_row rfl 61 _ _ rfl jb (kA g6 (.slice qa h6.length qc)) rfl rfl _ _ HX7.out.jn (kj_info _ _) rfl (kj_one _ _ _ _) ?_; obtain ⟨w8, hw8⟩ : ∃ q, World.setRow w7 jb (kA g6 (.slice qa h6.length qc)) = q := ⟨_, rfl⟩; rw [hw8]; have HX8 := Lib.hid (show RX W w8 rb jb fin 0 g6 h6 (.slice qa h6.length qc) (.slice ra es.length rc) es (.slice pa places.length pc) places from hw8 ▸ HX7.out.join HOH7.out H6.out); have HOU8 := Lib.hid (show w8.ownsRow W.heap.size 5 1 (.slice ua t6.length uc) t6.length (il .u8 t6) from hw8 ▸ own_over HOU7.out (grn_row w7 jb _) (fun q hq x => blk_ne_own HX7.out.jn HOU7.out (by decide) q hq (Option.some.inj x))); clear hw8 HX7 HOH7 HOU7; have q0 := HX8.out.cells.1)
              | (at_builtin; refine wpl_app_sr rfl (.tmp 57) (.tmp 59) rfl rfl (HX8.out.recs.keep (balloc w8 _)) w8.heap.size (t6, .slice ua t6.length uc) rfl (heap_alloc_last w8 _) (own_keep HOU8.out (balloc w8 _)) (fun g _ => by simp [Value.ownBlock]) (by omega) (bch HX8.out.below (balloc w8 _)).size ?_; intro v10 w10 HR10 HG10; obtain ⟨a10, c10, rfl⟩ := own_form HR10.out.row; have HXA := HX8.out.keep (balloc w8 (.cells #[.slice ua t6.length uc] 38)); have hs10 := blk_grown HXA.blk HXA.recs.row (by decide) HG10.out; have z0 := cell_of_row w10 rb 0 _ _ _ hs10; have f0 : w10.frozen? ⟨rb, 0, none⟩ = false := Joins.unfrozen_of_block hs10 0; obtain ⟨w11, hw11⟩ : ∃ q, w10.setCell ⟨rb, 0, none⟩ (.slice a10 (es.length + 1) c10) = q := ⟨_, rfl⟩; have HX11 := Lib.hid (show RX W w11 rb jb fin 0 g6 h6 (.slice qa h6.length qc) (.slice a10 (es.length + 1) c10) (es ++ [(t6, .slice ua t6.length uc)]) (.slice pa places.length pc) places from hw11 ▸ HXA.more (es' := es ++ [(t6, .slice ua t6.length uc)]) HG10.out (by rw [List.length_append]; exact HR10.out)); have q1 := HX11.out.cells.2.1; clear HXA hs10 HX8 HOU8 HR10 HG10)
              | (at_builtin; refine wpl_appw rfl (.tmp 63) (.tmp 65) 26 rfl 3 .i64 8 Tryd.underlying26 Tryd.info_pl W.heap.size (.slice pa places.length pc) places.length places rfl (own_keep HX11.out.places (balloc w11 _)) _ 1 [(first : Int)] rfl (ri_pl1 w11 (first : Int)) (by omega) (by omega) (bch HX11.out.below (balloc w11 _)).size ?_; intro v12 w12 HR12 HG12 _; obtain ⟨a12, c12, rfl⟩ := own_form HR12.out; have HXB := HX11.out.keep (balloc w11 (.cells #[.int .i64 (first : Int)] 3)); have hs12 := blk_grown HXB.blk HXB.places (by decide) HG12.out; have q12 := cell_of_row w12 rb 1 _ _ _ hs12; have f1 : w12.frozen? ⟨rb, 1, none⟩ = false := Joins.unfrozen_of_block hs12 1; obtain ⟨w13, hw13⟩ : ∃ q, w12.setCell ⟨rb, 1, none⟩ (.slice a12 (places.length + 1) c12) = q := ⟨_, rfl⟩; have HX13 := Lib.hid (show RX W w13 rb jb fin 0 g6 h6 (.slice qa h6.length qc) (.slice a10 (es.length + 1) c10) (es ++ [(t6, .slice ua t6.length uc)]) (.slice a12 (places.length + 1) c12) (places ++ [(first : Int)]) from hw13 ▸ HXB.more1 (ps' := places ++ [(first : Int)]) HG12.out (by rw [List.length_append]; exact HR12.out)); have q2 := HX13.out.cells.2.2.1; have f2 := HX13.out.frozen 2; obtain ⟨w14, hw14⟩ : ∃ q, w13.setCell ⟨rb, 2, none⟩ (.int .i64 (t : Int)) = q := ⟨_, rfl⟩; have HX14 := Lib.hid (show RX W w14 rb jb t 0 g6 h6 (.slice qa h6.length qc) (.slice a10 (es.length + 1) c10) (es ++ [(t6, .slice ua t6.length uc)]) (.slice a12 (places.length + 1) c12) (places ++ [(first : Int)]) from hw14 ▸ HX13.out.set2 t); clear HXB hs12 HX11 HX13 HR12 HG12))
            go_roundw
            case rel => exact ⟨_, Lib.hid HNX.out, rfl, rfl, Lib.hid ⟨_, _, es ++ [(t6, .slice ua t6.length uc)], _, HX14.out, by rw [List.map_append, HES.out]; rfl⟩⟩
            case measure => simp [intOf]; omega
          | false =>
            rw [if_neg (by decide)] at HNX1
            have HNX := Lib.hid HNX1
            clear HNX1
            go_wp2_with (first
              | (go_at_call 20; (with_reducible refine (HBG.out _).mono ?_); rintro r w1 ⟨rfl, rfl⟩)
              | (go_at_call 21; (refine (HAC.out _ (Below.refl _ _)).mono ?_); rintro r w2 ⟨p2, c2, rfl, ho2, hb2⟩; have HX2 := Lib.hid (HX.out.keep hb2); have HO2 := Lib.hid ho2; clear ho2 hb2)
              | (refine wpl_put_fr rfl (.tmp 11) (.tmp 33) rfl w2.heap.size (FO.alloc w2) k e p2 d.length c2 rfl rfl ?_; intro w3 HF3 HG3; have hb3 : Below w2.heap.size w2 w3 := below_over (balloc w2 _) HG3.out (Nat.le_refl _) (balloc w2 _).size; have HX3 := Lib.hid (HX2.out.keep hb3); have HO3 := Lib.hid (own_keep HO2.out hb3); clear hb3 HX2 HO2; have j0 := HX3.out.jn.cells.1)
              | (refine wpl_load_ko rfl (.tmp 8) rfl rfl HX3.out.jn ?_)
              | (refine wpl_load_fr (by rfl) (.tmp 11) rfl rfl HF3.out ?_)
              | (go_at_call 22; (refine (HFD.out _ _ p2 c2 HX3.out.row (RI.own HO3.out)).mono ?_); rintro r w6 ⟨u, v6, rfl, oh6, ou6, hb6⟩; obtain ⟨ua, uc, rfl⟩ := own_form ou6; obtain ⟨qa, qc, rfl⟩ := own_form oh6; have HOH := Lib.hid (own_mono oh6 HX3.out.below.size); have HOU := Lib.hid (own_mono ou6 HX3.out.below.size); have HX6 := Lib.hid (HX3.out.keep hb6); clear oh6 ou6 hb6 HX3)
              | (refine wpList_store_row rfl 61 _ _ rfl w6.heap.size (kA g6 (.slice qa h6.length qc)) rfl rfl _ _ (heap_alloc_last w6 _) (kj_info _ _) rfl (kj_one _ _ _ _) ?_; obtain ⟨w7, hw7⟩ : ∃ q, World.setRow (w6.alloc (.cells (kA false (.slice none 0 0)) 61)) w6.heap.size (kA g6 (.slice qa h6.length qc)) = q := ⟨_, rfl⟩; rw [hw7]; have HK7 : Hid (KO w7 w6.heap.size g6 (.slice qa h6.length qc)) := Lib.hid (hw7 ▸ setRow_heap _ _ _ _ _ _ (heap_alloc_last w6 _)); have hb7 : Below w6.heap.size w6 w7 := hw7 ▸ bnew _ _ _; have HX7 := Lib.hid (HX6.out.keep hb7); have HOH7 := Lib.hid (own_keep HOH.out hb7); have HOU7 := Lib.hid (own_keep HOU.out hb7); clear hw7 hb7 HX6 HOH HOU)
              | (refine wpl_load_ko rfl (.tmp 13) rfl rfl HK7.out ?_)
              | (refine wpList_store_row rfl 61 _ _ rfl jb (kA g6 (.slice qa h6.length qc)) rfl rfl _ _ HX7.out.jn (kj_info _ _) rfl (kj_one _ _ _ _) ?_; obtain ⟨w8, hw8⟩ : ∃ q, World.setRow w7 jb (kA g6 (.slice qa h6.length qc)) = q := ⟨_, rfl⟩; rw [hw8]; have HX8 := Lib.hid (show RX W w8 rb jb fin 0 g6 h6 (.slice qa h6.length qc) (.slice ra es.length rc) es (.slice pa places.length pc) places from hw8 ▸ HX7.out.join HOH7.out H6.out); have HOU8 := Lib.hid (show w8.ownsRow W.heap.size 5 1 (.slice ua t6.length uc) t6.length (il .u8 t6) from hw8 ▸ own_over HOU7.out (grn_row w7 jb _) (fun q hq x => blk_ne_own HX7.out.jn HOU7.out (by decide) q hq (Option.some.inj x))); clear hw8 HX7 HOH7 HOU7; have q0 := HX8.out.cells.1)
              | (at_builtin; refine wpl_app_sr rfl (.tmp 57) (.tmp 59) rfl rfl (HX8.out.recs.keep (balloc w8 _)) w8.heap.size (t6, .slice ua t6.length uc) rfl (heap_alloc_last w8 _) (own_keep HOU8.out (balloc w8 _)) (fun g _ => by simp [Value.ownBlock]) (by omega) (bch HX8.out.below (balloc w8 _)).size ?_; intro v10 w10 HR10 HG10; obtain ⟨a10, c10, rfl⟩ := own_form HR10.out.row; have HXA := HX8.out.keep (balloc w8 (.cells #[.slice ua t6.length uc] 38)); have hs10 := blk_grown HXA.blk HXA.recs.row (by decide) HG10.out; have z0 := cell_of_row w10 rb 0 _ _ _ hs10; have f0 : w10.frozen? ⟨rb, 0, none⟩ = false := Joins.unfrozen_of_block hs10 0; obtain ⟨w11, hw11⟩ : ∃ q, w10.setCell ⟨rb, 0, none⟩ (.slice a10 (es.length + 1) c10) = q := ⟨_, rfl⟩; have HX11 := Lib.hid (show RX W w11 rb jb fin 0 g6 h6 (.slice qa h6.length qc) (.slice a10 (es.length + 1) c10) (es ++ [(t6, .slice ua t6.length uc)]) (.slice pa places.length pc) places from hw11 ▸ HXA.more (es' := es ++ [(t6, .slice ua t6.length uc)]) HG10.out (by rw [List.length_append]; exact HR10.out)); have q1 := HX11.out.cells.2.1; clear HXA hs10 HX8 HOU8 HR10 HG10)
              | (at_builtin; refine wpl_appw rfl (.tmp 63) (.tmp 65) 26 rfl 3 .i64 8 Tryd.underlying26 Tryd.info_pl W.heap.size (.slice pa places.length pc) places.length places rfl (own_keep HX11.out.places (balloc w11 _)) _ 1 [(a : Int)] rfl (ri_pl1 w11 (a : Int)) (by omega) (by omega) (bch HX11.out.below (balloc w11 _)).size ?_; intro v12 w12 HR12 HG12 _; obtain ⟨a12, c12, rfl⟩ := own_form HR12.out; have HXB := HX11.out.keep (balloc w11 (.cells #[.int .i64 (a : Int)] 3)); have hs12 := blk_grown HXB.blk HXB.places (by decide) HG12.out; have q12 := cell_of_row w12 rb 1 _ _ _ hs12; have f1 : w12.frozen? ⟨rb, 1, none⟩ = false := Joins.unfrozen_of_block hs12 1; obtain ⟨w13, hw13⟩ : ∃ q, w12.setCell ⟨rb, 1, none⟩ (.slice a12 (places.length + 1) c12) = q := ⟨_, rfl⟩; have HX13 := Lib.hid (show RX W w13 rb jb fin 0 g6 h6 (.slice qa h6.length qc) (.slice a10 (es.length + 1) c10) (es ++ [(t6, .slice ua t6.length uc)]) (.slice a12 (places.length + 1) c12) (places ++ [(a : Int)]) from hw13 ▸ HXB.more1 (ps' := places ++ [(a : Int)]) HG12.out (by rw [List.length_append]; exact HR12.out)); have q2 := HX13.out.cells.2.2.1; have f2 := HX13.out.frozen 2; obtain ⟨w14, hw14⟩ : ∃ q, w13.setCell ⟨rb, 2, none⟩ (.int .i64 (t : Int)) = q := ⟨_, rfl⟩; have HX14 := Lib.hid (show RX W w14 rb jb t 0 g6 h6 (.slice qa h6.length qc) (.slice a10 (es.length + 1) c10) (es ++ [(t6, .slice ua t6.length uc)]) (.slice a12 (places.length + 1) c12) (places ++ [(a : Int)]) from hw14 ▸ HX13.out.set2 t); clear HXB hs12 HX11 HX13 HR12 HG12))
            go_roundw
            case rel => exact ⟨_, Lib.hid HNX.out, rfl, rfl, Lib.hid ⟨_, _, es ++ [(t6, .slice ua t6.length uc)], _, HX14.out, by rw [List.map_append, HES.out]; rfl⟩⟩
            case measure => simp [intOf]; omega
        | false =>
          rw [HSG hen] at HNX1
          rw [hen] at HFD
          have HFD := Lib.hid HFD
          have HNX1 := HO.out.next HBL.out HNX1
          clear HNXF HNXT HSE HSG hF hsz hm hc hes0 hs hroom hfew hesl hab hble hb11 HRS HO her hen ht ham hbge HX00
          generalize jGoes o h k d = g6 at *
          generalize jHad o h k d = h6 at *
          generalize jTell o h k d = t6 at *
          cases o with
          | true =>
            rw [if_pos rfl] at HNX1
            have HNX := Lib.hid HNX1
            clear HNX1
            go_wp2_with (first
              | (go_at_call 20; (with_reducible refine (HBG.out _).mono ?_); rintro r w1 ⟨rfl, rfl⟩)
              | (go_at_call 21; (refine (HAC.out _ (Below.refl _ _)).mono ?_); rintro r w2 ⟨p2, c2, rfl, ho2, hb2⟩; have HX2 := Lib.hid (HX.out.keep hb2); have HO2 := Lib.hid ho2; clear ho2 hb2)
              | (refine wpl_put_fr rfl (.tmp 11) (.tmp 33) rfl w2.heap.size (FO.alloc w2) k e p2 d.length c2 rfl rfl ?_; intro w3 HF3 HG3; have hb3 : Below w2.heap.size w2 w3 := below_over (balloc w2 _) HG3.out (Nat.le_refl _) (balloc w2 _).size; have HX3 := Lib.hid (HX2.out.keep hb3); have HO3 := Lib.hid (own_keep HO2.out hb3); clear hb3 HX2 HO2; have j0 := HX3.out.jn.cells.1)
              | (refine wpl_load_ko rfl (.tmp 8) rfl rfl HX3.out.jn ?_)
              | (refine wpl_load_fr (by rfl) (.tmp 11) rfl rfl HF3.out ?_)
              | (go_at_call 22; (refine (HFD.out _ _ p2 c2 HX3.out.row (RI.own HO3.out)).mono ?_); rintro r w6 ⟨u, v6, rfl, oh6, ou6, hb6⟩; obtain ⟨ua, uc, rfl⟩ := own_form ou6; obtain ⟨qa, qc, rfl⟩ := own_form oh6; have HOH := Lib.hid (own_mono oh6 HX3.out.below.size); have HOU := Lib.hid (own_mono ou6 HX3.out.below.size); have HX6 := Lib.hid (HX3.out.keep hb6); clear oh6 ou6 hb6 HX3)
              | (refine wpList_store_row rfl 61 _ _ rfl w6.heap.size (kA g6 (.slice qa h6.length qc)) rfl rfl _ _ (heap_alloc_last w6 _) (kj_info _ _) rfl (kj_one _ _ _ _) ?_; obtain ⟨w7, hw7⟩ : ∃ q, World.setRow (w6.alloc (.cells (kA false (.slice none 0 0)) 61)) w6.heap.size (kA g6 (.slice qa h6.length qc)) = q := ⟨_, rfl⟩; rw [hw7]; have HK7 : Hid (KO w7 w6.heap.size g6 (.slice qa h6.length qc)) := Lib.hid (hw7 ▸ setRow_heap _ _ _ _ _ _ (heap_alloc_last w6 _)); have hb7 : Below w6.heap.size w6 w7 := hw7 ▸ bnew _ _ _; have HX7 := Lib.hid (HX6.out.keep hb7); have HOH7 := Lib.hid (own_keep HOH.out hb7); have HOU7 := Lib.hid (own_keep HOU.out hb7); clear hw7 hb7 HX6 HOH HOU)
              | (refine wpl_load_ko rfl (.tmp 13) rfl rfl HK7.out ?_)
              | (refine wpList_store_row rfl 61 _ _ rfl jb (kA g6 (.slice qa h6.length qc)) rfl rfl _ _ HX7.out.jn (kj_info _ _) rfl (kj_one _ _ _ _) ?_; obtain ⟨w8, hw8⟩ : ∃ q, World.setRow w7 jb (kA g6 (.slice qa h6.length qc)) = q := ⟨_, rfl⟩; rw [hw8]; have HX8 := Lib.hid (show RX W w8 rb jb fin 0 g6 h6 (.slice qa h6.length qc) (.slice ra es.length rc) es (.slice pa places.length pc) places from hw8 ▸ HX7.out.join HOH7.out H6.out); have HOU8 := Lib.hid (show w8.ownsRow W.heap.size 5 1 (.slice ua t6.length uc) t6.length (il .u8 t6) from hw8 ▸ own_over HOU7.out (grn_row w7 jb _) (fun q hq x => blk_ne_own HX7.out.jn HOU7.out (by decide) q hq (Option.some.inj x))); clear hw8 HX7 HOH7 HOU7))
            go_roundw
            case rel => exact ⟨_, Lib.hid HNX.out, rfl, rfl, Lib.hid ⟨_, _, es, _, HX8.out, HES.out⟩⟩
            case measure => simp [intOf]; omega
          | false =>
            rw [if_neg (by decide)] at HNX1
            have HNX := Lib.hid HNX1
            clear HNX1
            go_wp2_with (first
              | (go_at_call 20; (with_reducible refine (HBG.out _).mono ?_); rintro r w1 ⟨rfl, rfl⟩)
              | (go_at_call 21; (refine (HAC.out _ (Below.refl _ _)).mono ?_); rintro r w2 ⟨p2, c2, rfl, ho2, hb2⟩; have HX2 := Lib.hid (HX.out.keep hb2); have HO2 := Lib.hid ho2; clear ho2 hb2)
              | (refine wpl_put_fr rfl (.tmp 11) (.tmp 33) rfl w2.heap.size (FO.alloc w2) k e p2 d.length c2 rfl rfl ?_; intro w3 HF3 HG3; have hb3 : Below w2.heap.size w2 w3 := below_over (balloc w2 _) HG3.out (Nat.le_refl _) (balloc w2 _).size; have HX3 := Lib.hid (HX2.out.keep hb3); have HO3 := Lib.hid (own_keep HO2.out hb3); clear hb3 HX2 HO2; have j0 := HX3.out.jn.cells.1)
              | (refine wpl_load_ko rfl (.tmp 8) rfl rfl HX3.out.jn ?_)
              | (refine wpl_load_fr (by rfl) (.tmp 11) rfl rfl HF3.out ?_)
              | (go_at_call 22; (refine (HFD.out _ _ p2 c2 HX3.out.row (RI.own HO3.out)).mono ?_); rintro r w6 ⟨u, v6, rfl, oh6, ou6, hb6⟩; obtain ⟨ua, uc, rfl⟩ := own_form ou6; obtain ⟨qa, qc, rfl⟩ := own_form oh6; have HOH := Lib.hid (own_mono oh6 HX3.out.below.size); have HOU := Lib.hid (own_mono ou6 HX3.out.below.size); have HX6 := Lib.hid (HX3.out.keep hb6); clear oh6 ou6 hb6 HX3)
              | (refine wpList_store_row rfl 61 _ _ rfl w6.heap.size (kA g6 (.slice qa h6.length qc)) rfl rfl _ _ (heap_alloc_last w6 _) (kj_info _ _) rfl (kj_one _ _ _ _) ?_; obtain ⟨w7, hw7⟩ : ∃ q, World.setRow (w6.alloc (.cells (kA false (.slice none 0 0)) 61)) w6.heap.size (kA g6 (.slice qa h6.length qc)) = q := ⟨_, rfl⟩; rw [hw7]; have HK7 : Hid (KO w7 w6.heap.size g6 (.slice qa h6.length qc)) := Lib.hid (hw7 ▸ setRow_heap _ _ _ _ _ _ (heap_alloc_last w6 _)); have hb7 : Below w6.heap.size w6 w7 := hw7 ▸ bnew _ _ _; have HX7 := Lib.hid (HX6.out.keep hb7); have HOH7 := Lib.hid (own_keep HOH.out hb7); have HOU7 := Lib.hid (own_keep HOU.out hb7); clear hw7 hb7 HX6 HOH HOU)
              | (refine wpl_load_ko rfl (.tmp 13) rfl rfl HK7.out ?_)
              | (refine wpList_store_row rfl 61 _ _ rfl jb (kA g6 (.slice qa h6.length qc)) rfl rfl _ _ HX7.out.jn (kj_info _ _) rfl (kj_one _ _ _ _) ?_; obtain ⟨w8, hw8⟩ : ∃ q, World.setRow w7 jb (kA g6 (.slice qa h6.length qc)) = q := ⟨_, rfl⟩; rw [hw8]; have HX8 := Lib.hid (show RX W w8 rb jb fin 0 g6 h6 (.slice qa h6.length qc) (.slice ra es.length rc) es (.slice pa places.length pc) places from hw8 ▸ HX7.out.join HOH7.out H6.out); have HOU8 := Lib.hid (show w8.ownsRow W.heap.size 5 1 (.slice ua t6.length uc) t6.length (il .u8 t6) from hw8 ▸ own_over HOU7.out (grn_row w7 jb _) (fun q hq x => blk_ne_own HX7.out.jn HOU7.out (by decide) q hq (Option.some.inj x))); clear hw8 HX7 HOH7 HOU7))
            go_roundw
            case rel => exact ⟨_, Lib.hid HNX.out, rfl, rfl, Lib.hid ⟨_, _, es, _, HX8.out, HES.out⟩⟩
            case measure => simp [intOf]; omega
      · have HSTP := Lib.hid (HO.out.stop (HNXF (.inr her)))
        have hne : (jErr o h k d != 0) = true := by simpa using her
        have HFD := Lib.hid HFD
        clear HNXF HNXT HSE HSG hF hsz hm hc hes0 hs hroom hfew hesl hab hble hb11 HRS HO her ht ham hbge HX00
        generalize jErr o h k d = er at *
        generalize jEnds o h k d = en at *
        generalize jGoes o h k d = g6 at *
        generalize jHad o h k d = h6 at *
        generalize jTell o h k d = t6 at *
        cases o with
        | true =>
          have HRE0 := HREA.out fin HFIN.out
          obtain ⟨y, hy⟩ : ∃ y, restB n fs fin = y := ⟨_, rfl⟩
          rw [hy] at HRE0
          have HRE := Lib.hid HRE0
          have HKD : Hid (scKind n fs fin = if y = true then 1 else 2) := Lib.hid (by unfold scKind; rw [hy])
          clear HRE0 hy
          cases y with
          | true =>
            go_wp2_with (first
              | (go_at_call 20; (with_reducible refine (HBG.out _).mono ?_); rintro r w1 ⟨rfl, rfl⟩)
              | (go_at_call 21; (refine (HAC.out _ (Below.refl _ _)).mono ?_); rintro r w2 ⟨p2, c2, rfl, ho2, hb2⟩; have HX2 := Lib.hid (HX.out.keep hb2); have HO2 := Lib.hid ho2; clear ho2 hb2)
              | (refine wpl_put_fr rfl (.tmp 11) (.tmp 33) rfl w2.heap.size (FO.alloc w2) k e p2 d.length c2 rfl rfl ?_; intro w3 HF3 HG3; have hb3 : Below w2.heap.size w2 w3 := below_over (balloc w2 _) HG3.out (Nat.le_refl _) (balloc w2 _).size; have HX3 := Lib.hid (HX2.out.keep hb3); have HO3 := Lib.hid (own_keep HO2.out hb3); clear hb3 HX2 HO2; have j0 := HX3.out.jn.cells.1)
              | (refine wpl_load_ko rfl (.tmp 8) rfl rfl HX3.out.jn ?_)
              | (refine wpl_load_fr (by rfl) (.tmp 11) rfl rfl HF3.out ?_)
              | (go_at_call 22; (refine (HFD.out _ _ p2 c2 HX3.out.row (RI.own HO3.out)).mono ?_); rintro r w6 ⟨u, v6, rfl, oh6, ou6, hb6⟩; obtain ⟨ua, uc, rfl⟩ := own_form ou6; obtain ⟨qa, qc, rfl⟩ := own_form oh6; have HOH := Lib.hid (own_mono oh6 HX3.out.below.size); have HOU := Lib.hid (own_mono ou6 HX3.out.below.size); have HX6 := Lib.hid (HX3.out.keep hb6); clear oh6 ou6 hb6 HX3)
              | (refine wpList_store_row rfl 61 _ _ rfl w6.heap.size (kA g6 (.slice qa h6.length qc)) rfl rfl _ _ (heap_alloc_last w6 _) (kj_info _ _) rfl (kj_one _ _ _ _) ?_; obtain ⟨w7, hw7⟩ : ∃ q, World.setRow (w6.alloc (.cells (kA false (.slice none 0 0)) 61)) w6.heap.size (kA g6 (.slice qa h6.length qc)) = q := ⟨_, rfl⟩; rw [hw7]; have HK7 : Hid (KO w7 w6.heap.size g6 (.slice qa h6.length qc)) := Lib.hid (hw7 ▸ setRow_heap _ _ _ _ _ _ (heap_alloc_last w6 _)); have hb7 : Below w6.heap.size w6 w7 := hw7 ▸ bnew _ _ _; have HX7 := Lib.hid (HX6.out.keep hb7); have HOH7 := Lib.hid (own_keep HOH.out hb7); have HOU7 := Lib.hid (own_keep HOU.out hb7); clear hw7 hb7 HX6 HOH HOU; obtain ⟨_, _, z2, z3⟩ := HX7.out.cells; have f3 := HX7.out.frozen 3; obtain ⟨w4, hw4⟩ : ∃ q, w7.setCell ⟨rb, 3, none⟩ (.int .i64 2) = q := ⟨_, rfl⟩; have HX4 := Lib.hid (show RX _ w4 _ _ _ _ _ _ _ _ _ _ _ from by rw [← hw4]; exact HX7.out.set3 2); have y2 := HX4.out.cells.2.2.1; clear HX7)
              | (go_at_call 11; (refine (HRE.out _ (HFS.out.keep (bch HBW.out HX4.out.below))).mono ?_); rintro r w16 ⟨rfl, hb⟩; have HX16 := Lib.hid (HX4.out.keep hb); have z316 := HX16.out.cells.2.2.2; have f316 := HX16.out.frozen 3; clear hb; obtain ⟨w18, hw18⟩ : ∃ q, w16.setCell ⟨rb, 3, none⟩ (.int .i64 1) = q := ⟨_, rfl⟩; have HX18 := Lib.hid (show RX _ w18 _ _ _ _ _ _ _ _ _ _ _ from by rw [← hw18]; exact HX16.out.set3 1))
              | (refine wpList_load_row rfl 30 (.tmp 7) rfl rb rfl _ (uA (.slice ra es.length rc) (.slice pa places.length pc) fin 1) (0, 0) _ HX18.out.blk Tryd.underlying30 rfl (ut_info _ rfl) ?_)
              | (refine wpList_store_row rfl 30 _ _ rfl w.heap.size (uA (.slice ra es.length rc) (.slice pa places.length pc) fin 1) rfl rfl _ _ (((bch HBW.out HX18.out.below).block _ HWA.out).trans HRA.out) (ut_info _ rfl) rfl (ut_one _ _ _ _ _ _ _ _) ?_))
            refine bodyPost_ret_by (v := .agg (uA (.slice ra es.length rc) (.slice pa places.length pc) fin 1)) (results_cell_row rfl _ _ w.heap.size _ (uA (.slice ra es.length rc) (.slice pa places.length pc) fin 1) (0, 0) _ rfl (setRow_heap _ _ _ _ _ _ (((bch HBW.out HX18.out.below).block _ HWA.out).trans HRA.out)) Tryd.underlying30 rfl (ut_info _ rfl)) rfl ?_
            have hz : w.heap.size ≤ W.heap.size := Nat.le_trans (Nat.le_of_lt HWA.out) HBW.out.size
            have hne : ∀ {base n q : Nat} {t : TypeId} {u : Value} {xs : List Value}, W.heap.size ≤ base → w18.ownsRow base t q u n xs → (w18.setRow w.heap.size (uA (.slice ra es.length rc) (.slice pa places.length pc) fin 1)).ownsRow base t q u n xs := fun hbs ho =>
              own_over ho (grn_row w18 w.heap.size _) (fun g hg x => by have h1 := (ho.lt g hg).1; have h2 := HBW.out.size; have h3 := HWA.out; have h4 := Option.some.inj x; omega)
            have HSTQ := HSTP.out
            rw [← HSTQ]
            exact ⟨_, _, es, by show _ = Ending.returned (.agg (uA _ _ (fin : Nat) (scKind n fs fin))); rw [HKD.out]; rfl, ⟨own_mono (hne (Nat.le_refl _) HX18.out.recs.row) hz, fun x hx => own_mono (hne (Nat.le_refl _) (HX18.out.recs.data x hx)) hz, HX18.out.recs.apart⟩, HES.out, own_mono (hne (Nat.le_refl _) HX18.out.places) hz, brow (bch HBA.out (bch HBW.out HX18.out.below)) (Nat.le_refl _) (Nat.le_refl _) _⟩
          | false =>
            go_wp2_with (first
              | (go_at_call 20; (with_reducible refine (HBG.out _).mono ?_); rintro r w1 ⟨rfl, rfl⟩)
              | (go_at_call 21; (refine (HAC.out _ (Below.refl _ _)).mono ?_); rintro r w2 ⟨p2, c2, rfl, ho2, hb2⟩; have HX2 := Lib.hid (HX.out.keep hb2); have HO2 := Lib.hid ho2; clear ho2 hb2)
              | (refine wpl_put_fr rfl (.tmp 11) (.tmp 33) rfl w2.heap.size (FO.alloc w2) k e p2 d.length c2 rfl rfl ?_; intro w3 HF3 HG3; have hb3 : Below w2.heap.size w2 w3 := below_over (balloc w2 _) HG3.out (Nat.le_refl _) (balloc w2 _).size; have HX3 := Lib.hid (HX2.out.keep hb3); have HO3 := Lib.hid (own_keep HO2.out hb3); clear hb3 HX2 HO2; have j0 := HX3.out.jn.cells.1)
              | (refine wpl_load_ko rfl (.tmp 8) rfl rfl HX3.out.jn ?_)
              | (refine wpl_load_fr (by rfl) (.tmp 11) rfl rfl HF3.out ?_)
              | (go_at_call 22; (refine (HFD.out _ _ p2 c2 HX3.out.row (RI.own HO3.out)).mono ?_); rintro r w6 ⟨u, v6, rfl, oh6, ou6, hb6⟩; obtain ⟨ua, uc, rfl⟩ := own_form ou6; obtain ⟨qa, qc, rfl⟩ := own_form oh6; have HOH := Lib.hid (own_mono oh6 HX3.out.below.size); have HOU := Lib.hid (own_mono ou6 HX3.out.below.size); have HX6 := Lib.hid (HX3.out.keep hb6); clear oh6 ou6 hb6 HX3)
              | (refine wpList_store_row rfl 61 _ _ rfl w6.heap.size (kA g6 (.slice qa h6.length qc)) rfl rfl _ _ (heap_alloc_last w6 _) (kj_info _ _) rfl (kj_one _ _ _ _) ?_; obtain ⟨w7, hw7⟩ : ∃ q, World.setRow (w6.alloc (.cells (kA false (.slice none 0 0)) 61)) w6.heap.size (kA g6 (.slice qa h6.length qc)) = q := ⟨_, rfl⟩; rw [hw7]; have HK7 : Hid (KO w7 w6.heap.size g6 (.slice qa h6.length qc)) := Lib.hid (hw7 ▸ setRow_heap _ _ _ _ _ _ (heap_alloc_last w6 _)); have hb7 : Below w6.heap.size w6 w7 := hw7 ▸ bnew _ _ _; have HX7 := Lib.hid (HX6.out.keep hb7); have HOH7 := Lib.hid (own_keep HOH.out hb7); have HOU7 := Lib.hid (own_keep HOU.out hb7); clear hw7 hb7 HX6 HOH HOU; obtain ⟨_, _, z2, z3⟩ := HX7.out.cells; have f3 := HX7.out.frozen 3; obtain ⟨w4, hw4⟩ : ∃ q, w7.setCell ⟨rb, 3, none⟩ (.int .i64 2) = q := ⟨_, rfl⟩; have HX4 := Lib.hid (show RX _ w4 _ _ _ _ _ _ _ _ _ _ _ from by rw [← hw4]; exact HX7.out.set3 2); have y2 := HX4.out.cells.2.2.1; clear HX7)
              | (go_at_call 11; (refine (HRE.out _ (HFS.out.keep (bch HBW.out HX4.out.below))).mono ?_); rintro r w16 ⟨rfl, hb⟩; have HX16 := Lib.hid (HX4.out.keep hb); have z316 := HX16.out.cells.2.2.2; have f316 := HX16.out.frozen 3; clear hb; have HX18 := HX16)
              | (refine wpList_load_row rfl 30 (.tmp 7) rfl rb rfl _ (uA (.slice ra es.length rc) (.slice pa places.length pc) fin 2) (0, 0) _ HX18.out.blk Tryd.underlying30 rfl (ut_info _ rfl) ?_)
              | (refine wpList_store_row rfl 30 _ _ rfl w.heap.size (uA (.slice ra es.length rc) (.slice pa places.length pc) fin 2) rfl rfl _ _ (((bch HBW.out HX18.out.below).block _ HWA.out).trans HRA.out) (ut_info _ rfl) rfl (ut_one _ _ _ _ _ _ _ _) ?_))
            refine bodyPost_ret_by (v := .agg (uA (.slice ra es.length rc) (.slice pa places.length pc) fin 2)) (results_cell_row rfl _ _ w.heap.size _ (uA (.slice ra es.length rc) (.slice pa places.length pc) fin 2) (0, 0) _ rfl (setRow_heap _ _ _ _ _ _ (((bch HBW.out HX18.out.below).block _ HWA.out).trans HRA.out)) Tryd.underlying30 rfl (ut_info _ rfl)) rfl ?_
            have hz : w.heap.size ≤ W.heap.size := Nat.le_trans (Nat.le_of_lt HWA.out) HBW.out.size
            have hne : ∀ {base n q : Nat} {t : TypeId} {u : Value} {xs : List Value}, W.heap.size ≤ base → w16.ownsRow base t q u n xs → (w16.setRow w.heap.size (uA (.slice ra es.length rc) (.slice pa places.length pc) fin 2)).ownsRow base t q u n xs := fun hbs ho =>
              own_over ho (grn_row w16 w.heap.size _) (fun g hg x => by have h1 := (ho.lt g hg).1; have h2 := HBW.out.size; have h3 := HWA.out; have h4 := Option.some.inj x; omega)
            have HSTQ := HSTP.out
            rw [← HSTQ]
            exact ⟨_, _, es, by show _ = Ending.returned (.agg (uA _ _ (fin : Nat) (scKind n fs fin))); rw [HKD.out]; rfl, ⟨own_mono (hne (Nat.le_refl _) HX18.out.recs.row) hz, fun x hx => own_mono (hne (Nat.le_refl _) (HX18.out.recs.data x hx)) hz, HX18.out.recs.apart⟩, HES.out, own_mono (hne (Nat.le_refl _) HX18.out.places) hz, brow (bch HBA.out (bch HBW.out HX18.out.below)) (Nat.le_refl _) (Nat.le_refl _) _⟩
        | false =>
          have HRE0 := HREA.out fin HFIN.out
          obtain ⟨y, hy⟩ : ∃ y, restB n fs fin = y := ⟨_, rfl⟩
          rw [hy] at HRE0
          have HRE := Lib.hid HRE0
          have HKD : Hid (scKind n fs fin = if y = true then 1 else 2) := Lib.hid (by unfold scKind; rw [hy])
          clear HRE0 hy
          cases y with
          | true =>
            go_wp2_with (first
              | (go_at_call 20; (with_reducible refine (HBG.out _).mono ?_); rintro r w1 ⟨rfl, rfl⟩)
              | (go_at_call 21; (refine (HAC.out _ (Below.refl _ _)).mono ?_); rintro r w2 ⟨p2, c2, rfl, ho2, hb2⟩; have HX2 := Lib.hid (HX.out.keep hb2); have HO2 := Lib.hid ho2; clear ho2 hb2)
              | (refine wpl_put_fr rfl (.tmp 11) (.tmp 33) rfl w2.heap.size (FO.alloc w2) k e p2 d.length c2 rfl rfl ?_; intro w3 HF3 HG3; have hb3 : Below w2.heap.size w2 w3 := below_over (balloc w2 _) HG3.out (Nat.le_refl _) (balloc w2 _).size; have HX3 := Lib.hid (HX2.out.keep hb3); have HO3 := Lib.hid (own_keep HO2.out hb3); clear hb3 HX2 HO2; have j0 := HX3.out.jn.cells.1)
              | (refine wpl_load_ko rfl (.tmp 8) rfl rfl HX3.out.jn ?_)
              | (refine wpl_load_fr (by rfl) (.tmp 11) rfl rfl HF3.out ?_)
              | (go_at_call 22; (refine (HFD.out _ _ p2 c2 HX3.out.row (RI.own HO3.out)).mono ?_); rintro r w6 ⟨u, v6, rfl, oh6, ou6, hb6⟩; obtain ⟨ua, uc, rfl⟩ := own_form ou6; obtain ⟨qa, qc, rfl⟩ := own_form oh6; have HOH := Lib.hid (own_mono oh6 HX3.out.below.size); have HOU := Lib.hid (own_mono ou6 HX3.out.below.size); have HX6 := Lib.hid (HX3.out.keep hb6); clear oh6 ou6 hb6 HX3)
              | (refine wpList_store_row rfl 61 _ _ rfl w6.heap.size (kA g6 (.slice qa h6.length qc)) rfl rfl _ _ (heap_alloc_last w6 _) (kj_info _ _) rfl (kj_one _ _ _ _) ?_; obtain ⟨w7, hw7⟩ : ∃ q, World.setRow (w6.alloc (.cells (kA false (.slice none 0 0)) 61)) w6.heap.size (kA g6 (.slice qa h6.length qc)) = q := ⟨_, rfl⟩; rw [hw7]; have HK7 : Hid (KO w7 w6.heap.size g6 (.slice qa h6.length qc)) := Lib.hid (hw7 ▸ setRow_heap _ _ _ _ _ _ (heap_alloc_last w6 _)); have hb7 : Below w6.heap.size w6 w7 := hw7 ▸ bnew _ _ _; have HX7 := Lib.hid (HX6.out.keep hb7); have HOH7 := Lib.hid (own_keep HOH.out hb7); have HOU7 := Lib.hid (own_keep HOU.out hb7); clear hw7 hb7 HX6 HOH HOU; obtain ⟨_, _, z2, z3⟩ := HX7.out.cells; have f3 := HX7.out.frozen 3; obtain ⟨w4, hw4⟩ : ∃ q, w7.setCell ⟨rb, 3, none⟩ (.int .i64 2) = q := ⟨_, rfl⟩; have HX4 := Lib.hid (show RX _ w4 _ _ _ _ _ _ _ _ _ _ _ from by rw [← hw4]; exact HX7.out.set3 2); have y2 := HX4.out.cells.2.2.1; clear HX7)
              | (go_at_call 11; (refine (HRE.out _ (HFS.out.keep (bch HBW.out HX4.out.below))).mono ?_); rintro r w16 ⟨rfl, hb⟩; have HX16 := Lib.hid (HX4.out.keep hb); have z316 := HX16.out.cells.2.2.2; have f316 := HX16.out.frozen 3; clear hb; obtain ⟨w18, hw18⟩ : ∃ q, w16.setCell ⟨rb, 3, none⟩ (.int .i64 1) = q := ⟨_, rfl⟩; have HX18 := Lib.hid (show RX _ w18 _ _ _ _ _ _ _ _ _ _ _ from by rw [← hw18]; exact HX16.out.set3 1))
              | (refine wpList_load_row rfl 30 (.tmp 7) rfl rb rfl _ (uA (.slice ra es.length rc) (.slice pa places.length pc) fin 1) (0, 0) _ HX18.out.blk Tryd.underlying30 rfl (ut_info _ rfl) ?_)
              | (refine wpList_store_row rfl 30 _ _ rfl w.heap.size (uA (.slice ra es.length rc) (.slice pa places.length pc) fin 1) rfl rfl _ _ (((bch HBW.out HX18.out.below).block _ HWA.out).trans HRA.out) (ut_info _ rfl) rfl (ut_one _ _ _ _ _ _ _ _) ?_))
            refine bodyPost_ret_by (v := .agg (uA (.slice ra es.length rc) (.slice pa places.length pc) fin 1)) (results_cell_row rfl _ _ w.heap.size _ (uA (.slice ra es.length rc) (.slice pa places.length pc) fin 1) (0, 0) _ rfl (setRow_heap _ _ _ _ _ _ (((bch HBW.out HX18.out.below).block _ HWA.out).trans HRA.out)) Tryd.underlying30 rfl (ut_info _ rfl)) rfl ?_
            have hz : w.heap.size ≤ W.heap.size := Nat.le_trans (Nat.le_of_lt HWA.out) HBW.out.size
            have hne : ∀ {base n q : Nat} {t : TypeId} {u : Value} {xs : List Value}, W.heap.size ≤ base → w18.ownsRow base t q u n xs → (w18.setRow w.heap.size (uA (.slice ra es.length rc) (.slice pa places.length pc) fin 1)).ownsRow base t q u n xs := fun hbs ho =>
              own_over ho (grn_row w18 w.heap.size _) (fun g hg x => by have h1 := (ho.lt g hg).1; have h2 := HBW.out.size; have h3 := HWA.out; have h4 := Option.some.inj x; omega)
            have HSTQ := HSTP.out
            rw [← HSTQ]
            exact ⟨_, _, es, by show _ = Ending.returned (.agg (uA _ _ (fin : Nat) (scKind n fs fin))); rw [HKD.out]; rfl, ⟨own_mono (hne (Nat.le_refl _) HX18.out.recs.row) hz, fun x hx => own_mono (hne (Nat.le_refl _) (HX18.out.recs.data x hx)) hz, HX18.out.recs.apart⟩, HES.out, own_mono (hne (Nat.le_refl _) HX18.out.places) hz, brow (bch HBA.out (bch HBW.out HX18.out.below)) (Nat.le_refl _) (Nat.le_refl _) _⟩
          | false =>
            go_wp2_with (first
              | (go_at_call 20; (with_reducible refine (HBG.out _).mono ?_); rintro r w1 ⟨rfl, rfl⟩)
              | (go_at_call 21; (refine (HAC.out _ (Below.refl _ _)).mono ?_); rintro r w2 ⟨p2, c2, rfl, ho2, hb2⟩; have HX2 := Lib.hid (HX.out.keep hb2); have HO2 := Lib.hid ho2; clear ho2 hb2)
              | (refine wpl_put_fr rfl (.tmp 11) (.tmp 33) rfl w2.heap.size (FO.alloc w2) k e p2 d.length c2 rfl rfl ?_; intro w3 HF3 HG3; have hb3 : Below w2.heap.size w2 w3 := below_over (balloc w2 _) HG3.out (Nat.le_refl _) (balloc w2 _).size; have HX3 := Lib.hid (HX2.out.keep hb3); have HO3 := Lib.hid (own_keep HO2.out hb3); clear hb3 HX2 HO2; have j0 := HX3.out.jn.cells.1)
              | (refine wpl_load_ko rfl (.tmp 8) rfl rfl HX3.out.jn ?_)
              | (refine wpl_load_fr (by rfl) (.tmp 11) rfl rfl HF3.out ?_)
              | (go_at_call 22; (refine (HFD.out _ _ p2 c2 HX3.out.row (RI.own HO3.out)).mono ?_); rintro r w6 ⟨u, v6, rfl, oh6, ou6, hb6⟩; obtain ⟨ua, uc, rfl⟩ := own_form ou6; obtain ⟨qa, qc, rfl⟩ := own_form oh6; have HOH := Lib.hid (own_mono oh6 HX3.out.below.size); have HOU := Lib.hid (own_mono ou6 HX3.out.below.size); have HX6 := Lib.hid (HX3.out.keep hb6); clear oh6 ou6 hb6 HX3)
              | (refine wpList_store_row rfl 61 _ _ rfl w6.heap.size (kA g6 (.slice qa h6.length qc)) rfl rfl _ _ (heap_alloc_last w6 _) (kj_info _ _) rfl (kj_one _ _ _ _) ?_; obtain ⟨w7, hw7⟩ : ∃ q, World.setRow (w6.alloc (.cells (kA false (.slice none 0 0)) 61)) w6.heap.size (kA g6 (.slice qa h6.length qc)) = q := ⟨_, rfl⟩; rw [hw7]; have HK7 : Hid (KO w7 w6.heap.size g6 (.slice qa h6.length qc)) := Lib.hid (hw7 ▸ setRow_heap _ _ _ _ _ _ (heap_alloc_last w6 _)); have hb7 : Below w6.heap.size w6 w7 := hw7 ▸ bnew _ _ _; have HX7 := Lib.hid (HX6.out.keep hb7); have HOH7 := Lib.hid (own_keep HOH.out hb7); have HOU7 := Lib.hid (own_keep HOU.out hb7); clear hw7 hb7 HX6 HOH HOU; obtain ⟨_, _, z2, z3⟩ := HX7.out.cells; have f3 := HX7.out.frozen 3; obtain ⟨w4, hw4⟩ : ∃ q, w7.setCell ⟨rb, 3, none⟩ (.int .i64 2) = q := ⟨_, rfl⟩; have HX4 := Lib.hid (show RX _ w4 _ _ _ _ _ _ _ _ _ _ _ from by rw [← hw4]; exact HX7.out.set3 2); have y2 := HX4.out.cells.2.2.1; clear HX7)
              | (go_at_call 11; (refine (HRE.out _ (HFS.out.keep (bch HBW.out HX4.out.below))).mono ?_); rintro r w16 ⟨rfl, hb⟩; have HX16 := Lib.hid (HX4.out.keep hb); have z316 := HX16.out.cells.2.2.2; have f316 := HX16.out.frozen 3; clear hb; have HX18 := HX16)
              | (refine wpList_load_row rfl 30 (.tmp 7) rfl rb rfl _ (uA (.slice ra es.length rc) (.slice pa places.length pc) fin 2) (0, 0) _ HX18.out.blk Tryd.underlying30 rfl (ut_info _ rfl) ?_)
              | (refine wpList_store_row rfl 30 _ _ rfl w.heap.size (uA (.slice ra es.length rc) (.slice pa places.length pc) fin 2) rfl rfl _ _ (((bch HBW.out HX18.out.below).block _ HWA.out).trans HRA.out) (ut_info _ rfl) rfl (ut_one _ _ _ _ _ _ _ _) ?_))
            refine bodyPost_ret_by (v := .agg (uA (.slice ra es.length rc) (.slice pa places.length pc) fin 2)) (results_cell_row rfl _ _ w.heap.size _ (uA (.slice ra es.length rc) (.slice pa places.length pc) fin 2) (0, 0) _ rfl (setRow_heap _ _ _ _ _ _ (((bch HBW.out HX18.out.below).block _ HWA.out).trans HRA.out)) Tryd.underlying30 rfl (ut_info _ rfl)) rfl ?_
            have hz : w.heap.size ≤ W.heap.size := Nat.le_trans (Nat.le_of_lt HWA.out) HBW.out.size
            have hne : ∀ {base n q : Nat} {t : TypeId} {u : Value} {xs : List Value}, W.heap.size ≤ base → w16.ownsRow base t q u n xs → (w16.setRow w.heap.size (uA (.slice ra es.length rc) (.slice pa places.length pc) fin 2)).ownsRow base t q u n xs := fun hbs ho =>
              own_over ho (grn_row w16 w.heap.size _) (fun g hg x => by have h1 := (ho.lt g hg).1; have h2 := HBW.out.size; have h3 := HWA.out; have h4 := Option.some.inj x; omega)
            have HSTQ := HSTP.out
            rw [← HSTQ]
            exact ⟨_, _, es, by show _ = Ending.returned (.agg (uA _ _ (fin : Nat) (scKind n fs fin))); rw [HKD.out]; rfl, ⟨own_mono (hne (Nat.le_refl _) HX18.out.recs.row) hz, fun x hx => own_mono (hne (Nat.le_refl _) (HX18.out.recs.data x hx)) hz, HX18.out.recs.apart⟩, HES.out, own_mono (hne (Nat.le_refl _) HX18.out.places) hz, brow (bch HBA.out (bch HBW.out HX18.out.below)) (Nat.le_refl _) (Nat.le_refl _) _⟩
end Go.Proofs.YthickhfbllddjaaDoor
