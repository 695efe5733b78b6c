/-
  WHAT Scan OF THE PROGRAM'S LAYER 19 (scan) ANSWERS, of any sectors by any epoch. The table of half a byte's steps must lie in its block as start-up lays it.
-/
import Derived.Test.YtepaghohojomeaaDoorJ21
namespace Go.Proofs.YtepaghohojomeaaDoor
open Go.RowKit
theorem flatB_bytes (x : Int) (n : Nat) (fs : List Int) (h : isB fs) : ∀ k, isB (flatB x n fs k)
  | 0 => isB.nil
  | k + 1 => by
    have ih := flatB_bytes x n fs h k
    have hr : isB (roomAt x n fs k) := by
      unfold roomAt
      split
      · exact ((h.drop _).take _).drop _
      · intro y hy; have := List.eq_of_mem_replicate hy; omega
    unfold flatB
    exact ih.append hr
/-- what is told, in a block -/
abbrev tA (rv pv : Value) (e k : Int) : Array Value := #[rv, pv, .int .i64 e, .int .i64 k]
structure SD (W w : World) (sb jb : Nat) (ep : Int) (bv kv : Value) (a b e : Nat) (k : Int) (rv : Value) (es : List (List Int × Value)) (pv : Value) (ps : List Int) : Prop where
  blk : SO w sb ep bv kv jb a b rv pv e k
  low : W.heap.size ≤ sb
  recs : SR W.heap.size w rv es.length es (.slice none 0 0)
  places : w.ownsRow W.heap.size 3 1 pv ps.length (il .i64 ps)
  below : Below W.heap.size W w
section
variable {W w w' : World} {sb jb : Nat} {ep : Int} {bv kv : Value} {a b e : Nat} {k : Int} {o : Bool} {h : List Int} {hv rv pv : Value} {es : List (List Int × Value)} {ps : List Int}
theorem SC.sd (c : SC W w sb jb ep bv kv a b e o h hv rv es pv ps) : SD W w sb jb ep bv kv a b e 0 rv es pv ps :=
  ⟨c.blk, c.low, ⟨c.recs.row, c.recs.data, fun _ _ g _ e => by simp [Value.ownBlock] at e⟩, c.places, c.below⟩
theorem SD.keep (c : SD W w sb jb ep bv kv a b e k rv es pv ps) (hb : Below w.heap.size w w') : SD W w' sb jb ep bv kv a b e k rv es pv ps :=
  ⟨c.blk.keep hb, c.low, c.recs.keep hb, own_keep c.places hb, bch c.below hb⟩
theorem SD.set9 (c : SD W w sb jb ep bv kv a b e k rv es pv ps) (x : Int) : SD W (w.setCell ⟨sb, 9, none⟩ (.int .i64 x)) sb jb ep bv kv a b e x rv es pv ps := by
  have hg := grown_store w sb 9 (.int .i64 x)
  have hne : ∀ {base n q : Nat} {t : TypeId} {u : Value} {xs : List Value}, w.ownsRow base t q u n xs → t ≠ 80 → (w.setCell ⟨sb, 9, none⟩ (.int .i64 x)).ownsRow base t q u n xs := fun ho ht =>
    own_over ho hg (fun q hq x => c.blk.ne_own ho ht q hq (Option.some.inj x))
  exact ⟨c.blk.set9 x, c.low, ⟨hne c.recs.row (by decide), fun y hy => hne (c.recs.data y hy) (by decide), c.recs.apart⟩, hne c.places (by decide), c.below.grown hg c.below.size (fun q hq => by cases hq; exact c.low)⟩
theorem SD.range (c : SD W w sb jb ep bv kv a b e k rv es pv ps) : w.rangeAt sb 6 [rv, pv, .int .i64 e, .int .i64 k] := by
  obtain ⟨_, _, _, _, _, _, h6, h7, h8, h9⟩ := c.blk.cells
  intro j v hj
  match j, hj with
  | 0, hj => simp at hj; subst hj; exact h6
  | 1, hj => simp at hj; subst hj; exact h7
  | 2, hj => simp at hj; subst hj; exact h8
  | 3, hj => simp at hj; subst hj; exact h9
  | j + 4, hj => simp at hj
end
theorem told_info : (Tryd.prog.info? 49).map (·.size) = some 4 := by kernel_rfl
theorem told_info' (c : Array Value) (h : c.size = 4) : (Tryd.prog.info? 49).map (·.size) = some c.size := by rw [h]; exact told_info
theorem told_one (a1 a2 : Option Addr) (n1 c1 n2 c2 : Nat) (e k : Int) : (tA (.slice a1 n1 c1) (.slice a2 n2 c2) e k).all (·.oneCell') = true := by simp [tA, Value.oneCell']
/-- what Scan tells, of sectors -/
def scOf (x : Int) (n : Nat) (fs : List Int) : SS := scEnd (x % 4294967296) (flatB x n fs 16) (flatK x n fs 16)
/-- what Scan leaves -/
def ScanF (n : Nat) (fs : List Int) (S : SS) (w : World) (r : Ending) (w' : World) : Prop :=
  ∃ rv pv es, r = .returned (.agg (tA rv pv (S.fin : Nat) (scKind n fs S.fin))) ∧ SR w.heap.size w' rv es.length es (.slice none 0 0) ∧ es.map Prod.fst = S.recs ∧ w'.ownsRow w.heap.size 3 1 pv S.places.length (il .i64 S.places) ∧ Below w.heap.size w w'
set_option maxRecDepth 8000 in
set_option maxHeartbeats 4000000 in
theorem scan_any (x : Int) (hx : U64 x) (v : Value) (n : Nat) (fs : List Int) (hbf : isB fs) (w : World) (h : FS w v n fs) (hT : Tab w) :
    Calls Tryd.prog 13 #[.int .u64 x, v] w (ScanF n fs (scOf x n fs) w) := by
  obtain ⟨wa, hwa⟩ : ∃ q, w.alloc (.cells (tA (.slice none 0 0) (.slice none 0 0) 0 0) 49) = q := ⟨_, rfl⟩
  have hba : Below w.heap.size w wa := by rw [← hwa]; exact balloc w _
  have HBA := Lib.hid hba
  have HRA : Hid (wa.heap[w.heap.size]? = some (.cells (tA (.slice none 0 0) (.slice none 0 0) 0 0) 49 (0, 0))) := Lib.hid (by rw [← hwa]; exact heap_alloc_last w _)
  have HNS := Lib.hid (newscan_any x hx v n fs (bytes_of_mem hbf) wa (h.keep hba))
  have hfl := h.length
  have hB : (flatB x n fs 16).length = 832 := flatB_length x n fs hfl 16
  have hBb := flatB_bytes x n fs hbf 16
  have HGO : Hid (∀ (W w1 : World) (sb jb : Nat) (bv kv : Value), Below wa.heap.size wa W → RI .u8 W bv 832 (flatB x n fs 16) → BS W kv 16 (flatK x n fs 16) → SX W w1 sb jb (x % 4294967296) bv kv sc0 → Calls Tryd.prog 26 #[.func (.func 27) #[.pointer (some ⟨sb, 0, none⟩)] #[]] w1 fun r w' => r = .returned (.tuple #[]) ∧
      ∃ t, SX W w' sb jb (x % 4294967296) bv kv t ∧ t.recs = (scOf x n fs).recs ∧ t.places = (scOf x n fs).places ∧ t.fin = (scOf x n fs).fin) := Lib.hid fun W w1 sb jb bv kv h1 h2 h3 h4 => goon_any h4 (hT.keep (bch hba h1)) hB hBb h2 h3
  have HFS := Lib.hid (h.keep hba)
  have hfin : (scOf x n fs).fin ≤ 832 := by
    have hgo : ∀ k s, s.Ok → (scGo (x % 4294967296) (flatB x n fs 16) (flatK x n fs 16) k s).Ok := fun k => by
      induction k with
      | zero => exact fun s hs => hs
      | succ k ih =>
        intro s hs
        unfold scGo
        cases hn : scNext (x % 4294967296) (flatB x n fs 16) (flatK x n fs 16) s with
        | none => exact hs
        | some t => exact ih t (scNext_ok hB hs hn).1
    exact (hgo 832 sc0 sc0_ok).fin
  generalize scOf x n fs = S at *
  generalize flatB x n fs 16 = B at *
  generalize flatK x n fs 16 = K at *
  obtain ⟨e32, he⟩ : ∃ e32, x % 4294967296 = e32 := ⟨_, rfl⟩
  rw [he] at HNS HGO
  obtain ⟨S0, S1, S2, S3, Srecs, Splaces, e⟩ := S
  dsimp only at HGO hfin
  obtain ⟨y, hy⟩ : ∃ y, restB n fs e = y := ⟨_, rfl⟩
  have HRE : Hid (∀ w, FS w v n fs → Calls Tryd.prog 28 #[v, .int .i64 e] w fun r w' => r = .returned (.bool y) ∧ Below w.heap.size w w') := Lib.hid fun w h => by
    have := rest_any v n fs (e : Int) (by unfold I63; omega) w h; rwa [nr_nat e hfin, hy] at this
  have HKD : Hid (scKind n fs e = if y = true then 1 else 2) := Lib.hid (by unfold scKind; rw [hy])
  obtain ⟨va, vc, rfl⟩ : ∃ a c, v = .slice a n c := by obtain ⟨a, c, q, _⟩ := h; exact ⟨a, c, q⟩
  have hmf := scan_mf_run
  have HWA : Hid (w.heap.size < wa.heap.size) := Lib.hid (by rw [← hwa, alloc_size]; omega)
  clear hx hbf h hT hba hfl hB hBb he hy
  cases y with
  | true =>
    go_enter Tryd.func13, Tryd.ntmps13
    go_wp2_with (first
      | (go_at_call 25; (refine HNS.out.mono ?_); rintro r w1 ⟨W, sb, jb, bv, kv, rfl, hbw, hbv, hkv, hsx⟩; have HBW := Lib.hid hbw; have HG1 := Lib.hid (HGO.out W w1 sb jb bv kv hbw hbv hkv hsx); clear hbw hbv hkv hsx)
      | (go_at_call 26; (refine HG1.out.mono ?_); rintro r w2 ⟨rfl, t, ⟨hv, rv, es, pv, hc, hes⟩, h1, h2, h3⟩; have HD2 := Lib.hid hc.sd; obtain ⟨ra, rc, rfl⟩ := own_form hc.recs.row; obtain ⟨pa, pc, rfl⟩ := own_form hc.places; rw [h2, h3] at HD2; have HES := Lib.hid (hes.trans h1); clear hc hes h1 h2 h3; have z9 := HD2.out.blk.cells.2.2.2.2.2.2.2.2.2; have f9 := HD2.out.blk.frozen 9; obtain ⟨w3, hw3⟩ : ∃ q, w2.setCell ⟨sb, 9, none⟩ (.int .i64 2) = q := ⟨_, rfl⟩; have HD3 := Lib.hid (show SD W w3 _ _ _ _ _ _ _ _ _ _ _ _ _ from by rw [← hw3]; exact HD2.out.set9 2); have z8 := HD3.out.blk.cells.2.2.2.2.2.2.2.2.1; clear HD2)
      | (go_at_call 28; (refine (HRE.out _ (HFS.out.keep (bch HBW.out HD3.out.below))).mono ?_); rintro r w4 ⟨rfl, hb⟩; have HD4 := Lib.hid (HD3.out.keep hb); have z94 := HD4.out.blk.cells.2.2.2.2.2.2.2.2.2; have f94 := HD4.out.blk.frozen 9; clear hb; obtain ⟨w5, hw5⟩ : ∃ q, w4.setCell ⟨sb, 9, none⟩ (.int .i64 1) = q := ⟨_, rfl⟩; have HD5 := Lib.hid (show SD W w5 _ _ _ _ _ _ _ _ _ _ _ _ _ from by rw [← hw5]; exact HD4.out.set9 1))
      | (refine wpList_load_mid rfl 49 (.tmp 29) rfl sb 6 rfl _ _ HD5.out.range Tryd.underlying49 rfl told_info ?_)
      | (refine wpList_store_row rfl 49 _ _ rfl w.heap.size (tA (.slice ra es.length rc) (.slice pa Splaces.length pc) e 1) rfl rfl _ _ (((bch HBW.out HD5.out.below).block _ HWA.out).trans HRA.out) (told_info' _ rfl) rfl (told_one _ _ _ _ _ _ _ _) ?_))
    refine bodyPost_ret_by (v := .agg (tA (.slice ra es.length rc) (.slice pa Splaces.length pc) e 1)) (results_cell_row rfl _ _ w.heap.size _ (tA (.slice ra es.length rc) (.slice pa Splaces.length pc) e 1) (0, 0) _ rfl (setRow_heap _ _ _ _ _ _ (((bch HBW.out HD5.out.below).block _ HWA.out).trans HRA.out)) Tryd.underlying49 rfl (told_info' _ rfl)) rfl ?_
    have hz : w.heap.size ≤ W.heap.size := Nat.le_trans (Nat.le_of_lt HWA.out) HBW.out.size
    have hne : ∀ {base n q : Nat} {t : TypeId} {u : Value} {xs : List Value}, W.heap.size ≤ base → w5.ownsRow base t q u n xs → (w5.setRow w.heap.size (tA (.slice ra es.length rc) (.slice pa Splaces.length pc) e 1)).ownsRow base t q u n xs := fun hbs ho =>
      own_over ho ⟨rfl, rfl, rfl, by simp, fun i _ hne => setRow_other w5 w.heap.size i _ (fun e => hne (by rw [e]))⟩ (fun g hg x => by have h1 := (ho.lt g hg).1; have h2 := HBW.out.size; have h3 := HWA.out; have h4 := Option.some.inj x; omega)
    exact ⟨_, _, es, by rw [HKD.out]; rfl, ⟨own_mono (hne (Nat.le_refl _) HD5.out.recs.row) hz, fun x hx => own_mono (hne (Nat.le_refl _) (HD5.out.recs.data x hx)) hz, HD5.out.recs.apart⟩, HES.out, own_mono (hne (Nat.le_refl _) HD5.out.places) hz, brow (bch HBA.out (bch HBW.out HD5.out.below)) (Nat.le_refl _) (Nat.le_refl _) _⟩
  | false =>
    go_enter Tryd.func13, Tryd.ntmps13
    go_wp2_with (first
      | (go_at_call 25; (refine HNS.out.mono ?_); rintro r w1 ⟨W, sb, jb, bv, kv, rfl, hbw, hbv, hkv, hsx⟩; have HBW := Lib.hid hbw; have HG1 := Lib.hid (HGO.out W w1 sb jb bv kv hbw hbv hkv hsx); clear hbw hbv hkv hsx)
      | (go_at_call 26; (refine HG1.out.mono ?_); rintro r w2 ⟨rfl, t, ⟨hv, rv, es, pv, hc, hes⟩, h1, h2, h3⟩; have HD2 := Lib.hid hc.sd; obtain ⟨ra, rc, rfl⟩ := own_form hc.recs.row; obtain ⟨pa, pc, rfl⟩ := own_form hc.places; rw [h2, h3] at HD2; have HES := Lib.hid (hes.trans h1); clear hc hes h1 h2 h3; have z9 := HD2.out.blk.cells.2.2.2.2.2.2.2.2.2; have f9 := HD2.out.blk.frozen 9; obtain ⟨w3, hw3⟩ : ∃ q, w2.setCell ⟨sb, 9, none⟩ (.int .i64 2) = q := ⟨_, rfl⟩; have HD3 := Lib.hid (show SD W w3 _ _ _ _ _ _ _ _ _ _ _ _ _ from by rw [← hw3]; exact HD2.out.set9 2); have z8 := HD3.out.blk.cells.2.2.2.2.2.2.2.2.1; clear HD2)
      | (go_at_call 28; (refine (HRE.out _ (HFS.out.keep (bch HBW.out HD3.out.below))).mono ?_); rintro r w4 ⟨rfl, hb⟩; have HD4 := Lib.hid (HD3.out.keep hb); have z94 := HD4.out.blk.cells.2.2.2.2.2.2.2.2.2; have f94 := HD4.out.blk.frozen 9; clear hb; have HD5 := HD4)
      | (refine wpList_load_mid rfl 49 (.tmp 29) rfl sb 6 rfl _ _ HD5.out.range Tryd.underlying49 rfl told_info ?_)
      | (refine wpList_store_row rfl 49 _ _ rfl w.heap.size (tA (.slice ra es.length rc) (.slice pa Splaces.length pc) e 2) rfl rfl _ _ (((bch HBW.out HD5.out.below).block _ HWA.out).trans HRA.out) (told_info' _ rfl) rfl (told_one _ _ _ _ _ _ _ _) ?_))
    refine bodyPost_ret_by (v := .agg (tA (.slice ra es.length rc) (.slice pa Splaces.length pc) e 2)) (results_cell_row rfl _ _ w.heap.size _ (tA (.slice ra es.length rc) (.slice pa Splaces.length pc) e 2) (0, 0) _ rfl (setRow_heap _ _ _ _ _ _ (((bch HBW.out HD5.out.below).block _ HWA.out).trans HRA.out)) Tryd.underlying49 rfl (told_info' _ rfl)) rfl ?_
    have hz : w.heap.size ≤ W.heap.size := Nat.le_trans (Nat.le_of_lt HWA.out) HBW.out.size
    have hne : ∀ {base n q : Nat} {t : TypeId} {u : Value} {xs : List Value}, W.heap.size ≤ base → w4.ownsRow base t q u n xs → (w4.setRow w.heap.size (tA (.slice ra es.length rc) (.slice pa Splaces.length pc) e 2)).ownsRow base t q u n xs := fun hbs ho =>
      own_over ho ⟨rfl, rfl, rfl, by simp, fun i _ hne => setRow_other w4 w.heap.size i _ (fun e => hne (by rw [e]))⟩ (fun g hg x => by have h1 := (ho.lt g hg).1; have h2 := HBW.out.size; have h3 := HWA.out; have h4 := Option.some.inj x; omega)
    exact ⟨_, _, es, by rw [HKD.out]; rfl, ⟨own_mono (hne (Nat.le_refl _) HD5.out.recs.row) hz, fun x hx => own_mono (hne (Nat.le_refl _) (HD5.out.recs.data x hx)) hz, HD5.out.recs.apart⟩, HES.out, own_mono (hne (Nat.le_refl _) HD5.out.places) hz, brow (bch HBA.out (bch HBW.out HD5.out.below)) (Nat.le_refl _) (Nat.le_refl _) _⟩
end Go.Proofs.YtepaghohojomeaaDoor
