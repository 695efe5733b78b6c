/-
  TEXTS JOINED: Region, DiskPut, NameRight, DiskSt, DiskOps, DiskSync, DiskMake. Each one's own words stand at its head.
-/
import Derived.WalkKit
import Derived.Deep.RegionHeld3
import Derived.Test.YtpoiapfgbbmekaaGreatDoorJ1
import Derived.Test.YtpoiapfgbbmekaaGreatDoorJ0
import Derived.Lib.Strings
namespace Go.Proofs.YtpoiapfgbbmekaaGreatDoor
open Go
section
variable {P : Program} {md : Region.Mode} {ops : Array Oper} {Q : Exit → Act → World → Prop} {S : World → Prop}
theorem rg_one {fuel : Nat} {listed : Array Bool} {a : Act} {w : World} (i : Nat) (o : Oper) (hr : Region.ready md ops listed = [i]) (ho : ops[i]? = some o)
    (h : ∀ K' : Act → World → Prop, Shut (∀ a w, S w → (S w → wpAnyH P md ops Q S fuel (listed.setIfInBounds i true) a w) → K' a w) → if Region.wanted o (yielded ops a.tmps) = true then Oper.wp P o a w K' Q else K' (a.put o.dst undef) w) :
    wpAnyH P md ops Q S (fuel + 1) listed a w :=
  wpAnyH_ready hr (by simp) (AllReadyH.cons ho h AllReadyH.nil)
def RgQuiet (P : Program) (ops : Array Oper) (Q : Exit → Act → World → Prop) (S : World → Prop) (o : Oper) (a : Act) (v : Value) : Prop :=
  ∀ w, S w → ∀ K' : Act → World → Prop, Shut (∀ w', S w' → K' (a.put o.dst v) w') → if Region.wanted o (yielded ops a.tmps) = true then Oper.wp P o a w K' Q else K' (a.put o.dst undef) w
theorem rg_two {fuel : Nat} {listed : Array Bool} {a : Act} {w : World} (i j : Nat) (oi oj : Oper) (vi vj : Value)
    (hr : Region.ready md ops listed = [i, j]) (hri : Region.ready md ops (listed.setIfInBounds i true) = [j]) (hrj : Region.ready md ops (listed.setIfInBounds j true) = [i])
    (hoi : ops[i]? = some oi) (hoj : ops[j]? = some oj) (hS : S w)
    (hi : RgQuiet P ops Q S oi a vi) (hj : RgQuiet P ops Q S oj (a.put oi.dst vi) vj)
    (hj2 : RgQuiet P ops Q S oj a vj) (hi2 : RgQuiet P ops Q S oi (a.put oj.dst vj) vi)
    (hc : (a.put oj.dst vj).put oi.dst vi = (a.put oi.dst vi).put oj.dst vj)
    (h : ∀ w', S w' → wpAnyH P md ops Q S fuel ((listed.setIfInBounds i true).setIfInBounds j true) ((a.put oi.dst vi).put oj.dst vj) w') :
    wpAnyH P md ops Q S (fuel + 2) listed a w := by
  have hne : i ≠ j := fun e => by subst e; have h1 := hri; rw [← hrj] at h1; have := congrArg List.length (hr); have h3 : i ∈ Region.ready md ops (listed.setIfInBounds i true) := by rw [hri]; simp
                                  simp [Region.ready] at h3
  refine wpAnyH_ready hr (by simp) (AllReadyH.cons hoi (fun K hK => hi w hS K fun w1 h1 => hK _ _ h1 fun _ => ?_) (AllReadyH.cons hoj (fun K hK => hj2 w hS K fun w1 h1 => hK _ _ h1 fun _ => ?_) AllReadyH.nil))
  · exact wpAnyH_ready hri (by simp) (AllReadyH.cons hoj (fun K hK => hj w1 h1 K fun w2 h2 => hK _ _ h2 fun _ => h w2 h2) AllReadyH.nil)
  · refine wpAnyH_ready hrj (by simp) (AllReadyH.cons hoi (fun K hK => hi2 w1 h1 K fun w2 h2 => hK _ _ h2 fun _ => ?_) AllReadyH.nil)
    rw [hc, Array.setIfInBounds_comm _ _ (Ne.symm hne)]
    exact h w2 h2
theorem rg_both {fuel : Nat} {listed : Array Bool} {a : Act} {w : World} (i j : Nat) (oi oj : Oper) (hr : Region.ready md ops listed = [i, j]) (hoi : ops[i]? = some oi) (hoj : ops[j]? = some oj)
    (hi : ∀ K' : Act → World → Prop, Shut (∀ a w, S w → (S w → wpAnyH P md ops Q S fuel (listed.setIfInBounds i true) a w) → K' a w) → if Region.wanted oi (yielded ops a.tmps) = true then Oper.wp P oi a w K' Q else K' (a.put oi.dst undef) w)
    (hj : ∀ K' : Act → World → Prop, Shut (∀ a w, S w → (S w → wpAnyH P md ops Q S fuel (listed.setIfInBounds j true) a w) → K' a w) → if Region.wanted oj (yielded ops a.tmps) = true then Oper.wp P oj a w K' Q else K' (a.put oj.dst undef) w) :
    wpAnyH P md ops Q S (fuel + 1) listed a w :=
  wpAnyH_ready hr (by simp) (AllReadyH.cons hoi hi (AllReadyH.cons hoj hj AllReadyH.nil))
theorem rg_three {fuel : Nat} {listed : Array Bool} {a : Act} {w : World} (i j k : Nat) (oi oj ok : Oper) (hr : Region.ready md ops listed = [i, j, k]) (hoi : ops[i]? = some oi) (hoj : ops[j]? = some oj) (hok : ops[k]? = some ok)
    (hi : ∀ K' : Act → World → Prop, Shut (∀ a w, S w → (S w → wpAnyH P md ops Q S fuel (listed.setIfInBounds i true) a w) → K' a w) → if Region.wanted oi (yielded ops a.tmps) = true then Oper.wp P oi a w K' Q else K' (a.put oi.dst undef) w)
    (hj : ∀ K' : Act → World → Prop, Shut (∀ a w, S w → (S w → wpAnyH P md ops Q S fuel (listed.setIfInBounds j true) a w) → K' a w) → if Region.wanted oj (yielded ops a.tmps) = true then Oper.wp P oj a w K' Q else K' (a.put oj.dst undef) w)
    (hk : ∀ K' : Act → World → Prop, Shut (∀ a w, S w → (S w → wpAnyH P md ops Q S fuel (listed.setIfInBounds k true) a w) → K' a w) → if Region.wanted ok (yielded ops a.tmps) = true then Oper.wp P ok a w K' Q else K' (a.put ok.dst undef) w) :
    wpAnyH P md ops Q S (fuel + 1) listed a w :=
  wpAnyH_ready hr (by simp) (AllReadyH.cons hoi hi (AllReadyH.cons hoj hj (AllReadyH.cons hok hk AllReadyH.nil)))
theorem rg_strong {S' : World → Prop} (hs : ∀ w, S' w → S w) : ∀ (fuel : Nat) (listed : Array Bool) (a : Act) (w : World), wpAnyH P md ops Q S' fuel listed a w → wpAnyH P md ops Q S fuel listed a w
  | 0, _, _, _, h => h
  | fuel + 1, _, _, _, h => ⟨h.1, fun i hi => wpOp_mono (fun a' w' h' => ⟨hs w' h'.1, rg_strong hs fuel _ a' w' h'.2⟩) (h.2 i hi)⟩
theorem rgt {v : Value} {fuel : Nat} {listed : Array Bool} {a : Act} {w : World} (i : Nat) {oi : Oper} (hi : ops[i]? = some oi) (hy : YieldsIf P ops S oi v a) (hS : S w)
    (h : wpAnyH P md ops Q S fuel (listed.setIfInBounds i true) (a.put oi.dst v) w) (hs : Region.noSelect ops = true := by kernel_rfl) (hf : Region.free md ops listed i = true := by kernel_rfl)
    (hr : (Region.ready md ops listed).contains i = true := by kernel_rfl) (hQ : ∀ c a w, Q (.panic c) (a.put oi.dst v) w → Q (.panic c) a w := by intro _ _ _ h; exact h) : wpAnyH P md ops Q S (fuel + 1) listed a w :=
  wpAnyH_take hi hs hf hr hQ hy hS h
theorem rgp : (∀ (a : Act) (d : Tmp) (v : Value), a.put (some d) v = { a with tmps := a.tmps.setIfInBounds d v }) ∧ (∀ (a : Act) (v : Value), a.put none v = a) ∧
    (∀ (l : List Value) (i : Nat) (x : Value), l.toArray.setIfInBounds i x = (l.set i x).toArray) ∧ (∀ (x y : Value) (l : List Value), (x :: l).set 0 y = y :: l) ∧ (∀ (x y : Value) (l : List Value) (n : Nat), (x :: l).set (n + 1) y = x :: l.set n y) :=
  ⟨fun _ _ _ => rfl, fun _ _ => rfl, fun _ _ _ => by simp, fun _ _ _ => rfl, fun _ _ _ _ => rfl⟩
theorem rgw {v : Value} {fuel : Nat} {listed : Array Bool} {a : Act} {a' : Act} {w : World} (i : Nat) (oi : Oper) (hS : S w)
    (h : wpAnyH P md ops Q S fuel (listed.setIfInBounds i true) a' w) (hi : ops[i]? = some oi := by rfl) (hw : Region.wanted oi (yielded ops a.tmps) = true := by rfl)
    (hy : ∀ w, S w → (execOp a.eval oi).run P w = .ok (.value v) w := by intro w hSw; (try dsimp only at hSw); go_simp; try with_reducible rfl)
    (ha : a.put oi.dst v = a' := by (try simp only [rgp]); rfl)
    (hs : Region.noSelect ops = true := by kernel_rfl) (hf : Region.free md ops listed i = true := by kernel_rfl)
    (hr : (Region.ready md ops listed).contains i = true := by kernel_rfl) (hQ : ∀ c a w, Q (.panic c) (a.put oi.dst v) w → Q (.panic c) a w := by intro _ _ _ h; exact h) : wpAnyH P md ops Q S (fuel + 1) listed a w :=
  wpAnyH_take hi hs hf hr hQ (.inl ⟨hw, hy⟩) hS (by rw [ha]; exact h)
end
end Go.Proofs.YtpoiapfgbbmekaaGreatDoor
namespace Go.Proofs.YtpoiapfgbbmekaaGreatDoor
open Go.RowKit
def insT (L : List AF) (f : AF) (i : Nat) : List AF := if insK L f < i then L.take (insK L f) ++ f :: (L.take i).drop (insK L f) else L.take i
theorem insT_zero (L : List AF) (f : AF) : insT L f 0 = [] := by unfold insT; rw [if_neg (by omega)]; simp
theorem insT_low (L : List AF) (f : AF) (i : Nat) (g : AF) (hg : L[i]? = some g) (h : i < insK L f) : insT L f (i + 1) = insT L f i ++ [g] := by
  obtain ⟨hi, rfl⟩ := List.getElem?_eq_some_iff.1 hg
  unfold insT
  rw [if_neg (by omega), if_neg (by omega), List.take_succ_eq_append_getElem hi]
theorem insT_at (L : List AF) (f : AF) (i : Nat) (g : AF) (hg : L[i]? = some g) (h : i = insK L f) : insT L f (i + 1) = insT L f i ++ [f] ++ [g] := by
  obtain ⟨hi, rfl⟩ := List.getElem?_eq_some_iff.1 hg
  unfold insT
  rw [if_pos (by omega), if_neg (by omega), ← h, List.take_succ_eq_append_getElem hi, List.drop_append_of_le_length (by simp; omega), List.drop_of_length_le (by simp; omega)]
  simp
theorem insT_high (L : List AF) (f : AF) (i : Nat) (g : AF) (hg : L[i]? = some g) (h : insK L f < i) : insT L f (i + 1) = insT L f i ++ [g] := by
  obtain ⟨hi, rfl⟩ := List.getElem?_eq_some_iff.1 hg
  unfold insT
  rw [if_pos (by omega), if_pos h, List.take_succ_eq_append_getElem hi, List.drop_append_of_le_length (by simp; omega)]
  simp
theorem insT_all (L : List AF) (f : AF) (h : insK L f < L.length) : insT L f L.length = insF L f := by
  unfold insT insF; rw [if_pos h, List.take_length]
theorem insT_none (L : List AF) (f : AF) (h : ¬ insK L f < L.length) : insT L f L.length ++ [f] = insF L f := by
  have he : insK L f = L.length := by have := insK_le L f; omega
  unfold insT insF; rw [if_neg h, he, List.take_length, List.drop_length]
theorem insT_len (L : List AF) (f : AF) (i : Nat) : (insT L f i).length ≤ L.length + 1 := by
  unfold insT; split
  · simp; omega
  · simp; omega
theorem insK_lt (L : List AF) (f : AF) (i : Nat) (g : AF) (hg : L[i]? = some g) (h : i < insK L f) : gtN g.name f.name = false := by
  obtain ⟨hi, rfl⟩ := List.getElem?_eq_some_iff.1 hg
  have := List.not_of_lt_findIdx (p := fun g : AF => gtN g.name f.name) (xs := L) h
  simpa using this
theorem insK_eq (L : List AF) (f : AF) (i : Nat) (g : AF) (hg : L[i]? = some g) (h : i = insK L f) : gtN g.name f.name = true := by
  obtain ⟨hi, rfl⟩ := List.getElem?_eq_some_iff.1 hg
  subst h
  exact List.findIdx_getElem (p := fun g : AF => gtN g.name f.name) (xs := L) (w := hi)
structure Bp (w : World) (cs : Array Value) (fc : Array Value) (W3 : World) : Prop where
  below : Below w.heap.size w W3
  size : W3.heap.size = w.heap.size + 3
  d0 : DB W3 w.heap.size cs
  f1 : W3.heap[w.heap.size + 1]? = some (.cells fc 85 (0, 0))
  d2 : DB W3 (w.heap.size + 2) dz
theorem Bp.start (w : World) (cs : Array Value) (h : cs.size = 6) (fc : Array Value) :
    Bp w cs fc (((w.alloc (.cells cs 28)).alloc (.cells fc 85)).alloc (.cells dz 28)) := by
  have k0 := heap_alloc_last w (.cells cs 28)
  have s0 := alloc_size w (.cells cs 28)
  have b0 := below_alloc w (.cells cs 28)
  generalize w.alloc (.cells cs 28) = w0 at *
  have k1 := heap_alloc_last w0 (.cells fc 85)
  have s1 := alloc_size w0 (.cells fc 85)
  have b1 := below_alloc w0 (.cells fc 85)
  generalize w0.alloc (.cells fc 85) = w1 at *
  have k2 := heap_alloc_last w1 (.cells dz 28)
  have s2 := alloc_size w1 (.cells dz 28)
  have b2 := below_alloc w1 (.cells dz 28)
  generalize w1.alloc (.cells dz 28) = w2 at *
  rw [s0] at k1
  rw [s1, s0] at k2
  refine ⟨chain (chain b0 b1) b2, by omega, ⟨?_, h⟩, ?_, ⟨k2, rfl⟩⟩
  · rw [b2.block _ (by omega), b1.block _ (by omega)]; exact k0
  · rw [b2.block _ (by omega)]; exact k1
structure Bq (F F1 : Nat → Bool) (w : World) (cs fc : Array Value) (e : List Value) (f : AF) (lv : Value) (L : List AF) (W : World) : Prop where
  ext : Ext F w W F1
  below : Below w.heap.size w W
  lt : w.heap.size + 3 ≤ W.heap.size
  d0 : DB W w.heap.size cs
  f1 : W.heap[w.heap.size + 1]? = some (.cells fc 85 (0, 0))
  d2 : DB W (w.heap.size + 2) dz
  rl : FLs (mask F1 W) lv L
  rf : RF (mask F1 W) e f
  foot : Foot F1 W.heap.size
  sub : ∀ k, F k = true → F1 k = true
theorem Bq.start {F F1 : Nat → Bool} {w W3 w1 : World} {cs cs' fc : Array Value} {e : List Value} {f : AF} {lv : Value} {L : List AF} (hx : Bp w cs fc W3) (he : Ext F w W3 F1) (hb : Below W3.heap.size W3 w1)
    (hl : FLs (mask F1 w1) lv L) (hrf : RF (mask F1 W3) e f) (hin : F1 w.heap.size = true) (hsub : ∀ k, F k = true → F1 k = true) (hfoot : Foot F1 W3.heap.size) (hc : cs'.size = 6) :
    Bq F F1 w cs' fc e f lv L (w1.setRow w.heap.size cs') := by
  have hs := hx.size
  have h1 : Ext F1 w1 (w1.setRow w.heap.size cs') F1 := (Ext.refl F1 w1).setRow _ hin _
  have h0 : Ext F1 W3 (w1.setRow w.heap.size cs') F1 := (Ext.below hb).trans h1
  have h2 := (hx.d0.below hb (by omega)).row hc
  have hsz : (w1.setRow w.heap.size cs').heap.size = w1.heap.size := by simp
  have hw1 := hb.size
  refine ⟨he.trans h0, below_row (chain hx.below hb) (Nat.le_refl _) _, by omega, h2, ?_, ⟨?_, rfl⟩, hl.kin h1.kin, hrf.kin h0.kin, hfoot.mono (by omega), hsub⟩
  · rw [setRow_other _ _ _ _ (by omega), hb.block _ (by omega)]; exact hx.f1
  · rw [setRow_other _ _ _ _ (by omega), hb.block _ (by omega)]; exact hx.d2.1
theorem last_below' {B : Nat} {w wr : World} (hb : Below B w wr) (g r : Nat) (hg : B ≤ g) (hr : B ≤ r) (v : Value) (cs : Array Value) : Below B w ((wr.setCell ⟨g, 0, none⟩ v).setRow r cs) :=
  have h1 : Below B w (wr.setCell ⟨g, 0, none⟩ v) := hb.setCell hg v
  below_row h1 hr cs
theorem last_heap' (wr : World) (g r : Nat) (v : Value) (cs : Array Value) (k : Nat) (hk : k ≠ g) (hk2 : k ≠ r) : ((wr.setCell ⟨g, 0, none⟩ v).setRow r cs).heap[k]? = wr.heap[k]? := by
  rw [setRow_other _ r k cs hk2, Below.heap_setCell wr ⟨g, 0, none⟩ v k (by show k ≠ g; exact hk)]
set_option maxRecDepth 8000 in
set_option maxHeartbeats 4000000 in
theorem rwith_any (F : Nat → Bool) (vd : Value) (d : AD) (a1 : Option Addr) (c1 : Nat) (a2 : Option Addr) (c2 : Nat) (a3 : Option Addr) (c3 : Nat) (f : AF) (w : World) (hF : Foot F w.heap.size) (h : RD (mask F w) vd d)
    (hf : RF (mask F w) [.string f.name, .slice a1 f.n c1, .slice a2 f.n c2, .slice a3 f.n c3] f) (hn1 : d.L.length ≤ 1000000) :
    Calls Tryz.prog 51 #[vd, .agg #[.string f.name, .slice a1 f.n c1, .slice a2 f.n c2, .slice a3 f.n c3]] w fun e w' => ∃ v', e = .returned v' ∧ RD (mask F w') v' (d.withF f) ∧ Below w.heap.size w w' := by
  obtain ⟨a, cap, rfl, hl, hc1, hc2, _⟩ := h.form
  obtain ⟨n, hn⟩ : ∃ n, d.L.length = n := ⟨_, rfl⟩
  have hx := Bp.start w #[.slice a n cap, .int .i64 d.cap, .int .i64 d.ops, .bool d.down, .bool d.told, .int .i64 d.after] rfl #[.string f.name, .slice a1 f.n c1, .slice a2 f.n c2, .slice a3 f.n c3]
  obtain ⟨W3, hW3⟩ : ∃ W3, ((w.alloc (.cells #[.slice a n cap, .int .i64 d.cap, .int .i64 d.ops, .bool d.down, .bool d.told, .int .i64 d.after] 28)).alloc (.cells #[.string f.name, .slice a1 f.n c1, .slice a2 f.n c2, .slice a3 f.n c3] 85)).alloc (.cells dz 28) = W3 := ⟨_, rfl⟩
  rw [hW3] at hx
  have hext : Ext F w W3 (plusF F w.heap.size W3.heap.size) := plusF_ext hx.below
  have HE := Lib.hid hext
  have HFF := Lib.hid (plusF_foot hF (hx.below.size))
  have HRD := Lib.hid (h.kin hext.kin)
  have HRF := Lib.hid (hf.kin hext.kin)
  have hin0 := plusF_in F w.heap.size W3.heap.size w.heap.size (Nat.le_refl _) (by rw [hx.size]; omega)
  have hin2 := plusF_in F w.heap.size W3.heap.size (w.heap.size + 2) (by omega) (by rw [hx.size]; omega)
  have HX := Lib.hid hx
  have HF := Lib.hid hF
  obtain ⟨F1, hF1⟩ : ∃ F1, plusF F w.heap.size W3.heap.size = F1 := ⟨_, rfl⟩
  have HB1 : Hid (∀ k, w.heap.size ≤ k → k < W3.heap.size → F1 k = true) := Lib.hid fun k h1 h2 => by rw [← hF1]; exact plusF_in F _ _ k h1 h2
  have HM1 : Hid (∀ k, F k = true → F1 k = true) := Lib.hid fun k h1 => by rw [← hF1]; exact plusF_mono F _ _ k h1
  rw [hF1] at HE HFF HRD HRF hin0 hin2
  have HIN := Lib.hid (And.intro hin0 hin2)
  clear hin0 hin2
  have kn : W3.cell? ⟨w.heap.size + 1, 0, none⟩ = some (.string f.name) := by rw [cell_of_row _ _ 0 _ _ _ hx.f1]; rfl
  unfold dv at HRD ⊢
  rw [hn] at HRD hl hc1 ⊢
  rw [show dz = #[.slice none 0 0, .int .i64 0, .int .i64 0, .bool false, .bool false, .int .i64 0] from rfl] at hW3
  clear h hl hx hF hf hext hF1
  go_enter Tryz.func51, Tryz.ntmps51
  go_wp2_with (first
    | (refine wpList_load_row rfl 28 _ rfl w.heap.size rfl _ _ (0, 0) _ HX.out.d0.1 Tryz.underlying28 rfl HX.out.d0.info ?_)
    | (go_at_call 82; (refine (rwithout_any F1 _ d f.name _ HFF.out HRD.out hn1).mono ?_); rintro e w1 ⟨v1, rfl, hrd, hb⟩; obtain ⟨a', cap', rfl, hl', hcc, hcc2, hcc3⟩ := hrd.form; have HB := Lib.hid hb; have HL1 := Lib.hid hl'; obtain ⟨n', hn'⟩ : ∃ n', (d.without f.name).L.length = n' := ⟨_, rfl⟩; rw [hn'] at HL1 hcc; unfold dv; rw [hn']; have HN' := Lib.hid hn'; clear hb hl' hrd hn')
    | (refine wpList_store_row rfl 28 _ _ rfl w.heap.size #[.slice a' n' cap', .int .i64 d.cap, .int .i64 d.ops, .bool d.down, .bool d.told, .int .i64 d.after] rfl rfl _ _ (HX.out.d0.below HB.out (by rw [HX.out.size]; omega)).1 disk_info (by rfl) (by simp [Value.oneCell']) ?_; generalize hW4 : w1.setRow w.heap.size _ = W4))
  have HQ : Hid (Bq F F1 w #[.slice a' n' cap', .int .i64 d.cap, .int .i64 d.ops, .bool d.down, .bool d.told, .int .i64 d.after] #[.string f.name, .slice a1 f.n c1, .slice a2 f.n c2, .slice a3 f.n c3] [.string f.name, .slice a1 f.n c1, .slice a2 f.n c2, .slice a3 f.n c3] f (.slice a' n' cap') (withoutF d.L f.name) W4) := by
    rw [← hW4]
    exact Bq.start HX.out HE.out HB.out HL1.out HRF.out (HB1.out _ (Nat.le_refl _) (by rw [HX.out.size]; omega)) HM1.out HFF.out rfl
  have hn1' : n' ≤ 1000000 := by have h1 := HN'.out; have h2 := withoutF_len d.L f.name; unfold AD.without at h1; dsimp only at h1; omega
  have HN2 := Lib.hid (show (withoutF d.L f.name).length = n' from HN'.out)
  obtain ⟨L, hL⟩ : ∃ L, withoutF d.L f.name = L := ⟨_, rfl⟩
  rw [hL] at HQ HN2
  have HLE := Lib.hid hL
  clear HX HE HB HL1 HRF HB1 HM1 HFF HRD HN' hW4 hn hc1 hc2 hn1 hL
  obtain ⟨K, hK⟩ : ∃ K, insK L f = K := ⟨_, rfl⟩
  have HK := Lib.hid hK
  clear hK
  go_loopw [5, 6, 7] (fun lv pv iv wr => ∃ (i m : Nat) (es : List (List Value)), iv = .int .i64 i ∧ i ≤ n' ∧ pv = .bool (decide (K < i)) ∧ (insT L f i).length = m ∧ Hid (wr.ownsRow W4.heap.size 85 4 lv m es.flatten) ∧ Hid (RFs (mask F1 W4) es (insT L f i)) ∧ Hid (Below W4.heap.size W4 wr)) (fun _ _ iv _ => n' - (intOf iv).toNat)
  case atStart => exact ⟨0, 0, [], rfl, by omega, by simp, by rw [insT_zero]; rfl, Lib.hid (World.ownsRow_nil _ _ _ _), by rw [insT_zero]; exact Lib.hid (RFs.nil _), Lib.hid (Below.refl _ _)⟩
  case round =>
    obtain ⟨i, m, es, rfl, hi, rfl, hm, HO, HR, HB⟩ := hrel
    have hcw : wr.cell? ⟨w.heap.size, 0, none⟩ = some (.slice a' n' cap') := by
      have := (HQ.out.d0.below HB.out (by have := HQ.out.lt; omega)).cell 0
      simpa using this
    have HM := Lib.hid hm
    have hml : m ≤ 1000001 := by have := insT_len L f i; have := HN2.out; omega
    clear hm
    by_cases hlt : (i : Int) < (n' : Int)
    · obtain ⟨g, hg⟩ := row_some (L := L) (i := i) (by have := HN2.out; omega)
      obtain ⟨b, off, a4, c4, a5, c5, a6, c6, rfl, k0, k1, k2, k3, f1, f2, f3⟩ := HQ.out.rl.form4 i g hg
      have hk : Kin (mask F1 W4) wr := (unmask F1 W4).trans (Kin.below HB.out)
      have HCELL : Hid (∀ w3, Below W4.heap.size W4 w3 → w3.cell? ⟨w.heap.size, 0, none⟩ = some (.slice (some ⟨b, off, none⟩) n' cap') ∧ w3.cell? ⟨b, off + i * 4, none⟩ = some (.string g.name) ∧ w3.cell? ⟨b, off + i * 4 + 1, none⟩ = some (.slice a4 g.n c4) ∧ w3.cell? ⟨b, off + i * 4 + 2, none⟩ = some (.slice a5 g.n c5) ∧ w3.cell? ⟨b, off + i * 4 + 3, none⟩ = some (.slice a6 g.n c6)) := Lib.hid fun w3 hb3 => by
        have hk3 : Kin (mask F1 W4) w3 := (unmask F1 W4).trans (Kin.below hb3)
        have h0 := (HQ.out.d0.below hb3 (by have := HQ.out.lt; omega)).cell 0
        exact ⟨by simpa using h0, hk3 _ _ k0, hk3 _ _ k1, hk3 _ _ k2, hk3 _ _ k3⟩
      replace k0 := hk _ _ k0
      replace k1 := hk _ _ k1
      replace k2 := hk _ _ k2
      replace k3 := hk _ _ k3
      have HRG : Hid (RF (mask F1 W4) [.string g.name, .slice a4 g.n c4, .slice a5 g.n c5, .slice a6 g.n c6] g) := Lib.hid ⟨_, _, _, rfl, f1, f2, f3⟩
      have HG := Lib.hid hg
      clear hk f1 f2 f3 hg
      have HFC : ∀ (j : Nat) (v : Value), #[.string f.name, .slice a1 f.n c1, .slice a2 f.n c2, .slice a3 f.n c3][j]? = some v → wr.cell? ⟨w.heap.size + 1, j, none⟩ = some v := fun j v hv => by
        have h1 : wr.heap[w.heap.size + 1]? = _ := (HB.out.block _ (by have := HQ.out.lt; omega)).trans HQ.out.f1
        rw [cell_of_row _ _ j _ _ _ h1]; exact hv
      by_cases hK1 : K < i
      · rw [decide_eq_true hK1]
        have HST := Lib.hid (insT_high L f i g HG.out (by rw [HK.out]; exact hK1))
        have HP := Lib.hid (show decide (K < i + 1) = true from decide_eq_true (by omega))
        clear hK1 HFC
        go_wp2
        refine wp_region_held_drew (S := (fun w' => w' = wr.drew)) (by kernel_rfl) rfl (fun hS => ?_)
        refine rgw 0 ⟨some 19, .move (.tmp 6), 4, _, _, none⟩ hS ?_
        refine rgw 1 ⟨some 20, .unOp .not 4 (.tmp 19), 4, _, _, none⟩ hS ?_
        refine rgw 2 ⟨some 21, .move (.tmp 20), 4, _, _, none⟩ hS ?_
        refine rgt 3 (oi := ⟨some 22, .fieldAddr 28 (.tmp 2) 0, 0, _, _, some (2, true)⟩) (v := undef) rfl (.inr ⟨by rfl, rfl⟩) hS ?_
        (try simp only [rgp])
        refine rgt 4 (oi := ⟨some 23, .load 26 (.tmp 22), 26, _, _, some (2, true)⟩) (v := undef) rfl (.inr ⟨by rfl, rfl⟩) hS ?_
        (try simp only [rgp])
        refine rgt 5 (oi := ⟨some 24, .move (.tmp 7), 3, _, _, some (2, true)⟩) (v := undef) rfl (.inr ⟨by rfl, rfl⟩) hS ?_
        (try simp only [rgp])
        refine rgt 6 (oi := ⟨some 25, .indexAddr 26 (.tmp 23) (.tmp 24), 0, _, _, some (2, true)⟩) (v := undef) rfl (.inr ⟨by rfl, rfl⟩) hS ?_
        (try simp only [rgp])
        refine rgt 7 (oi := ⟨some 26, .fieldAddr 85 (.tmp 25) 0, 0, _, _, some (2, true)⟩) (v := undef) rfl (.inr ⟨by rfl, rfl⟩) hS ?_
        (try simp only [rgp])
        refine rgt 8 (oi := ⟨some 27, .load 9 (.tmp 26), 9, _, _, some (2, true)⟩) (v := undef) rfl (.inr ⟨by rfl, rfl⟩) hS ?_
        (try simp only [rgp])
        refine rgt 9 (oi := ⟨some 28, .fieldAddr 85 (.tmp 3) 0, 0, _, _, some (2, true)⟩) (v := undef) rfl (.inr ⟨by rfl, rfl⟩) hS ?_
        (try simp only [rgp])
        refine rgt 10 (oi := ⟨some 29, .load 9 (.tmp 28), 9, _, _, some (2, true)⟩) (v := undef) rfl (.inr ⟨by rfl, rfl⟩) hS ?_
        (try simp only [rgp])
        refine rgt 11 (oi := ⟨some 30, .binOp .gtr 9 (.tmp 27) (.tmp 29) 9, 4, _, _, some (2, true)⟩) (v := undef) rfl (.inr ⟨by rfl, rfl⟩) hS ?_
        (try simp only [rgp])
        refine rgw 12 ⟨some 31, .pick (.tmp 21) (.tmp 30) (.const (.bool false)), 4, _, _, none⟩ hS ?_
        refine wpAnyH_done (by kernel_rfl) ?_ _
        clear hS
        go_wp2_with (first
          | (at_builtin; refine wpl_app_file rfl (.tmp 36) (.tmp 42) rfl W4.heap.size _ (m) es rfl (Lib.hid (own_keep HO.out (below_alloc wr _).drew)) wr.heap.size [.string g.name, .slice a4 g.n c4, .slice a5 g.n c5, .slice a6 g.n c6] rfl (show (wr.alloc _).heap[_]? = _ from heap_alloc_last wr _) rfl (by simp [Value.oneCell']) (by omega) W4.heap.size W4 (Lib.hid (HB.out.alloc HB.out.size _).drew) (Nat.le_refl _) (by show _ ≤ (wr.alloc _).heap.size; rw [alloc_size]; have := HB.out.size; omega) ?_; intro v3 w3 HO3 HB3))
        go_roundw
        case rel => exact ⟨i + 1, m + 1, es ++ [_], by go_num, by omega, by rw [HP.out], by rw [HST.out, List.length_append, HM.out]; rfl, HO3, by rw [HST.out]; exact Lib.hid (HR.out.snoc HRG.out), HB3⟩
        case measure => simp [intOf]; omega
      · rw [decide_eq_false hK1]
        by_cases hK2 : i = K
        · have HST := Lib.hid (insT_at L f i g HG.out (by rw [HK.out]; exact hK2))
          have HP := Lib.hid (show decide (K < i + 1) = true from decide_eq_true (by omega))
          have hgt := insK_eq L f i g HG.out (by rw [HK.out]; exact hK2)
          have hgr := fun w => gtr_run (P := Tryz.prog) 9 g.name f.name w
          simp only [hgt] at hgr
          clear hgt
          clear hK1 hK2
          have hf0 : wr.cell? ⟨w.heap.size + 1, 0, none⟩ = some (.string f.name) := HFC 0 _ rfl
          have hf1 : wr.cell? ⟨w.heap.size + 1, 1, none⟩ = some (.slice a1 f.n c1) := HFC 1 _ rfl
          have hf2 : wr.cell? ⟨w.heap.size + 1, 2, none⟩ = some (.slice a2 f.n c2) := HFC 2 _ rfl
          have hf3 : wr.cell? ⟨w.heap.size + 1, 3, none⟩ = some (.slice a3 f.n c3) := HFC 3 _ rfl
          clear HFC
          go_wp2
          refine wp_region_held_drew (S := (fun w' => w' = wr.drew)) (by kernel_rfl) rfl (fun hS => ?_)
          refine rgw 0 ⟨some 19, .move (.tmp 6), 4, _, _, none⟩ hS ?_
          refine rgw 1 ⟨some 20, .unOp .not 4 (.tmp 19), 4, _, _, none⟩ hS ?_
          refine rgw 2 ⟨some 21, .move (.tmp 20), 4, _, _, none⟩ hS ?_
          refine rgw 3 ⟨some 22, .fieldAddr 28 (.tmp 2) 0, 0, _, _, some (2, true)⟩ hS ?_
          refine rgw 4 ⟨some 23, .load 26 (.tmp 22), 26, _, _, some (2, true)⟩ hS ?_
          refine rgw 5 ⟨some 24, .move (.tmp 7), 3, _, _, some (2, true)⟩ hS ?_
          refine rgw 6 ⟨some 25, .indexAddr 26 (.tmp 23) (.tmp 24), 0, _, _, some (2, true)⟩ hS ?_
          refine rgw 7 ⟨some 26, .fieldAddr 85 (.tmp 25) 0, 0, _, _, some (2, true)⟩ hS ?_
          refine rgw 8 ⟨some 27, .load 9 (.tmp 26), 9, _, _, some (2, true)⟩ hS ?_
          refine rgw 9 ⟨some 28, .fieldAddr 85 (.tmp 3) 0, 0, _, _, some (2, true)⟩ hS ?_
          refine rgw 10 ⟨some 29, .load 9 (.tmp 28), 9, _, _, some (2, true)⟩ hS ?_
          refine rgw 11 ⟨some 30, .binOp .gtr 9 (.tmp 27) (.tmp 29) 9, 4, _, _, some (2, true)⟩ hS ?_
          refine rgw 12 ⟨some 31, .pick (.tmp 21) (.tmp 30) (.const (.bool false)), 4, _, _, none⟩ hS ?_
          refine wpAnyH_done (by kernel_rfl) ?_ _
          clear hS
          go_wp2_with (first
            | (at_builtin; refine wpl_app_file rfl (.tmp 32) (.tmp 34) rfl W4.heap.size _ (m) es rfl (Lib.hid (own_keep HO.out (below_alloc wr _).drew)) wr.heap.size [.string f.name, .slice a1 f.n c1, .slice a2 f.n c2, .slice a3 f.n c3] rfl (show (wr.alloc _).heap[_]? = _ from heap_alloc_last wr _) rfl (by simp [Value.oneCell']) (by omega) W4.heap.size W4 (Lib.hid (HB.out.alloc HB.out.size _).drew) (Nat.le_refl _) (by show _ ≤ (wr.alloc _).heap.size; rw [alloc_size]; have := HB.out.size; omega) ?_; intro v3 w3 HO3 HB3; obtain ⟨q, q0, q1, q2, q3⟩ := HCELL.out w3 HB3.out)
            | (at_builtin; refine wpl_app_file rfl (.tmp 36) (.tmp 42) rfl W4.heap.size _ (m + 1) _ rfl (Lib.hid (own_keep HO3.out (below_alloc _ _))) w3.heap.size [.string g.name, .slice a4 g.n c4, .slice a5 g.n c5, .slice a6 g.n c6] rfl (heap_alloc_last _ _) rfl (by simp [Value.oneCell']) (by omega) W4.heap.size W4 (Lib.hid (HB3.out.alloc HB3.out.size _)) (Nat.le_refl _) (by rw [alloc_size]; have := HB3.out.size; omega) ?_; intro v5 w5 HO5 HB5))
          go_roundw
          case rel => exact ⟨i + 1, m + 1 + 1, es ++ [_] ++ [_], by go_num, by omega, by rw [HP.out], by rw [HST.out, List.length_append, List.length_append, HM.out]; rfl, HO5, by rw [HST.out]; exact Lib.hid ((HR.out.snoc HQ.out.rf).snoc HRG.out), HB5⟩
          case measure => simp [intOf]; omega
        · have HST := Lib.hid (insT_low L f i g HG.out (by rw [HK.out]; omega))
          have HP := Lib.hid (show decide (K < i + 1) = false from decide_eq_false (by omega))
          have hgt := insK_lt L f i g HG.out (by rw [HK.out]; omega)
          have hf0 : wr.cell? ⟨w.heap.size + 1, 0, none⟩ = some (.string f.name) := HFC 0 _ rfl
          have hgr := fun w => gtr_run (P := Tryz.prog) 9 g.name f.name w
          simp only [hgt] at hgr
          clear hK1 hK2 HFC hgt
          go_wp2
          refine wp_region_held_drew (S := (fun w' => w' = wr.drew)) (by kernel_rfl) rfl (fun hS => ?_)
          refine rgw 0 ⟨some 19, .move (.tmp 6), 4, _, _, none⟩ hS ?_
          refine rgw 1 ⟨some 20, .unOp .not 4 (.tmp 19), 4, _, _, none⟩ hS ?_
          refine rgw 2 ⟨some 21, .move (.tmp 20), 4, _, _, none⟩ hS ?_
          refine rgw 3 ⟨some 22, .fieldAddr 28 (.tmp 2) 0, 0, _, _, some (2, true)⟩ hS ?_
          refine rgw 4 ⟨some 23, .load 26 (.tmp 22), 26, _, _, some (2, true)⟩ hS ?_
          refine rgw 5 ⟨some 24, .move (.tmp 7), 3, _, _, some (2, true)⟩ hS ?_
          refine rgw 6 ⟨some 25, .indexAddr 26 (.tmp 23) (.tmp 24), 0, _, _, some (2, true)⟩ hS ?_
          refine rgw 7 ⟨some 26, .fieldAddr 85 (.tmp 25) 0, 0, _, _, some (2, true)⟩ hS ?_
          refine rgw 8 ⟨some 27, .load 9 (.tmp 26), 9, _, _, some (2, true)⟩ hS ?_
          refine rgw 9 ⟨some 28, .fieldAddr 85 (.tmp 3) 0, 0, _, _, some (2, true)⟩ hS ?_
          refine rgw 10 ⟨some 29, .load 9 (.tmp 28), 9, _, _, some (2, true)⟩ hS ?_
          refine rgw 11 ⟨some 30, .binOp .gtr 9 (.tmp 27) (.tmp 29) 9, 4, _, _, some (2, true)⟩ hS ?_
          refine rgw 12 ⟨some 31, .pick (.tmp 21) (.tmp 30) (.const (.bool false)), 4, _, _, none⟩ hS ?_
          refine wpAnyH_done (by kernel_rfl) ?_ _
          clear hS
          go_wp2_with (first
            | (at_builtin; refine wpl_app_file rfl (.tmp 36) (.tmp 42) rfl W4.heap.size _ (m) es rfl (Lib.hid (own_keep HO.out (below_alloc wr _).drew)) wr.heap.size [.string g.name, .slice a4 g.n c4, .slice a5 g.n c5, .slice a6 g.n c6] rfl (show (wr.alloc _).heap[_]? = _ from heap_alloc_last wr _) rfl (by simp [Value.oneCell']) (by omega) W4.heap.size W4 (Lib.hid (HB.out.alloc HB.out.size _).drew) (Nat.le_refl _) (by show _ ≤ (wr.alloc _).heap.size; rw [alloc_size]; have := HB.out.size; omega) ?_; intro v3 w3 HO3 HB3))
          go_roundw
          case rel => exact ⟨i + 1, m + 1, es ++ [_], by go_num, by omega, by rw [HP.out], by rw [HST.out, List.length_append, HM.out]; rfl, HO3, by rw [HST.out]; exact Lib.hid (HR.out.snoc HRG.out), HB3⟩
          case measure => simp [intOf]; omega
    · have hq : i = n' := by omega
      subst hq
      have hfull : insT L f i = insT L f L.length := by rw [HN2.out]
      by_cases hK1 : K < i
      · rw [decide_eq_true hK1]
        rw [hfull, insT_all L f (by rw [HK.out, HN2.out]; exact hK1)] at HM HR
        obtain ⟨a9, c9, rfl⟩ := own_slice HO.out
        clear hfull
        have hD0 := HQ.out.d0.below HB.out (by have := HQ.out.lt; omega)
        have hfr := hD0.frozen 0
        have hcx := hD0.cell 0
        simp only [List.getElem?_toArray, List.getElem?_cons_zero] at hcx
        have HD2 : Hid (DB (wr.setCell ⟨w.heap.size, 0, none⟩ (.slice a9 (m) c9)) w.heap.size #[.slice a9 (m) c9, .int .i64 d.cap, .int .i64 d.ops, .bool d.down, .bool d.told, .int .i64 d.after]) := Lib.hid (by simpa using hD0.stored 0 (.slice a9 (m) c9))
        have HD3 := Lib.hid ((HQ.out.d2.below HB.out (by have := HQ.out.lt; omega)).apart (b' := w.heap.size) (by omega) 0 (.slice a9 (m) c9))
        have HBW := Lib.hid (chain HQ.out.below HB.out)
        clear hD0
        go_wp2_with (first
          | (refine wpList_load_row rfl 28 _ rfl w.heap.size rfl _ _ (0, 0) _ HD2.out.1 Tryz.underlying28 rfl HD2.out.info ?_)
          | (refine wpList_store_row rfl 28 _ _ rfl (w.heap.size + 2) #[.slice a9 (m) c9, .int .i64 d.cap, .int .i64 d.ops, .bool d.down, .bool d.told, .int .i64 d.after] rfl rfl _ _ HD3.out.1 HD2.out.info (by rw [HD3.out.2]; rfl) (by simp [Value.oneCell']) ?_))
        have hbl := last_below' HBW.out w.heap.size (w.heap.size + 2) (Nat.le_refl _) (by omega) (.slice a9 (m) c9) #[.slice a9 (m) c9, .int .i64 d.cap, .int .i64 d.ops, .bool d.down, .bool d.told, .int .i64 d.after]
        refine bodyPost_ret_by (v := .agg #[.slice a9 (m) c9, .int .i64 d.cap, .int .i64 d.ops, .bool d.down, .bool d.told, .int .i64 d.after]) (results_cell_row rfl _ _ (w.heap.size + 2) _ _ (0, 0) _ rfl (HD3.out.row (cs' := #[.slice a9 (m) c9, .int .i64 d.cap, .int .i64 d.ops, .bool d.down, .bool d.told, .int .i64 d.after]) rfl).1 Tryz.underlying28 rfl disk_info) rfl ⟨_, rfl, ⟨.slice a9 (m) c9, rfl, ?_⟩, hbl⟩
        have h1 : FLs (mask F1 ((wr.setCell ⟨w.heap.size, 0, none⟩ (.slice a9 (m) c9)).setRow (w.heap.size + 2) #[.slice a9 (m) c9, .int .i64 d.cap, .int .i64 d.ops, .bool d.down, .bool d.told, .int .i64 d.after])) (.slice a9 (m) c9) (insF L f) := by
          refine FLs.own HQ.out.foot (own_move HO.out (fun g hg => last_heap' wr w.heap.size (w.heap.size + 2) _ _ g (by have := HQ.out.lt; omega) (by have := HQ.out.lt; omega))) ?_ HR.out HM.out
          exact (Ext.below HB.out).kin.trans (Ext.kin (F := F1) (F' := F1) ⟨rfl, rfl, rfl, by simp [World.setCell], fun k hk hf => last_heap' wr w.heap.size (w.heap.size + 2) _ _ k (by rintro rfl; rw [HIN.out.1] at hf; simp at hf) (by rintro rfl; rw [HIN.out.2] at hf; simp at hf), fun _ _ => rfl⟩)
        show FLs _ _ (insF (withoutF d.L f.name) f)
        rw [HLE.out]
        exact h1.kin (mask_mono HQ.out.sub _)
      · rw [decide_eq_false hK1]
        have HALL := Lib.hid (insT_none L f (by rw [HK.out, HN2.out]; exact hK1))
        rw [hfull] at HM HR
        have hf0 : ∀ (j : Nat) (v : Value), #[.string f.name, .slice a1 f.n c1, .slice a2 f.n c2, .slice a3 f.n c3][j]? = some v → wr.cell? ⟨w.heap.size + 1, j, none⟩ = some v := fun j v hv => by
          have h1 : wr.heap[w.heap.size + 1]? = _ := (HB.out.block _ (by have := HQ.out.lt; omega)).trans HQ.out.f1
          rw [cell_of_row _ _ j _ _ _ h1]; exact hv
        have g0 := hf0 0 _ rfl
        have g1 := hf0 1 _ rfl
        have g2 := hf0 2 _ rfl
        have g3 := hf0 3 _ rfl
        clear hfull hf0
        go_wp2_with (first
          | (at_builtin; refine wpl_app_file rfl (.tmp 46) (.tmp 48) rfl W4.heap.size _ m es rfl (Lib.hid (own_keep HO.out (below_alloc _ _))) wr.heap.size [.string f.name, .slice a1 f.n c1, .slice a2 f.n c2, .slice a3 f.n c3] rfl (heap_alloc_last _ _) rfl (by simp [Value.oneCell']) (by omega) W4.heap.size W4 (Lib.hid (HB.out.alloc HB.out.size _)) (Nat.le_refl _) (by rw [alloc_size]; have := HB.out.size; omega) ?_; intro v7 w7 HO7 HB7; obtain ⟨a9, c9, rfl⟩ := own_slice HO7.out; have hD0 := HQ.out.d0.below HB7.out (by have := HQ.out.lt; omega); have hfr := hD0.frozen 0; have hcx := hD0.cell 0; simp only [List.getElem?_toArray, List.getElem?_cons_zero] at hcx; have HD2 : Hid (DB (w7.setCell ⟨w.heap.size, 0, none⟩ (.slice a9 (m + 1) c9)) w.heap.size #[.slice a9 (m + 1) c9, .int .i64 d.cap, .int .i64 d.ops, .bool d.down, .bool d.told, .int .i64 d.after]) := Lib.hid (by simpa using hD0.stored 0 (.slice a9 (m + 1) c9)); have HD3 := Lib.hid ((HQ.out.d2.below HB7.out (by have := HQ.out.lt; omega)).apart (b' := w.heap.size) (by omega) 0 (.slice a9 (m + 1) c9)); have HBW := Lib.hid (chain HQ.out.below HB7.out); clear hD0)
          | (refine wpList_load_row rfl 28 _ rfl w.heap.size rfl _ _ (0, 0) _ HD2.out.1 Tryz.underlying28 rfl HD2.out.info ?_)
          | (refine wpList_store_row rfl 28 _ _ rfl (w.heap.size + 2) #[.slice a9 (m + 1) c9, .int .i64 d.cap, .int .i64 d.ops, .bool d.down, .bool d.told, .int .i64 d.after] rfl rfl _ _ HD3.out.1 HD2.out.info (by rw [HD3.out.2]; rfl) (by simp [Value.oneCell']) ?_))
        have hbl := last_below' HBW.out w.heap.size (w.heap.size + 2) (Nat.le_refl _) (by omega) (.slice a9 (m + 1) c9) #[.slice a9 (m + 1) c9, .int .i64 d.cap, .int .i64 d.ops, .bool d.down, .bool d.told, .int .i64 d.after]
        refine bodyPost_ret_by (v := .agg #[.slice a9 (m + 1) c9, .int .i64 d.cap, .int .i64 d.ops, .bool d.down, .bool d.told, .int .i64 d.after]) (results_cell_row rfl _ _ (w.heap.size + 2) _ _ (0, 0) _ rfl (HD3.out.row (cs' := #[.slice a9 (m + 1) c9, .int .i64 d.cap, .int .i64 d.ops, .bool d.down, .bool d.told, .int .i64 d.after]) rfl).1 Tryz.underlying28 rfl disk_info) rfl ⟨_, rfl, ⟨.slice a9 (m + 1) c9, rfl, ?_⟩, hbl⟩
        have h1 : FLs (mask F1 ((w7.setCell ⟨w.heap.size, 0, none⟩ (.slice a9 (m + 1) c9)).setRow (w.heap.size + 2) #[.slice a9 (m + 1) c9, .int .i64 d.cap, .int .i64 d.ops, .bool d.down, .bool d.told, .int .i64 d.after])) (.slice a9 (m + 1) c9) (insF L f) := by
          refine FLs.own HQ.out.foot (own_move HO7.out (fun g hg => last_heap' w7 w.heap.size (w.heap.size + 2) _ _ g (by have := HQ.out.lt; omega) (by have := HQ.out.lt; omega))) ?_ (by rw [← HALL.out]; exact HR.out.snoc HQ.out.rf) (by rw [← HALL.out, List.length_append, HM.out]; rfl)
          exact (Ext.below HB7.out).kin.trans (Ext.kin (F := F1) (F' := F1) ⟨rfl, rfl, rfl, by simp [World.setCell], fun k hk hf => last_heap' w7 w.heap.size (w.heap.size + 2) _ _ k (by rintro rfl; rw [HIN.out.1] at hf; simp at hf) (by rintro rfl; rw [HIN.out.2] at hf; simp at hf), fun _ _ => rfl⟩)
        show FLs _ _ (insF (withoutF d.L f.name) f)
        rw [HLE.out]
        exact h1.kin (mask_mono HQ.out.sub _)
end Go.Proofs.YtpoiapfgbbmekaaGreatDoor
namespace Go.Proofs.YtpoiapfgbbmekaaGreatDoor
open Go.RowKit
open Go.Lib (toList_data size_eq)
def okb (x : UInt8) : Bool := decide (97 ≤ x.toNat ∧ x.toNat ≤ 122 ∨ 48 ≤ x.toNat ∧ x.toNat ≤ 57 ∨ x.toNat = 45)
def nameN (l : List UInt8) : Bool := decide (0 < l.length) && decide (l.length ≤ 24) && l.all okb
theorem okb_list (x : UInt8) : okb x = decide (x ∈ ([97, 98, 99, 100, 101, 102, 103, 104, 105, 106, 107, 108, 109, 110, 111, 112, 113, 114, 115, 116, 117, 118, 119, 120, 121, 122, 48, 49, 50, 51, 52, 53, 54, 55, 56, 57, 45] : List UInt8)) := by
  have h : ∀ i : Fin 256, okb (UInt8.ofNat i.val) = decide (UInt8.ofNat i.val ∈ ([97, 98, 99, 100, 101, 102, 103, 104, 105, 106, 107, 108, 109, 110, 111, 112, 113, 114, 115, 116, 117, 118, 119, 120, 121, 122, 48, 49, 50, 51, 52, 53, 54, 55, 56, 57, 45] : List UInt8)) := by decide +kernel
  have h2 := h ⟨x.toNat, x.toNat_lt⟩
  simpa using h2
theorem fits_any (c : UInt8) (w : World) : Calls Tryz.prog 106 #[.int .u8 (c.toNat : Int)] w fun e w' => e = .returned (.bool (okb c)) ∧ w' = w := by
  go_enter Tryz.func106, Tryz.ntmps106
  go_wp2
  all_goals
    go_ret
    refine ⟨ret_bool ?_, rfl⟩
    unfold okb
    rw [Bool.eq_iff_iff]
    simp only [Bool.or_eq_true, decide_eq_true_eq, beq_iff_eq]
    first | omega | (refine iff_of_true trivial ?_; omega)
theorem getD_mem' {l : List UInt8} {k : Nat} (h : k < l.length) : l.getD k 0 ∈ l := by
  simp [List.getD, h]
theorem nameN_false {l : List UInt8} {i : Nat} (hi : i < l.length) (h : okb (l.getD i 0) = false) : nameN l = false := by
  unfold nameN
  have : l.all okb = false := by
    rw [List.all_eq_false]
    exact ⟨l.getD i 0, getD_mem' hi, by rw [h]; simp⟩
  rw [this, Bool.and_false]
theorem nameN_true {l : List UInt8} (h0 : 0 < l.length) (h1 : l.length ≤ 24) (h : ∀ j, j < l.length → okb (l.getD j 0) = true) : nameN l = true := by
  unfold nameN
  have : l.all okb = true := by
    rw [List.all_eq_true]
    intro x hx
    obtain ⟨j, hj, rfl⟩ := List.getElem_of_mem hx
    have := h j hj
    simpa [List.getD, hj] using this
  rw [this, decide_eq_true h0, decide_eq_true h1]; rfl
theorem size_len (s : ByteArray) : s.data.toList.length = s.size := (size_eq s).symm
theorem byte_getD (s : ByteArray) (i : Nat) (h : i < s.size) : s[i] = s.data.toList.getD i 0 := by
  have h1 : i < s.data.size := h
  rw [List.getD, Array.getElem?_toList, Array.getElem?_eq_getElem h1]
  rfl
theorem right_any (s : ByteArray) (w : World) (hs : s.size ≤ 281474976710656) : Calls Tryz.prog 88 #[.string s] w fun e w' => e = .returned (.bool (nameN s.data.toList)) ∧ w' = w := by
  have hl := size_len s
  by_cases h0 : s.size = 0
  · have hv : nameN s.data.toList = false := by unfold nameN; rw [hl, h0]; rfl
    have h1 : s.toList = [] := by rw [toList_data, ← List.length_eq_zero_iff, hl, h0]
    rw [hv]
    clear hl hv
    go_enter Tryz.func88, Tryz.ntmps88
    go_wp2
    go_ret
    exact ⟨rfl, rfl⟩
  by_cases h24 : (24 : Int) < (s.size : Int)
  · have hv : nameN s.data.toList = false := by unfold nameN; rw [hl, show decide (s.size ≤ 24) = false from decide_eq_false (by omega), Bool.and_false, Bool.false_and]
    have h1 : ¬ s.toList = [] := by rw [toList_data, ← List.length_eq_zero_iff, hl]; exact h0
    have h2 : s.toList.isEmpty = false := by rw [List.isEmpty_eq_false_iff]; exact h1
    rw [hv]
    clear hl hv
    go_enter Tryz.func88, Tryz.ntmps88
    go_wp2
    go_ret
    exact ⟨rfl, rfl⟩
  have h1 : ¬ s.toList = [] := by rw [toList_data, ← List.length_eq_zero_iff, hl]; exact h0
  have h2 : s.toList.isEmpty = false := by rw [List.isEmpty_eq_false_iff]; exact h1
  have HL := Lib.hid hl
  clear hl
  go_enter Tryz.func88, Tryz.ntmps88
  go_wp2
  go_loop [13] (fun iv => ∃ i : Nat, iv = .int .i64 i ∧ i ≤ s.size ∧ Hid (∀ j, j < i → okb (s.data.toList.getD j 0) = true)) (fun iv => s.size - (intOf iv).toNat)
  case atStart => exact ⟨0, rfl, by omega, fun j hj => absurd hj (by omega)⟩
  case round =>
    obtain ⟨i, rfl, hi, HI⟩ := hrel
    by_cases hlt : (i : Int) < (s.size : Int)
    · have hn : i < s.size := by omega
      have hb := byte_getD s i hn
      obtain ⟨c, hc⟩ : ∃ c, s.data.toList.getD i 0 = c := ⟨_, rfl⟩
      rw [hc] at hb
      have HC := Lib.hid hc
      clear hc
      cases ho : okb c with
      | false =>
        have HO := Lib.hid ho
        go_wp2_with (first
          | (go_at_call 106; (with_reducible refine (fits_any c _).mono ?_); rintro e w' ⟨rfl, rfl⟩))
        go_ret
        refine ⟨ret_bool ?_, rfl⟩
        rw [nameN_false (i := i) (by rw [HL.out]; exact hn) (by rw [HC.out]; exact HO.out)]
      | true =>
        have HO := Lib.hid ho
        go_wp2_with (first
          | (go_at_call 106; (with_reducible refine (fits_any c _).mono ?_); rintro e w' ⟨rfl, rfl⟩))
        go_round
        case rel =>
          refine ⟨i + 1, by go_num, by omega, fun j hj => ?_⟩
          by_cases hji : j = i
          · subst hji; rw [HC.out]; exact HO.out
          · exact HI.out j (by omega)
        case measure => simp [intOf]; omega
    · go_wp2
      go_ret
      refine ⟨ret_bool ?_, rfl⟩
      rw [nameN_true (by rw [HL.out]; omega) (by rw [HL.out]; omega) (fun j hj => HI.out j (by rw [HL.out] at hj; omega))]
set_option maxRecDepth 8000 in
theorem in_any (s : ByteArray) (c : UInt8) (w : World) (hs : s.size ≤ 281474976710656) : Calls Tryz.prog 90 #[.string s, .int .u8 (c.toNat : Int)] w fun e w' => e = .returned (.bool (decide (c ∈ s.data.toList))) ∧ w' = w := by
  have hl := size_len s
  have HL := Lib.hid hl
  clear hl
  go_enter Tryz.func90, Tryz.ntmps90
  go_wp2
  go_loop [5] (fun iv => ∃ i : Nat, iv = .int .i64 i ∧ i ≤ s.size ∧ Hid (∀ j, j < i → s.data.toList.getD j 0 ≠ c)) (fun iv => s.size - (intOf iv).toNat)
  case atStart => exact ⟨0, rfl, by omega, fun j hj => absurd hj (by omega)⟩
  case round =>
    obtain ⟨i, rfl, hi, HI⟩ := hrel
    by_cases hlt : (i : Int) < (s.size : Int)
    · have hn : i < s.size := by omega
      have hb := byte_getD s i hn
      obtain ⟨x, hx⟩ : ∃ x, s.data.toList.getD i 0 = x := ⟨_, rfl⟩
      rw [hx] at hb
      have HX := Lib.hid hx
      clear hx
      by_cases hc : x = c
      · subst hc
        go_wp2
        go_ret
        refine ⟨ret_bool ?_, rfl⟩
        rw [decide_eq_true]
        rw [← HX.out]
        simpa using getD_mem' (l := s.data.toList) (k := i) (by rw [HL.out]; exact hn)
      · have hne : ¬ ((x.toNat : Nat) : Int) = ((c.toNat : Nat) : Int) := fun h => hc (UInt8.toNat_inj.1 (by omega))
        have HC := Lib.hid hc
        clear hc
        go_wp2
        go_round
        case rel =>
          refine ⟨i + 1, by go_num, by omega, fun j hj => ?_⟩
          by_cases hji : j = i
          · subst hji; rw [HX.out]; exact HC.out
          · exact HI.out j (by omega)
        case measure => simp [intOf]; omega
    · go_wp2
      go_ret
      refine ⟨ret_bool ?_, rfl⟩
      rw [eq_comm, decide_eq_false_iff_not]
      intro hm
      obtain ⟨j, hj, e⟩ := List.getElem_of_mem (Array.mem_toList_iff.2 hm)
      refine HI.out j (by rw [HL.out] at hj; omega) ?_
      rw [List.getD, List.getElem?_eq_getElem hj, e]; rfl
set_option maxRecDepth 8000 in
theorem rright_any (s : ByteArray) (w : World) (hs : s.size ≤ 281474976710656) : Calls Tryz.prog 48 #[.string s] w fun e w' => e = .returned (.bool (nameN s.data.toList)) ∧ w' = w := by
  have hl := size_len s
  have HL := Lib.hid hl
  clear hl
  have HIN : Hid (∀ (c : UInt8) (w : World), Calls Tryz.prog 90 #[.string ⟨#[97, 98, 99, 100, 101, 102, 103, 104, 105, 106, 107, 108, 109, 110, 111, 112, 113, 114, 115, 116, 117, 118, 119, 120, 121, 122, 48, 49, 50, 51, 52, 53, 54, 55, 56, 57, 45]⟩, .int .u8 (c.toNat : Int)] w fun e w' => e = .returned (.bool (okb c)) ∧ w' = w) := by
    intro c w
    have := in_any ⟨#[97, 98, 99, 100, 101, 102, 103, 104, 105, 106, 107, 108, 109, 110, 111, 112, 113, 114, 115, 116, 117, 118, 119, 120, 121, 122, 48, 49, 50, 51, 52, 53, 54, 55, 56, 57, 45]⟩ c w (by decide)
    rw [okb_list]
    exact this
  go_enter Tryz.func48, Tryz.ntmps48
  go_wp2
  go_loop [3] (fun iv => ∃ i : Nat, iv = .int .i64 i ∧ i ≤ s.size ∧ Hid (∀ j, j < i → okb (s.data.toList.getD j 0) = true)) (fun iv => s.size - (intOf iv).toNat)
  case atStart => exact ⟨0, rfl, by omega, fun j hj => absurd hj (by omega)⟩
  case round =>
    obtain ⟨i, rfl, hi, HI⟩ := hrel
    by_cases hlt : (i : Int) < (s.size : Int)
    · have hn : i < s.size := by omega
      have hb := byte_getD s i hn
      obtain ⟨c, hc⟩ : ∃ c, s.data.toList.getD i 0 = c := ⟨_, rfl⟩
      rw [hc] at hb
      have HC := Lib.hid hc
      clear hc
      cases ho : okb c with
      | false =>
        have HO := Lib.hid ho
        go_wp2_with (first
          | (go_at_call 90; (refine (HIN.out c _).mono ?_); rintro e w' ⟨rfl, rfl⟩))
        go_ret
        refine ⟨ret_bool ?_, rfl⟩
        rw [nameN_false (i := i) (by rw [HL.out]; exact hn) (by rw [HC.out]; exact HO.out)]
      | true =>
        have HO := Lib.hid ho
        go_wp2_with (first
          | (go_at_call 90; (refine (HIN.out c _).mono ?_); rintro e w' ⟨rfl, rfl⟩))
        go_round
        case rel =>
          refine ⟨i + 1, by go_num, by omega, fun j hj => ?_⟩
          by_cases hji : j = i
          · subst hji; rw [HC.out]; exact HO.out
          · exact HI.out j (by omega)
        case measure => simp [intOf]; omega
    · have HE := Lib.hid (show nameN s.data.toList = (decide (0 < (s.size : Int)) && decide ((s.size : Int) < 25)) from by
        unfold nameN
        have : s.data.toList.all okb = true := by
          rw [List.all_eq_true]
          intro x hx
          obtain ⟨j, hj, rfl⟩ := List.getElem_of_mem hx
          have h1 := HI.out j (by rw [HL.out] at hj; omega)
          rwa [List.getD, List.getElem?_eq_getElem hj] at h1
        rw [this, Bool.and_true, HL.out]
        rw [Bool.eq_iff_iff]; simp; omega)
      go_wp2
      all_goals
        go_ret
        refine ⟨ret_bool ?_, rfl⟩
        rw [HE.out]
        simp
        try omega
end Go.Proofs.YtpoiapfgbbmekaaGreatDoor
namespace Go.Proofs.YtpoiapfgbbmekaaGreatDoor
open Go.RowKit
def boxF (F : Nat → Bool) (w : World) : Nat → Bool := plusF F w.heap.size (w.heap.size + 2)
structure St (F : Nat → Bool) (w : World) (cs : Array Value) (d : AD) (W : World) : Prop where
  below : Below w.heap.size w W
  size : w.heap.size + 2 ≤ W.heap.size
  d0 : DB W w.heap.size cs
  d1 : DB W (w.heap.size + 1) dz
  foot : Foot (boxF F w) W.heap.size
  rd : RD (mask (boxF F w) W) (.agg cs) d
theorem St.next {F : Nat → Bool} {w W W' : World} {cs : Array Value} {d : AD} (h : St F w cs d W) (hb : Below W.heap.size W W') : St F w cs d W' :=
  ⟨chain h.below hb, Nat.le_trans h.size hb.size, h.d0.below hb (by have := h.size; omega), h.d1.below hb (by have := h.size; omega), h.foot.mono hb.size, h.rd.kin (kin_mask hb)⟩
theorem box_ext {F : Nat → Bool} {w W : World} (h : Below w.heap.size w W) : Ext F w W (boxF F w) :=
  ⟨h.os, h.tape, h.output, h.size, fun k hk _ => h.block k hk, fun k hk => by simp [boxF, plusF]; intro h1; omega⟩
theorem box_foot {F : Nat → Bool} {w : World} (h : Foot F w.heap.size) : Foot (boxF F w) (w.heap.size + 2) := plusF_foot h (by omega)
theorem box_sub (F : Nat → Bool) (w : World) (k : Nat) (h : F k = true) : boxF F w k = true := plusF_mono F _ _ k h
theorem box_in0 (F : Nat → Bool) (w : World) : boxF F w w.heap.size = true := plusF_in F _ _ _ (Nat.le_refl _) (by omega)
theorem box_in1 (F : Nat → Bool) (w : World) : boxF F w (w.heap.size + 1) = true := plusF_in F _ _ _ (by omega) (by omega)
theorem St.start {F : Nat → Bool} {w : World} {cs : Array Value} {d : AD} (hF : Foot F w.heap.size) (h6 : cs.size = 6) (h : RD (mask F w) (.agg cs) d) :
    St F w cs d ((w.alloc (.cells cs 28)).alloc (.cells #[.slice none 0 0, .int .i64 0, .int .i64 0, .bool false, .bool false, .int .i64 0] 28)) := by
  obtain ⟨h0, h1⟩ := DB.start w cs h6
  have hb := below2 w (.cells cs 28) (.cells dz 28)
  have hs : ((w.alloc (.cells cs 28)).alloc (.cells dz 28)).heap.size = w.heap.size + 2 := by rw [alloc_size, alloc_size]
  exact ⟨hb, Nat.le_of_eq hs.symm, h0, h1, (box_foot hF).mono (Nat.le_of_eq hs.symm), h.kin (box_ext hb).kin⟩
theorem St.done {F : Nat → Bool} {w W : World} {cs : Array Value} {d : AD} (h : St F w cs d W) {cs' : Array Value} {d' : AD} (hr : RD (mask (boxF F w) W) (.agg cs') d') (h6 : cs'.size = 6) :
    DB (W.setRow (w.heap.size + 1) cs') (w.heap.size + 1) cs' ∧ RD (mask F (W.setRow (w.heap.size + 1) cs')) (.agg cs') d' ∧ Below w.heap.size w (W.setRow (w.heap.size + 1) cs') :=
  ⟨h.d1.row h6, (hr.kin ((Ext.refl (boxF F w) W).setRow _ (box_in1 F w) _).kin).kin (mask_mono (box_sub F w) _), below_row h.below (by omega) _⟩
theorem DB.six {w : World} {b : Nat} {v0 v1 v2 v3 v4 v5 : Value} (h : DB w b #[v0, v1, v2, v3, v4, v5]) :
    w.cell? ⟨b, 0, none⟩ = some v0 ∧ w.cell? ⟨b, 1, none⟩ = some v1 ∧ w.cell? ⟨b, 2, none⟩ = some v2 ∧ w.cell? ⟨b, 3, none⟩ = some v3 ∧ w.cell? ⟨b, 4, none⟩ = some v4 ∧ w.cell? ⟨b, 5, none⟩ = some v5 :=
  ⟨h.cell 0, h.cell 1, h.cell 2, h.cell 3, h.cell 4, h.cell 5⟩
theorem RD.agg {w : World} {v : Value} {d : AD} (h : RD w v d) : ∃ (a : Option Addr) (n c : Nat), v = .agg #[.slice a n c, .int .i64 d.cap, .int .i64 d.ops, .bool d.down, .bool d.told, .int .i64 d.after] ∧ d.L.length = n ∧ n ≤ c ∧ c ≤ 9223372036854775807 := by
  obtain ⟨a, c, h1, _, h2, h3, _⟩ := h.form
  exact ⟨a, _, c, h1, rfl, h2, h3⟩
theorem RD.re {w : World} {vl v1 v2 v3 v4 v5 : Value} {d d' : AD} (h : RD w (.agg #[vl, v1, v2, v3, v4, v5]) d) (hl : d'.L = d.L) :
    RD w (.agg #[vl, .int .i64 d'.cap, .int .i64 d'.ops, .bool d'.down, .bool d'.told, .int .i64 d'.after]) d' := by
  obtain ⟨vl', e, h1⟩ := h
  simp only [dv, Value.agg.injEq] at e
  have e0 := congrArg (fun x : Array Value => x[0]?) e
  simp at e0
  subst e0
  exact ⟨vl, rfl, by rw [hl]; exact h1⟩
theorem wpl_store_newD {w w1 : World} {ops : Array Oper} {rest : List Oper} {o : Oper} {a : Act} {Q : Exit → Act → World → Prop} (hgd : o.guard = none) (x y : Operand)
    (ho : o.op = .store 28 x y) (hw : w = w1.alloc (.cells dz 28)) (g : Nat) (hg : w1.heap.size = g) (cs : Array Value) (h6 : cs.size = 6) (h1 : cs.all (·.oneCell') = true)
    (hx : a.eval x = .pointer (some ⟨g, 0, none⟩)) (hy : a.eval y = .agg cs)
    (h : ∀ w', Hid (DB w' g cs) → Hid (Below w1.heap.size w1 w') → wpList Tryz.prog ops Q rest (a.put o.dst undef) w') : wpList Tryz.prog ops Q (o :: rest) a w := by
  subst hw; subst hg
  have hk : DB (w1.alloc (.cells dz 28)) w1.heap.size dz := ⟨heap_alloc_last w1 _, rfl⟩
  refine wpList_store_row hgd 28 x y ho w1.heap.size cs hx hy _ dz hk.1 (by rw [h6]; exact disk_info) (by rw [h6]; rfl) h1 ?_
  exact h _ (hk.row h6) (below_row (below_alloc w1 _) (Nat.le_refl _) _)
theorem RD.fls {w : World} {vl v1 v2 v3 v4 v5 : Value} {d : AD} (h : RD w (.agg #[vl, v1, v2, v3, v4, v5]) d) : FLs w vl d.L := by
  obtain ⟨vl', e, h1⟩ := h
  simp only [dv, Value.agg.injEq] at e
  have e0 := congrArg (fun x : Array Value => x[0]?) e
  simp at e0
  subst e0
  exact h1
theorem exec_load_db {a : Act} {o : Oper} {w : World} {g : Nat} {cs : Array Value} (x : Operand) (ho : o.op = .load 28 x) (hx : a.eval x = .pointer (some ⟨g, 0, none⟩)) (h : DB w g cs) :
    (execOp a.eval o).run Tryz.prog w = .ok (.value (.agg cs)) w := by
  unfold execOp
  simp only [ho, hx, Instr.loadAt, Instr.sureAddr, Sem.run_bind, Sem.run_pure, Result.andThen_ok, disk_load h.1 h.2]
structure Sq (g : Nat) (xs : Array Value) (q : Nat) (v0 v1 v2 v3 : Value) (W : World) : Prop where
  x : DB W g xs
  f : W.heap[q]? = some (.cells #[v0, v1, v2, v3] 85 (0, 0))
theorem Sq.next {W W' : World} {xs : Array Value} {g q : Nat} {v0 v1 v2 v3 : Value} (h : Sq g xs q v0 v1 v2 v3 W) (hb : Below W.heap.size W W') : Sq g xs q v0 v1 v2 v3 W' :=
  ⟨h.x.below hb (Array.getElem?_eq_some_iff.1 h.x.1).1, by rw [hb.block q (Array.getElem?_eq_some_iff.1 h.f).1]; exact h.f⟩
theorem Sq.cells {W : World} {xs : Array Value} {g q : Nat} {v0 v1 v2 v3 : Value} (h : Sq g xs q v0 v1 v2 v3 W) :
    W.cell? ⟨q, 0, none⟩ = some v0 ∧ W.cell? ⟨q, 1, none⟩ = some v1 ∧ W.cell? ⟨q, 2, none⟩ = some v2 ∧ W.cell? ⟨q, 3, none⟩ = some v3 := by
  have hc := fun j => cell_of_row W q j _ _ _ h.f
  exact ⟨hc 0, hc 1, hc 2, hc 3⟩
theorem Sq.start {W : World} {xs : Array Value} {g : Nat} {v0 v1 v2 v3 : Value} (hx : DB W g xs) : Sq g xs W.heap.size v0 v1 v2 v3 (W.alloc (.cells #[v0, v1, v2, v3] 85)) :=
  ⟨hx.below (below_alloc W _) (Array.getElem?_eq_some_iff.1 hx.1).1, heap_alloc_last W _⟩
theorem Sq.row {W : World} {xs : Array Value} {g q : Nat} {v0 v1 v2 v3 : Value} (h : Sq g xs q v0 v1 v2 v3 W) (b : Nat) (hg : g ≠ b) (hq : q ≠ b) (cs : Array Value) : Sq g xs q v0 v1 v2 v3 (W.setRow b cs) :=
  ⟨⟨by rw [setRow_other W b g cs hg]; exact h.x.1, h.x.2⟩, by rw [setRow_other W b q cs hq]; exact h.f⟩
structure Sk (F1 : Nat → Bool) (b0 : Nat) (lv : Value) (g : Nat) (xs : Array Value) (q : Addr) (v : Value) (W : World) : Prop where
  x : DB W g xs
  c0 : W.cell? ⟨b0, 0, none⟩ = some lv
  k : (mask F1 W).cell? q = some v
theorem Sk.next {F1 : Nat → Bool} {b0 : Nat} {lv : Value} {W W' : World} {xs : Array Value} {g : Nat} {q : Addr} {v : Value} (h : Sk F1 b0 lv g xs q v W) (hb : Below W.heap.size W W') : Sk F1 b0 lv g xs q v W' :=
  ⟨h.x.below hb (Array.getElem?_eq_some_iff.1 h.x.1).1, cell_keep hb h.c0, kin_mask hb _ _ h.k⟩
theorem Sk.row {F1 : Nat → Bool} {b0 : Nat} {lv : Value} {W : World} {xs : Array Value} {g : Nat} {q : Addr} {v : Value} (h : Sk F1 b0 lv g xs q v W) (b : Nat) (hg : g ≠ b) (h0 : b0 ≠ b) (hb : F1 b = true) (cs : Array Value) : Sk F1 b0 lv g xs q v (W.setRow b cs) := by
  refine ⟨⟨by rw [setRow_other W b g cs hg]; exact h.x.1, h.x.2⟩, ?_, ((Ext.refl F1 W).setRow b hb cs).kin _ _ h.k⟩
  have := h.c0
  unfold World.cell? at this ⊢
  rw [setRow_other W b b0 cs h0]; exact this
theorem bool_parts : (Tryz.prog.info? 4).map (fun i => (i.zero, i.size, i.bytes)) = some (some (.bool false), 1, 1) := by kernel_rfl
theorem bools_cells (k : Nat) : ((List.replicate k false).map Value.bool).toArray = Array.replicate k (Value.bool false) := by simp
theorem make_bools_run (k : Nat) (hk : (k : Int) ≤ 1000000000000) (w : World) :
    (Instr.makeSlice 83 (.int .i64 (k : Int)) (.int .i64 (k : Int))).run Tryz.prog w = .ok (.slice (some ⟨w.heap.size, 0, none⟩) k k) (w.alloc (.cells (Array.replicate k (Value.bool false)) 4)) := by
  obtain ⟨i, hi, hz0, hz1, hz2⟩ := info_parts bool_parts
  have h := run_make (P := Tryz.prog) w 83 4 i _ Tryz.underlying83 hi hz0 .i64 .i64 k k (by omega) (by omega) (by rw [hz2]; omega) (by omega)
  simp only [Int.toNat_natCast, hz1, Nat.mul_one] at h
  rw [h]
  have : madeCells (Value.bool false).cells k = Array.replicate k (Value.bool false) := by
    rw [show (Value.bool false).cells = #[.bool false] from rfl, ← Array.toList_inj, toList_madeCells_one]
    simp
  rw [this]
theorem make_secs_run (k : Nat) (hk : (k : Int) ≤ 1000000000) (w : World) :
    (Instr.makeSlice 35 (.int .i64 (k : Int)) (.int .i64 (k : Int))).run Tryz.prog w = .ok (.slice (some ⟨w.heap.size, 0, none⟩) k k) (w.alloc (.cells (il .u8 (List.replicate (k * 64) 0)).toArray 63)) := by
  obtain ⟨i, hi, hz0, hz1, hz2⟩ := info_parts sec_parts
  have h := run_make (P := Tryz.prog) w 35 63 i _ Tryz.underlying35 hi hz0 .i64 .i64 k k (by omega) (by omega) (by rw [hz2]; omega) (by omega)
  simp only [Int.toNat_natCast, hz1] at h
  rw [h]
  have : madeCells (Value.agg (sv z64)).cells (k * 64) = (il .u8 (List.replicate (k * 64) 0)).toArray := by
    rw [← Array.toList_inj, made_secs]
  rw [this]
theorem below_drew_alloc (w : World) (o : Obj) : Below w.drew.heap.size w.drew (w.alloc o).drew := below_alloc w.drew o
theorem DB.next {W W' : World} {b : Nat} {cs : Array Value} (h : DB W b cs) (hb : Below W.heap.size W W') : DB W' b cs := h.below hb (Array.getElem?_eq_some_iff.1 h.1).1
theorem DB.over {W : World} {b : Nat} {cs : Array Value} (h : DB W b cs) (q : Nat) (hq : b ≠ q) (xs : Array Value) : DB (W.setRow q xs) b cs := ⟨by rw [setRow_other W q b xs hq]; exact h.1, h.2⟩
theorem BS.new {F : Nat → Bool} {w : World} (hF : Foot F w.heap.size) (k : Nat) (bs : List Bool) (hl : bs.length = k) (hk : k ≤ 9223372036854775807) (t : TypeId) :
    BS (mask F (w.alloc (.cells ((bs.map Value.bool).toArray) t))) (.slice (some ⟨w.heap.size, 0, none⟩) k k) k bs := by
  refine ⟨_, k, rfl, by simp [hl], Nat.le_refl _, hk, fun h => by simp at h, fun _ => ⟨w.heap.size, 0, rfl, fun j hj => ?_⟩⟩
  have hf : F w.heap.size = false := by
    cases hq : F w.heap.size with
    | false => rfl
    | true => have := hF _ hq; omega
  have h1 : (mask F (w.alloc (.cells ((bs.map Value.bool).toArray) t))).heap[w.heap.size]? = some (.cells ((bs.map Value.bool).toArray) t (0, 0)) := by
    rw [mask_heap, heap_alloc_last]; simp [hf]
  rw [Nat.zero_add, cell_of_row _ _ j _ _ _ h1, List.getElem?_toArray]
theorem BS.fresh {F : Nat → Bool} {w : World} (hF : Foot F w.heap.size) (k : Nat) (hk : k ≤ 9223372036854775807) (t : TypeId) :
    BS (mask F (w.alloc (.cells (Array.replicate k (Value.bool false)) t))) (.slice (some ⟨w.heap.size, 0, none⟩) k k) k (List.replicate k false) := by
  have := BS.new hF k (List.replicate k false) (by simp) hk t
  rwa [bools_cells] at this
theorem FS.new {F : Nat → Bool} {w : World} (hF : Foot F w.heap.size) (k : Nat) (fs : List Int) (hl : fs.length = k * 64) (hk : k ≤ 9223372036854775807) (t : TypeId) :
    FS (mask F (w.alloc (.cells (il .u8 fs).toArray t))) (.slice (some ⟨w.heap.size, 0, none⟩) k k) k fs := by
  refine ⟨_, k, rfl, hl, Nat.le_refl _, hk, fun h => by simp at h, fun _ => ⟨w.heap.size, 0, rfl, fun j hj => ?_⟩⟩
  have hf : F w.heap.size = false := by
    cases hq : F w.heap.size with
    | false => rfl
    | true => have := hF _ hq; omega
  have h1 : (mask F (w.alloc (.cells (il .u8 fs).toArray t))).heap[w.heap.size]? = some (.cells (il .u8 fs).toArray t (0, 0)) := by
    rw [mask_heap, heap_alloc_last]; simp [hf]
  rw [Nat.zero_add, cell_of_row _ _ j _ _ _ h1]
  simpa using il_get .u8 fs j (by omega)
def AD.newD (c : Int) : AD := { L := [], cap := min (max c 0) 1048576, ops := 0, down := false, told := false, after := 0 }
def AD.has (d : AD) (s : ByteArray) : Prop := idxN d.L s < d.L.length
instance (d : AD) (s : ByteArray) : Decidable (d.has s) := inferInstanceAs (Decidable (_ < _))
def newF (s : ByteArray) (k : Nat) : AF := ⟨s, k, List.replicate (k * 64) 0, List.replicate (k * 64) 0, List.replicate k false⟩
def AD.get (d : AD) (s : ByteArray) : AF := (d.L[idxN d.L s]?).getD (newF s 0)
def rightB (s : ByteArray) : Bool := nameN s.data.toList
def AD.opR (d : AD) (g : AD → AD) : AD × Int := if d.ope ≠ 0 then (d.opd, d.ope) else (g d.opd, 0)
def AD.failR (d : AD) (n : Int) : AD × Int := if d.down = true then (d, 9) else if n < 0 then (d, 4) else ({ d with told := true, after := n }, 0)
def AD.makeR (d : AD) (s : ByteArray) (n : Int) : AD × Int :=
  if d.down = true then (d, 9) else if rightB s = false then (d, 10) else if d.has s then (d, 8) else if n < 1 ∨ 64 < n then (d, 4)
  else if d.cap < (usedN d.L : Int) + n ∨ 64 ≤ d.L.length then (d, 6) else d.opR fun x => x.withF (newF s n.toNat)
def AD.syncR (d : AD) (s : ByteArray) : AD × Int :=
  if d.down = true then (d, 9) else if ¬ d.has s then (d, 7) else d.opR fun x => x.withF { d.get s with las := (d.get s).seen, ws := List.replicate (d.get s).n false }
def AD.renameR (d : AD) (s t : ByteArray) : AD × Int :=
  if d.down = true then (d, 9) else if ¬ d.has s then (d, 7) else if rightB t = false then (d, 10) else if s = t then (d, 0) else d.opR fun x => (x.without s).withF { d.get s with name := t }
def AD.readR (d : AD) (s : ByteArray) (at_ n : Int) : List Int × Nat × Int :=
  if d.down = true then ([], 0, 9) else if ¬ d.has s then ([], 0, 7) else if at_ < 0 ∨ n < 0 ∨ ((d.get s).n : Int) < at_ ∨ ((d.get s).n : Int) - at_ < n then ([], 0, 4)
  else (((d.get s).seen.drop (at_.toNat * 64)).take (n.toNat * 64), n.toNat, 0)
def AD.writeR (d : AD) (s : ByteArray) (at_ : Int) (m : Nat) (fs : List Int) : AD × Int :=
  if d.down = true then (d, 9) else if ¬ d.has s then (d, 7) else if at_ < 0 ∨ ((d.get s).n : Int) < at_ ∨ ((d.get s).n : Int) - at_ < m then (d, 4)
  else d.opR fun x => x.withF { d.get s with seen := (d.get s).seen.take (at_.toNat * 64) ++ fs ++ (d.get s).seen.drop (at_.toNat * 64 + m * 64), ws := (d.get s).ws.take at_.toNat ++ List.replicate m true ++ (d.get s).ws.drop (at_.toNat + m) }
theorem AD.opd_L (d : AD) : d.opd.L = d.L := by unfold AD.opd; split <;> rfl
theorem AD.ope_or (d : AD) : d.ope = 0 ∨ d.ope = 9 := by unfold AD.ope; split <;> simp
theorem AD.opR_done (d : AD) (g : AD → AD) (h : d.ope = 0) : d.opR g = (g d.opd, 0) := by unfold AD.opR; rw [if_neg (by simpa using h)]
theorem AD.opR_not (d : AD) (g : AD → AD) (h : ¬ d.ope = 0) : d.opR g = (d.opd, 9) := by
  unfold AD.opR; rw [if_pos (by simpa using h)]; rcases d.ope_or with h1 | h1
  · exact absurd h1 h
  · rw [h1]
theorem AD.find_neg (d : AD) (s : ByteArray) : findI d.L s < 0 ↔ ¬ d.has s := by unfold findI AD.has; split <;> omega
theorem AD.find_has (d : AD) (s : ByteArray) (h : d.has s) : findI d.L s = (idxN d.L s : Int) := if_pos h
theorem AD.get_at (d : AD) (s : ByteArray) (h : d.has s) : d.L[idxN d.L s]? = some (d.get s) := by
  unfold AD.get AD.has at *; rw [List.getElem?_eq_getElem h]; rfl
theorem AD.get_name (d : AD) (s : ByteArray) (h : d.has s) : (d.get s).name = s := by
  have h1 := d.get_at s h
  obtain ⟨hi, e⟩ := List.getElem?_eq_some_iff.1 h1
  rw [← e]
  exact of_decide_eq_true (List.findIdx_getElem (p := fun f : AF => decide (f.name = s)) (xs := d.L) (w := hi))
end Go.Proofs.YtpoiapfgbbmekaaGreatDoor
namespace Go.Proofs.YtpoiapfgbbmekaaGreatDoor
open Go.RowKit
set_option maxRecDepth 8000 in
set_option maxHeartbeats 1000000 in
theorem rfail_any (F : Nat → Bool) (vd : Value) (d : AD) (k : Int) (w : World) (hF : Foot F w.heap.size) (h : RD (mask F w) vd d) :
    Calls Tryz.prog 16 #[vd, .int .i64 k] w fun e w' => ∃ v', e = .returned (.tuple #[v', .int .i64 (d.failR k).2]) ∧ RD (mask F w') v' (d.failR k).1 ∧ Below w.heap.size w w' := by
  have HR := Lib.hid h
  obtain ⟨a, n, cap, rfl, hn, hc1, hc2⟩ := h.agg
  have hst := St.start hF rfl h
  obtain ⟨W2, hW2⟩ : ∃ W2, (w.alloc (.cells #[.slice a n cap, .int .i64 d.cap, .int .i64 d.ops, .bool d.down, .bool d.told, .int .i64 d.after] 28)).alloc (.cells #[.slice none 0 0, .int .i64 0, .int .i64 0, .bool false, .bool false, .int .i64 0] 28) = W2 := ⟨_, rfl⟩
  rw [hW2] at hst
  have HS := Lib.hid hst
  have HN := Lib.hid hn
  obtain ⟨q0, q1, q2, q3, q4, q5⟩ := hst.d0.six
  clear hst hn h hF
  unfold AD.failR
  by_cases hd : d.down = true
  · rw [if_pos hd]
    simp only [hd] at q3 hW2 HS ⊢
    clear hd
    go_enter Tryz.func16, Tryz.ntmps16
    go_wp2_with (first
      | (refine wpList_load_row rfl 28 _ rfl w.heap.size rfl _ _ (0, 0) _ HS.out.d0.1 Tryz.underlying28 rfl HS.out.d0.info ?_)
      | (refine wpList_store_row rfl 28 _ _ rfl (w.heap.size + 1) #[.slice a n cap, .int .i64 d.cap, .int .i64 d.ops, .bool true, .bool d.told, .int .i64 d.after] rfl rfl _ dz HS.out.d1.1 disk_info (by rfl) (by simp [Value.oneCell']) ?_))
    obtain ⟨e1, e2, e3⟩ := HS.out.done (cs' := #[.slice a n cap, .int .i64 d.cap, .int .i64 d.ops, .bool true, .bool d.told, .int .i64 d.after]) HS.out.rd rfl
    exact bodyPost_ret_by (results_row_tmp rfl _ _ (w.heap.size + 1) _ rfl (disk_load e1.1 rfl)) rfl ⟨_, rfl, e2, e3⟩
  · rw [if_neg hd]
    rw [Bool.not_eq_true] at hd
    simp only [hd] at q3 hW2 HS ⊢
    by_cases hk : k < 0
    · rw [if_pos hk]
      clear hd
      go_enter Tryz.func16, Tryz.ntmps16
      go_wp2_with (first
        | (refine wpList_load_row rfl 28 _ rfl w.heap.size rfl _ _ (0, 0) _ HS.out.d0.1 Tryz.underlying28 rfl HS.out.d0.info ?_)
        | (refine wpList_store_row rfl 28 _ _ rfl (w.heap.size + 1) #[.slice a n cap, .int .i64 d.cap, .int .i64 d.ops, .bool false, .bool d.told, .int .i64 d.after] rfl rfl _ dz HS.out.d1.1 disk_info (by rfl) (by simp [Value.oneCell']) ?_))
      obtain ⟨e1, e2, e3⟩ := HS.out.done (cs' := #[.slice a n cap, .int .i64 d.cap, .int .i64 d.ops, .bool false, .bool d.told, .int .i64 d.after]) HS.out.rd rfl
      exact bodyPost_ret_by (results_row_tmp rfl _ _ (w.heap.size + 1) _ rfl (disk_load e1.1 rfl)) rfl ⟨_, rfl, e2, e3⟩
    · rw [if_neg hk]
      clear hW2 q0 q1 q2 q3 q4 q5
      go_enter Tryz.func16, Tryz.ntmps16
      go_wp2
      refine bodyPost_ret_by (results_row_tmp rfl _ _ (w.heap.size + 1) _ rfl (disk_load (alloc2_last _ _ _) rfl)) rfl ⟨_, rfl, ⟨.slice a n cap, by simp only [dv], ?_⟩, below2 _ _ _⟩
      obtain ⟨vl, e, hl⟩ := HR.out
      simp only [dv, Value.agg.injEq] at e
      have e0 := congrArg (fun x : Array Value => x[0]?) e
      simp at e0
      subst e0
      exact hl.kin (kin_mask (below2 _ _ _))
set_option maxRecDepth 8000 in
set_option maxHeartbeats 1000000 in
theorem rrename_any (F : Nat → Bool) (vd : Value) (d : AD) (s t : ByteArray) (w : World) (hF : Foot F w.heap.size) (h : RD (mask F w) vd d) (hn1 : d.L.length ≤ 1000000) (hts : t.size ≤ 281474976710656) :
    Calls Tryz.prog 38 #[vd, .string s, .string t] w fun e w' => ∃ v', e = .returned (.tuple #[v', .int .i64 (d.renameR s t).2]) ∧ RD (mask F w') v' (d.renameR s t).1 ∧ Below w.heap.size w w' := by
  obtain ⟨a, n, cap, rfl, hn, hc1, hc2⟩ := h.agg
  have hst := St.start hF rfl h
  obtain ⟨W2, hW2⟩ : ∃ W2, (w.alloc (.cells #[.slice a n cap, .int .i64 d.cap, .int .i64 d.ops, .bool d.down, .bool d.told, .int .i64 d.after] 28)).alloc (.cells #[.slice none 0 0, .int .i64 0, .int .i64 0, .bool false, .bool false, .int .i64 0] 28) = W2 := ⟨_, rfl⟩
  rw [hW2] at hst
  have HS := Lib.hid hst
  have HN := Lib.hid hn
  obtain ⟨q0, q1, q2, q3, q4, q5⟩ := hst.d0.six
  clear hst hn h hF
  unfold AD.renameR
  by_cases hd : d.down = true
  · rw [if_pos hd]
    simp only [hd] at q3 hW2 HS ⊢
    clear hd
    go_enter Tryz.func38, Tryz.ntmps38
    go_wp2_with (first
      | (refine wpList_load_row rfl 28 _ rfl w.heap.size rfl _ _ (0, 0) _ HS.out.d0.1 Tryz.underlying28 rfl HS.out.d0.info ?_)
      | (refine wpList_store_row rfl 28 _ _ rfl (w.heap.size + 1) #[.slice a n cap, .int .i64 d.cap, .int .i64 d.ops, .bool true, .bool d.told, .int .i64 d.after] rfl rfl _ dz HS.out.d1.1 disk_info (by rfl) (by simp [Value.oneCell']) ?_))
    obtain ⟨e1, e2, e3⟩ := HS.out.done (cs' := #[.slice a n cap, .int .i64 d.cap, .int .i64 d.ops, .bool true, .bool d.told, .int .i64 d.after]) HS.out.rd rfl
    exact bodyPost_ret_by (results_row_tmp rfl _ _ (w.heap.size + 1) _ rfl (disk_load e1.1 rfl)) rfl ⟨_, rfl, e2, e3⟩
  · rw [if_neg hd]
    rw [Bool.not_eq_true] at hd
    simp only [hd] at q3 hW2 HS ⊢
    obtain ⟨i, hi⟩ : ∃ i, findI d.L s = i := ⟨_, rfl⟩
    have HFD := Lib.hid fun W (hw : RD W (.agg #[.slice a n cap, .int .i64 d.cap, .int .i64 d.ops, .bool false, .bool d.told, .int .i64 d.after]) d) => rfind_any (.agg #[.slice a n cap, .int .i64 d.cap, .int .i64 d.ops, .bool false, .bool d.told, .int .i64 d.after]) d s W hw
    rw [hi] at HFD
    have HOP := Lib.hid fun W => rop_any a n cap d W
    unfold dv at HOP
    simp only [hd] at HOP
    by_cases hh : d.has s
    · rw [if_neg (by simpa using hh)]
      have hi0 : i = (idxN d.L s : Int) := by rw [← hi]; exact d.find_has s hh
      obtain ⟨j, hj⟩ : ∃ j, idxN d.L s = j := ⟨_, rfl⟩
      have hga := d.get_at s hh
      have hgn := d.get_name s hh
      rw [hj] at hga hi0
      subst hi0
      obtain ⟨f, hf⟩ : ∃ f, d.get s = f := ⟨_, rfl⟩
      rw [hf] at hga hgn ⊢
      have hjn : j < n := by rw [← HN.out]; exact (List.getElem?_eq_some_iff.1 hga).1
      cases hr : rightB t with
      | false =>
        rw [if_pos rfl]
        have HRT : Hid (nameN t.data.toList = false) := Lib.hid hr
        clear hi hh hd hf hgn hga hr
        go_enter Tryz.func38, Tryz.ntmps38
        go_wp2_with (first
          | (refine wpList_load_row rfl 28 _ rfl w.heap.size rfl _ _ (0, 0) _ HS3.out.d0.1 Tryz.underlying28 rfl HS3.out.d0.info ?_)
          | (refine wpList_load_row rfl 28 _ rfl w.heap.size rfl _ _ (0, 0) _ HS.out.d0.1 Tryz.underlying28 rfl HS.out.d0.info ?_)
          | (go_at_call 35; (with_reducible refine (HFD.out _ (HS.out.rd.kin (unmask _ _))).mono ?_); rintro e w3 ⟨rfl, hb⟩; have HS3 := Lib.hid (HS.out.next hb); clear hb)
          | (go_at_call 48; (with_reducible refine (rright_any t _ hts).mono ?_); rintro e w' ⟨rfl, rfl⟩; rw [HRT.out])
          | (refine wpList_store_row rfl 28 _ _ rfl (w.heap.size + 1) #[.slice a n cap, .int .i64 d.cap, .int .i64 d.ops, .bool false, .bool d.told, .int .i64 d.after] rfl rfl _ dz HS3.out.d1.1 disk_info (by rfl) (by simp [Value.oneCell']) ?_))
        obtain ⟨e1, e2, e3⟩ := HS3.out.done (cs' := #[.slice a n cap, .int .i64 d.cap, .int .i64 d.ops, .bool false, .bool d.told, .int .i64 d.after]) HS3.out.rd rfl
        exact bodyPost_ret_by (results_row_tmp rfl _ _ (w.heap.size + 1) _ rfl (disk_load e1.1 rfl)) rfl ⟨_, rfl, e2, e3⟩
      | true =>
        rw [if_neg (by simp)]
        have HRT : Hid (nameN t.data.toList = true) := Lib.hid hr
        clear hr
        by_cases hst : s = t
        · rw [if_pos hst]
          have hq : (s.toList == t.toList) = true := by rw [eqN, decide_eq_true hst]
          clear hi hh hd hf hgn hga hst
          go_enter Tryz.func38, Tryz.ntmps38
          go_wp2_with (first
            | (refine wpList_load_row rfl 28 _ rfl w.heap.size rfl _ _ (0, 0) _ HS3.out.d0.1 Tryz.underlying28 rfl HS3.out.d0.info ?_)
            | (refine wpList_load_row rfl 28 _ rfl w.heap.size rfl _ _ (0, 0) _ HS.out.d0.1 Tryz.underlying28 rfl HS.out.d0.info ?_)
            | (go_at_call 35; (with_reducible refine (HFD.out _ (HS.out.rd.kin (unmask _ _))).mono ?_); rintro e w3 ⟨rfl, hb⟩; have HS3 := Lib.hid (HS.out.next hb); clear hb)
            | (go_at_call 48; (with_reducible refine (rright_any t _ hts).mono ?_); rintro e w' ⟨rfl, rfl⟩; rw [HRT.out])
            | (refine wpList_store_row rfl 28 _ _ rfl (w.heap.size + 1) #[.slice a n cap, .int .i64 d.cap, .int .i64 d.ops, .bool false, .bool d.told, .int .i64 d.after] rfl rfl _ dz HS3.out.d1.1 disk_info (by rfl) (by simp [Value.oneCell']) ?_))
          obtain ⟨e1, e2, e3⟩ := HS3.out.done (cs' := #[.slice a n cap, .int .i64 d.cap, .int .i64 d.ops, .bool false, .bool d.told, .int .i64 d.after]) HS3.out.rd rfl
          exact bodyPost_ret_by (results_row_tmp rfl _ _ (w.heap.size + 1) _ rfl (disk_load e1.1 rfl)) rfl ⟨_, rfl, e2, e3⟩
        · rw [if_neg hst]
          have hq : (s.toList == t.toList) = false := by rw [eqN, decide_eq_false hst]
          have HGA := Lib.hid hga
          have HGN := Lib.hid hgn
          clear hi hh hst hf hgn hga
          by_cases ho : d.ope = 0
          · rw [AD.opR_done d _ ho]
            rw [ho] at HOP
            have HL2 := Lib.hid (AD.opd_L d)
            obtain ⟨d2, hd2⟩ : ∃ d2, d.opd = d2 := ⟨_, rfl⟩
            rw [hd2] at HOP HL2 ⊢
            have HLN := Lib.hid (show d2.L.length ≤ 1000000 from by rw [HL2.out]; exact hn1)
            clear ho hn1 hd2 hd
            go_enter Tryz.func38, Tryz.ntmps38
            go_wp2_with (first
              | (refine wpList_load_row rfl 28 _ rfl w.heap.size rfl _ _ (0, 0) _ HS3.out.d0.1 Tryz.underlying28 rfl HS3.out.d0.info ?_)
              | (refine wpList_load_row rfl 28 _ rfl w.heap.size rfl _ _ (0, 0) _ HS.out.d0.1 Tryz.underlying28 rfl HS.out.d0.info ?_)
              | (go_at_call 35; (with_reducible refine (HFD.out _ (HS.out.rd.kin (unmask _ _))).mono ?_); rintro e w3 ⟨rfl, hb⟩; have HS3 := Lib.hid (HS.out.next hb); clear hb)
              | (go_at_call 48; (with_reducible refine (rright_any t _ hts).mono ?_); rintro e w' ⟨rfl, rfl⟩; rw [HRT.out])
              | (go_at_call 50; (with_reducible refine (HOP.out _).mono ?_); rintro e w4 ⟨rfl, hb⟩; have HS4 := Lib.hid (HS3.out.next hb); clear hb)
              | (refine wpl_store_newD rfl _ _ rfl rfl w4.heap.size rfl #[.slice a n cap, .int .i64 d2.cap, .int .i64 d2.ops, .bool d2.down, .bool d2.told, .int .i64 d2.after] rfl (by simp [Value.oneCell']) rfl rfl ?_; intro w5 HX5 hb5; have HS5 := Lib.hid (HS4.out.next hb5.out); clear hb5; obtain ⟨b, off, a1, c1, a2, c2, a3, c3, rfl, k0, k1, k2, k3, f1, f2, f3⟩ := HS5.out.rd.fls.form4 j f HGA.out; have HK := Lib.hid (And.intro k0 (And.intro k1 (And.intro k2 k3))); have HF4 := Lib.hid (And.intro f1 (And.intro f2 f3)); clear k0 k1 k2 k3 f1 f2 f3; have HU := Lib.hid (unmask (boxF F w) w5); have k0 := HU.out _ _ HK.out.1; have k1 := HU.out _ _ HK.out.2.1; have k2 := HU.out _ _ HK.out.2.2.1; have k3 := HU.out _ _ HK.out.2.2.2; have p0 := HS5.out.d0.cell 0; simp only [List.getElem?_toArray, List.getElem?_cons_zero] at p0)
              | (refine wpList_load_row rfl 28 _ rfl w4.heap.size rfl _ _ (0, 0) _ HX5.out.1 Tryz.underlying28 rfl HX5.out.info ?_))
            have HS6 := Lib.hid ((HS5.out.next (below_alloc w5 (.cells #[.string t, .slice a1 f.n c1, .slice a2 f.n c2, .slice a3 f.n c3] 85))).next (Below.refl _ _).drew)
            have HQ6 := Lib.hid ((Sq.start (v0 := .string t) (v1 := .slice a1 f.n c1) (v2 := .slice a2 f.n c2) (v3 := .slice a3 f.n c3) HX5.out).next (Below.refl _ _).drew)
            have HB6 := Lib.hid (below_alloc w5 (.cells #[.string t, .slice a1 f.n c1, .slice a2 f.n c2, .slice a3 f.n c3] 85)).drew
            have HLW := Lib.hid (show (d2.without s).L.length ≤ 1000000 from Nat.le_trans (withoutF_len _ _) HLN.out)
            refine wp_region_held_drew (S := (fun W' => Sq w4.heap.size #[.slice (some ⟨b, off, none⟩) n cap, .int .i64 d2.cap, .int .i64 d2.ops, .bool d2.down, .bool d2.told, .int .i64 d2.after] w5.heap.size (.string t) (.slice a1 f.n c1) (.slice a2 f.n c2) (.slice a3 f.n c3) W')) (by kernel_rfl) HQ6.out (fun hS => ?_)
            refine rgw 0 ⟨some 45, .load 28 (.tmp 9), 28, _, _, none⟩ hS ?_ (hy := by intro w hSw; (try dsimp only at hSw); refine exec_load_db (.tmp 9) ?_ ?_ hSw.x <;> rfl)
            refine rgw 1 ⟨some 46, .move (.tmp 1), 9, _, _, none⟩ hS ?_
            refine rgw 3 ⟨some 48, .load 85 (.tmp 11), 85, _, _, none⟩ hS ?_ (hy := by intro w hSw; (try dsimp only at hSw); obtain ⟨z0, z1, z2, z3⟩ := hSw.cells; go_simp; try with_reducible rfl)
            refine rg_one 2 ⟨some 47, .call { callee := .value (.func 82), args := #[.tmp 45, .tmp 46], argTypes := #[28, 9] }, 28, _, _, none⟩ (by kernel_rfl) rfl (fun K hK => ?_)
            go_simp
            (go_at_call 82; (with_reducible refine (rwithout_any (boxF F w) _ d2 s _ HS6.out.foot (HS6.out.rd.re HL2.out) HLN.out).mono ?_); rintro e w7 ⟨v7, rfl, hr7, hb⟩; have HS7 := Lib.hid (HS6.out.next hb); have HB7 := Lib.hid (chain HB6.out hb))
            refine hK.out _ _ ?_ (fun hS1 => ?_)
            · (first | exact hS | exact hS.next hb | exact hN)
            clear hK K hS; have hS := hS1; clear hS1
            (try simp only [rgp])
            refine rg_one 4 ⟨some 49, .call { callee := .value (.func 51), args := #[.tmp 47, .tmp 48], argTypes := #[28, 85] }, 28, _, _, none⟩ (by kernel_rfl) rfl (fun K hK => ?_)
            go_simp
            (go_at_call 51; (refine (rwith_any (boxF F w) _ (d2.without s) a1 c1 a2 c2 a3 c3 { f with name := t } _ HS7.out.foot hr7 ⟨_, _, _, rfl, HF4.out.1.kin (kin_mask HB7.out), HF4.out.2.1.kin (kin_mask HB7.out), HF4.out.2.2.kin (kin_mask HB7.out)⟩ HLW.out).mono ?_); rintro e w8 ⟨v8, rfl, hr8, hb⟩; have HS8 := Lib.hid (HS7.out.next hb); obtain ⟨a7, n7, c7, rfl, _⟩ := hr8.agg; have HR8 := Lib.hid hr8)
            refine hK.out _ _ ?_ (fun hS1 => ?_)
            · (first | exact hS | exact hS.next hb | exact hN)
            clear hK K hS; have hS := hS1; clear hS1
            (try simp only [rgp])
            refine rg_one 5 ⟨none, .store 28 (.tmp 6) (.tmp 49), 0, _, _, none⟩ (by kernel_rfl) rfl (fun K hK => ?_)
            rw [if_pos (by rfl)]; refine wp_store_row 28 (.tmp 6) (.tmp 49) rfl (w.heap.size + 1) #[.slice a7 n7 c7, .int .i64 ((d2.without s).withF { f with name := t }).cap, .int .i64 ((d2.without s).withF { f with name := t }).ops, .bool ((d2.without s).withF { f with name := t }).down, .bool ((d2.without s).withF { f with name := t }).told, .int .i64 ((d2.without s).withF { f with name := t }).after] rfl rfl _ dz HS8.out.d1.1 disk_info (by rfl) (by simp [Value.oneCell']) ?_; have hN := hS.row (w.heap.size + 1) (by have := HS4.out.size; omega) (by have := HS5.out.size; omega) #[.slice a7 n7 c7, .int .i64 ((d2.without s).withF { f with name := t }).cap, .int .i64 ((d2.without s).withF { f with name := t }).ops, .bool ((d2.without s).withF { f with name := t }).down, .bool ((d2.without s).withF { f with name := t }).told, .int .i64 ((d2.without s).withF { f with name := t }).after]
            refine hK.out _ _ ?_ (fun hS1 => ?_)
            · (first | exact hS | exact hS.next hb | exact hN)
            clear hK K hS; have hS := hS1; clear hS1
            (try simp only [Act.put])
            refine rgw 6 ⟨some 7, .assign (.const (.int .i64 0)), 41, _, _, none⟩ hS ?_
            refine wpAnyH_done (by kernel_rfl) ?_ _
            clear hS
            go_wp2
            obtain ⟨e1, e2, e3⟩ := HS8.out.done (cs' := #[.slice a7 n7 c7, .int .i64 ((d2.without s).withF { f with name := t }).cap, .int .i64 ((d2.without s).withF { f with name := t }).ops, .bool ((d2.without s).withF { f with name := t }).down, .bool ((d2.without s).withF { f with name := t }).told, .int .i64 ((d2.without s).withF { f with name := t }).after]) HR8.out rfl
            exact bodyPost_ret_by (results_row_tmp rfl _ _ (w.heap.size + 1) _ rfl (disk_load e1.1 rfl)) rfl ⟨_, rfl, e2, e3⟩
          · rw [AD.opR_not d _ ho]
            have h9 : d.ope = 9 := d.ope_or.resolve_left ho
            rw [h9] at HOP
            have HL2 := Lib.hid (AD.opd_L d)
            obtain ⟨d2, hd2⟩ : ∃ d2, d.opd = d2 := ⟨_, rfl⟩
            rw [hd2] at HOP HL2 ⊢
            have HLN := Lib.hid (show d2.L.length ≤ 1000000 from by rw [HL2.out]; exact hn1)
            clear ho hn1 hd2 hd h9
            go_enter Tryz.func38, Tryz.ntmps38
            go_wp2_with (first
              | (refine wpList_load_row rfl 28 _ rfl w.heap.size rfl _ _ (0, 0) _ HS3.out.d0.1 Tryz.underlying28 rfl HS3.out.d0.info ?_)
              | (refine wpList_load_row rfl 28 _ rfl w.heap.size rfl _ _ (0, 0) _ HS.out.d0.1 Tryz.underlying28 rfl HS.out.d0.info ?_)
              | (go_at_call 35; (with_reducible refine (HFD.out _ (HS.out.rd.kin (unmask _ _))).mono ?_); rintro e w3 ⟨rfl, hb⟩; have HS3 := Lib.hid (HS.out.next hb); clear hb)
              | (go_at_call 48; (with_reducible refine (rright_any t _ hts).mono ?_); rintro e w' ⟨rfl, rfl⟩; rw [HRT.out])
              | (go_at_call 50; (with_reducible refine (HOP.out _).mono ?_); rintro e w4 ⟨rfl, hb⟩; have HS4 := Lib.hid (HS3.out.next hb); clear hb)
              | (refine wpl_store_newD rfl _ _ rfl rfl w4.heap.size rfl #[.slice a n cap, .int .i64 d2.cap, .int .i64 d2.ops, .bool d2.down, .bool d2.told, .int .i64 d2.after] rfl (by simp [Value.oneCell']) rfl rfl ?_; intro w5 HX5 hb5; have HS5 := Lib.hid (HS4.out.next hb5.out); clear hb5)
              | (refine wpList_load_row rfl 28 _ rfl w4.heap.size rfl _ _ (0, 0) _ HX5.out.1 Tryz.underlying28 rfl HX5.out.info ?_)
              | (refine wpList_store_row rfl 28 _ _ rfl (w.heap.size + 1) #[.slice a n cap, .int .i64 d2.cap, .int .i64 d2.ops, .bool d2.down, .bool d2.told, .int .i64 d2.after] rfl rfl _ dz HS5.out.d1.1 disk_info (by rfl) (by simp [Value.oneCell']) ?_))
            obtain ⟨e1, e2, e3⟩ := HS5.out.done (cs' := #[.slice a n cap, .int .i64 d2.cap, .int .i64 d2.ops, .bool d2.down, .bool d2.told, .int .i64 d2.after]) (HS5.out.rd.re HL2.out) rfl
            exact bodyPost_ret_by (results_row_tmp rfl _ _ (w.heap.size + 1) _ rfl (disk_load e1.1 rfl)) rfl ⟨_, rfl, e2, e3⟩
    · rw [if_pos (by simpa using hh)]
      have hi0 : i < 0 := by rw [← hi, AD.find_neg]; exact hh
      clear hi hh hd
      go_enter Tryz.func38, Tryz.ntmps38
      go_wp2_with (first
        | (refine wpList_load_row rfl 28 _ rfl w.heap.size rfl _ _ (0, 0) _ HS3.out.d0.1 Tryz.underlying28 rfl HS3.out.d0.info ?_)
        | (refine wpList_load_row rfl 28 _ rfl w.heap.size rfl _ _ (0, 0) _ HS.out.d0.1 Tryz.underlying28 rfl HS.out.d0.info ?_)
        | (go_at_call 35; (with_reducible refine (HFD.out _ (HS.out.rd.kin (unmask _ _))).mono ?_); rintro e w3 ⟨rfl, hb⟩; have HS3 := Lib.hid (HS.out.next hb); clear hb)
        | (refine wpList_store_row rfl 28 _ _ rfl (w.heap.size + 1) #[.slice a n cap, .int .i64 d.cap, .int .i64 d.ops, .bool false, .bool d.told, .int .i64 d.after] rfl rfl _ dz HS3.out.d1.1 disk_info (by rfl) (by simp [Value.oneCell']) ?_))
      obtain ⟨e1, e2, e3⟩ := HS3.out.done (cs' := #[.slice a n cap, .int .i64 d.cap, .int .i64 d.ops, .bool false, .bool d.told, .int .i64 d.after]) HS3.out.rd rfl
      exact bodyPost_ret_by (results_row_tmp rfl _ _ (w.heap.size + 1) _ rfl (disk_load e1.1 rfl)) rfl ⟨_, rfl, e2, e3⟩
end Go.Proofs.YtpoiapfgbbmekaaGreatDoor
namespace Go.Proofs.YtpoiapfgbbmekaaGreatDoor
open Go.RowKit
set_option maxRecDepth 8000 in
set_option maxHeartbeats 1000000 in
theorem rsync_any (F : Nat → Bool) (vd : Value) (d : AD) (s : ByteArray) (w : World) (hF : Foot F w.heap.size) (h : RD (mask F w) vd d) (hn1 : d.L.length ≤ 1000000) (hfn : ((d.get s).n : Int) ≤ 1000000000) :
    Calls Tryz.prog 44 #[vd, .string s] w fun e w' => ∃ v', e = .returned (.tuple #[v', .int .i64 (d.syncR s).2]) ∧ RD (mask F w') v' (d.syncR s).1 ∧ Below w.heap.size w w' := by
  obtain ⟨a, n, cap, rfl, hn, hc1, hc2⟩ := h.agg
  have hst := St.start hF rfl h
  obtain ⟨W2, hW2⟩ : ∃ W2, (w.alloc (.cells #[.slice a n cap, .int .i64 d.cap, .int .i64 d.ops, .bool d.down, .bool d.told, .int .i64 d.after] 28)).alloc (.cells #[.slice none 0 0, .int .i64 0, .int .i64 0, .bool false, .bool false, .int .i64 0] 28) = W2 := ⟨_, rfl⟩
  rw [hW2] at hst
  have HS := Lib.hid hst
  have HN := Lib.hid hn
  obtain ⟨q0, q1, q2, q3, q4, q5⟩ := hst.d0.six
  clear hst hn h hF
  unfold AD.syncR
  by_cases hd : d.down = true
  · rw [if_pos hd]
    simp only [hd] at q3 hW2 HS ⊢
    clear hd
    go_enter Tryz.func44, Tryz.ntmps44
    go_wp2_with (first
      | (refine wpList_load_row rfl 28 _ rfl w.heap.size rfl _ _ (0, 0) _ HS.out.d0.1 Tryz.underlying28 rfl HS.out.d0.info ?_)
      | (refine wpList_store_row rfl 28 _ _ rfl (w.heap.size + 1) #[.slice a n cap, .int .i64 d.cap, .int .i64 d.ops, .bool true, .bool d.told, .int .i64 d.after] rfl rfl _ dz HS.out.d1.1 disk_info (by rfl) (by simp [Value.oneCell']) ?_))
    obtain ⟨e1, e2, e3⟩ := HS.out.done (cs' := #[.slice a n cap, .int .i64 d.cap, .int .i64 d.ops, .bool true, .bool d.told, .int .i64 d.after]) HS.out.rd rfl
    exact bodyPost_ret_by (results_row_tmp rfl _ _ (w.heap.size + 1) _ rfl (disk_load e1.1 rfl)) rfl ⟨_, rfl, e2, e3⟩
  · rw [if_neg hd]
    rw [Bool.not_eq_true] at hd
    simp only [hd] at q3 hW2 HS ⊢
    obtain ⟨i, hi⟩ : ∃ i, findI d.L s = i := ⟨_, rfl⟩
    have HFD := Lib.hid fun W (hw : RD W (.agg #[.slice a n cap, .int .i64 d.cap, .int .i64 d.ops, .bool false, .bool d.told, .int .i64 d.after]) d) => rfind_any (.agg #[.slice a n cap, .int .i64 d.cap, .int .i64 d.ops, .bool false, .bool d.told, .int .i64 d.after]) d s W hw
    rw [hi] at HFD
    have HOP := Lib.hid fun W => rop_any a n cap d W
    unfold dv at HOP
    simp only [hd] at HOP
    by_cases hh : d.has s
    · rw [if_neg (by simpa using hh)]
      have hi0 : i = (idxN d.L s : Int) := by rw [← hi]; exact d.find_has s hh
      obtain ⟨j, hj⟩ : ∃ j, idxN d.L s = j := ⟨_, rfl⟩
      have hga := d.get_at s hh
      have hgn := d.get_name s hh
      rw [hj] at hga hi0
      subst hi0
      obtain ⟨f, hf⟩ : ∃ f, d.get s = f := ⟨_, rfl⟩
      rw [hf] at hga hgn ⊢
      have hjn : j < n := by rw [← HN.out]; exact (List.getElem?_eq_some_iff.1 hga).1
      rw [hf] at hfn
      have HGA := Lib.hid hga
      have HGN := Lib.hid hgn
      clear hi hh hf hgn hga
      by_cases ho : d.ope = 0
      · rw [AD.opR_done d _ ho]
        rw [ho] at HOP
        have HL2 := Lib.hid (AD.opd_L d)
        obtain ⟨d2, hd2⟩ : ∃ d2, d.opd = d2 := ⟨_, rfl⟩
        rw [hd2] at HOP HL2 ⊢
        have HLN := Lib.hid (show d2.L.length ≤ 1000000 from by rw [HL2.out]; exact hn1)
        have hmk := make_bools_run f.n (by omega)
        rw [show ({ f with las := f.seen, ws := List.replicate f.n false } : AF) = ⟨s, f.n, f.seen, f.seen, List.replicate f.n false⟩ from by rw [← HGN.out]]
        clear ho hn1 hd2 hd
        go_enter Tryz.func44, Tryz.ntmps44
        go_wp2_with (first
          | (refine wpList_load_row rfl 28 _ rfl w.heap.size rfl _ _ (0, 0) _ HS3.out.d0.1 Tryz.underlying28 rfl HS3.out.d0.info ?_)
          | (refine wpList_load_row rfl 28 _ rfl w.heap.size rfl _ _ (0, 0) _ HS.out.d0.1 Tryz.underlying28 rfl HS.out.d0.info ?_)
          | (go_at_call 35; (with_reducible refine (HFD.out _ (HS.out.rd.kin (unmask _ _))).mono ?_); rintro e w3 ⟨rfl, hb⟩; have HS3 := Lib.hid (HS.out.next hb); clear hb)
          | (go_at_call 50; (with_reducible refine (HOP.out _).mono ?_); rintro e w4 ⟨rfl, hb⟩; have HS4 := Lib.hid (HS3.out.next hb); clear hb)
          | (refine wpl_store_newD rfl _ _ rfl rfl w4.heap.size rfl #[.slice a n cap, .int .i64 d2.cap, .int .i64 d2.ops, .bool d2.down, .bool d2.told, .int .i64 d2.after] rfl (by simp [Value.oneCell']) rfl rfl ?_; intro w5 HX5 hb5; have HS5 := Lib.hid (HS4.out.next hb5.out); clear hb5; obtain ⟨b, off, a1, c1, a2, c2, a3, c3, rfl, k0, k1, k2, k3, f1, f2, f3⟩ := HS5.out.rd.fls.form4 j f HGA.out; have HK := Lib.hid (And.intro k0 (And.intro k1 (And.intro k2 k3))); have HF4 := Lib.hid (And.intro f1 (And.intro f2 f3)); clear k0 k1 k2 k3 f1 f2 f3; have HU := Lib.hid (unmask (boxF F w) w5); have k2 := HU.out _ _ HK.out.2.2.1; have p0 := HS5.out.d0.cell 0; simp only [List.getElem?_toArray, List.getElem?_cons_zero] at p0)
          | (refine wpList_load_row rfl 28 _ rfl w4.heap.size rfl _ _ (0, 0) _ HX5.out.1 Tryz.underlying28 rfl HX5.out.info ?_))
        have HS6 := Lib.hid (HS5.out.next (Below.refl _ _).drew)
        have HQ6 : Hid (Sk (boxF F w) w.heap.size (.slice (some ⟨b, off, none⟩) n cap) w4.heap.size #[.slice (some ⟨b, off, none⟩) n cap, .int .i64 d2.cap, .int .i64 d2.ops, .bool d2.down, .bool d2.told, .int .i64 d2.after] ⟨b, off + j * 4 + 2, none⟩ (.slice a2 f.n c2) w5.drew) := Lib.hid (Sk.next ⟨HX5.out, p0, HK.out.2.2.1⟩ (Below.refl _ _).drew)
        have HB6 : Hid (Below w5.heap.size w5 w5.drew) := Lib.hid (Below.refl _ _).drew
        refine wp_region_held_drew (S := (fun W' => Sk (boxF F w) w.heap.size (.slice (some ⟨b, off, none⟩) n cap) w4.heap.size #[.slice (some ⟨b, off, none⟩) n cap, .int .i64 d2.cap, .int .i64 d2.ops, .bool d2.down, .bool d2.told, .int .i64 d2.after] ⟨b, off + j * 4 + 2, none⟩ (.slice a2 f.n c2) W')) (by kernel_rfl) HQ6.out (fun hS => ?_)
        refine rgw 0 ⟨some 27, .load 28 (.tmp 7), 28, _, _, none⟩ hS ?_ (hy := by intro w hSw; (try dsimp only at hSw); refine exec_load_db (.tmp 7) ?_ ?_ hSw.x <;> rfl)
        refine rgw 1 ⟨some 28, .move (.tmp 1), 9, _, _, none⟩ hS ?_
        refine rgw 2 ⟨some 29, .fieldAddr 28 (.tmp 2) 0, 0, _, _, none⟩ hS ?_ (hy := by intro w hSw; (try dsimp only at hSw); have z0 := hSw.c0; have z2 := unmask _ _ _ _ hSw.k; go_simp; try with_reducible rfl)
        refine rgw 3 ⟨some 30, .load 26 (.tmp 29), 26, _, _, none⟩ hS ?_ (hy := by intro w hSw; (try dsimp only at hSw); have z0 := hSw.c0; have z2 := unmask _ _ _ _ hSw.k; go_simp; try with_reducible rfl)
        refine rgw 4 ⟨some 31, .move (.tmp 6), 3, _, _, none⟩ hS ?_
        refine rgw 5 ⟨some 32, .indexAddr 26 (.tmp 30) (.tmp 31), 0, _, _, none⟩ hS ?_ (hy := by intro w hSw; (try dsimp only at hSw); have z0 := hSw.c0; have z2 := unmask _ _ _ _ hSw.k; go_simp; try with_reducible rfl)
        refine rgw 6 ⟨some 33, .fieldAddr 85 (.tmp 32) 2, 0, _, _, none⟩ hS ?_ (hy := by intro w hSw; (try dsimp only at hSw); have z0 := hSw.c0; have z2 := unmask _ _ _ _ hSw.k; go_simp; try with_reducible rfl)
        refine rgw 7 ⟨some 34, .load 35 (.tmp 33), 35, _, _, none⟩ hS ?_ (hy := by intro w hSw; (try dsimp only at hSw); have z0 := hSw.c0; have z2 := unmask _ _ _ _ hSw.k; go_simp; try with_reducible rfl)
        refine rgw 8 ⟨some 35, .fieldAddr 28 (.tmp 2) 0, 0, _, _, none⟩ hS ?_ (hy := by intro w hSw; (try dsimp only at hSw); have z0 := hSw.c0; have z2 := unmask _ _ _ _ hSw.k; go_simp; try with_reducible rfl)
        refine rgw 9 ⟨some 36, .load 26 (.tmp 35), 26, _, _, none⟩ hS ?_ (hy := by intro w hSw; (try dsimp only at hSw); have z0 := hSw.c0; have z2 := unmask _ _ _ _ hSw.k; go_simp; try with_reducible rfl)
        refine rgw 10 ⟨some 37, .move (.tmp 6), 3, _, _, none⟩ hS ?_
        refine rgw 11 ⟨some 38, .indexAddr 26 (.tmp 36) (.tmp 37), 0, _, _, none⟩ hS ?_ (hy := by intro w hSw; (try dsimp only at hSw); have z0 := hSw.c0; have z2 := unmask _ _ _ _ hSw.k; go_simp; try with_reducible rfl)
        refine rgw 12 ⟨some 39, .fieldAddr 85 (.tmp 38) 2, 0, _, _, none⟩ hS ?_ (hy := by intro w hSw; (try dsimp only at hSw); have z0 := hSw.c0; have z2 := unmask _ _ _ _ hSw.k; go_simp; try with_reducible rfl)
        refine rgw 13 ⟨some 40, .load 35 (.tmp 39), 35, _, _, none⟩ hS ?_ (hy := by intro w hSw; (try dsimp only at hSw); have z0 := hSw.c0; have z2 := unmask _ _ _ _ hSw.k; go_simp; try with_reducible rfl)
        refine rgw 14 ⟨some 41, .fieldAddr 28 (.tmp 2) 0, 0, _, _, none⟩ hS ?_ (hy := by intro w hSw; (try dsimp only at hSw); have z0 := hSw.c0; have z2 := unmask _ _ _ _ hSw.k; go_simp; try with_reducible rfl)
        refine rgw 15 ⟨some 42, .load 26 (.tmp 41), 26, _, _, none⟩ hS ?_ (hy := by intro w hSw; (try dsimp only at hSw); have z0 := hSw.c0; have z2 := unmask _ _ _ _ hSw.k; go_simp; try with_reducible rfl)
        refine rgw 16 ⟨some 43, .move (.tmp 6), 3, _, _, none⟩ hS ?_
        refine rgw 17 ⟨some 44, .indexAddr 26 (.tmp 42) (.tmp 43), 0, _, _, none⟩ hS ?_ (hy := by intro w hSw; (try dsimp only at hSw); have z0 := hSw.c0; have z2 := unmask _ _ _ _ hSw.k; go_simp; try with_reducible rfl)
        refine rgw 18 ⟨some 45, .fieldAddr 85 (.tmp 44) 2, 0, _, _, none⟩ hS ?_ (hy := by intro w hSw; (try dsimp only at hSw); have z0 := hSw.c0; have z2 := unmask _ _ _ _ hSw.k; go_simp; try with_reducible rfl)
        refine rgw 19 ⟨some 46, .load 35 (.tmp 45), 35, _, _, none⟩ hS ?_ (hy := by intro w hSw; (try dsimp only at hSw); have z0 := hSw.c0; have z2 := unmask _ _ _ _ hSw.k; go_simp; try with_reducible rfl)
        refine rgw 20 ⟨some 47, .call { callee := .builtin Builtin.len, args := #[.tmp 46], argTypes := #[35] }, 3, _, _, none⟩ hS ?_
        refine rg_one 21 ⟨some 48, .makeSlice 83 (.tmp 47) (.tmp 47), 83, _, _, none⟩ (by kernel_rfl) rfl (fun K hK => ?_)
        go_simp
        (have hb : Below w5.drew.heap.size w5.drew (w5.alloc (.cells (Array.replicate f.n (Value.bool false)) 4)).drew := below_drew_alloc w5 (.cells (Array.replicate f.n (Value.bool false)) 4); have HS7 := Lib.hid (HS6.out.next hb); have HB7 := Lib.hid (chain HB6.out hb); have HBS := Lib.hid ((BS.fresh HS5.out.foot f.n (by omega) 4).kin (kin_drew _ _)))
        refine hK.out _ _ ?_ (fun hS1 => ?_)
        · (first | exact hS | exact hS.next hb | exact hN)
        clear hK K hS; have hS := hS1; clear hS1
        (try simp only [rgp])
        refine rgw 22 ⟨some 49, .build 85 #[(0, .tmp 28), (1, .tmp 34), (2, .tmp 40), (3, .tmp 48)], 85, _, _, none⟩ hS ?_
        refine rg_one 23 ⟨some 50, .call { callee := .value (.func 51), args := #[.tmp 27, .tmp 49], argTypes := #[28, 85] }, 28, _, _, none⟩ (by kernel_rfl) rfl (fun K hK => ?_)
        go_simp
        (go_at_call 51; (refine (rwith_any (boxF F w) _ d2 a2 c2 a2 c2 (some ⟨w5.heap.size, 0, none⟩) f.n ⟨s, f.n, f.seen, f.seen, List.replicate f.n false⟩ _ HS7.out.foot (HS7.out.rd.re HL2.out) ⟨_, _, _, rfl, HF4.out.2.1.kin (kin_mask HB7.out), HF4.out.2.1.kin (kin_mask HB7.out), HBS.out⟩ HLN.out).mono ?_); rintro e w8 ⟨v8, rfl, hr8, hb⟩; have HS8 := Lib.hid (HS7.out.next hb); obtain ⟨a7, n7, c7, rfl, _⟩ := hr8.agg; have HR8 := Lib.hid hr8)
        refine hK.out _ _ ?_ (fun hS1 => ?_)
        · (first | exact hS | exact hS.next hb | exact hN)
        clear hK K hS; have hS := hS1; clear hS1
        (try simp only [rgp])
        refine rg_one 24 ⟨none, .store 28 (.tmp 4) (.tmp 50), 0, _, _, none⟩ (by kernel_rfl) rfl (fun K hK => ?_)
        rw [if_pos (by rfl)]; refine wp_store_row 28 (.tmp 4) (.tmp 50) rfl (w.heap.size + 1) #[.slice a7 n7 c7, .int .i64 (d2.withF ⟨s, f.n, f.seen, f.seen, List.replicate f.n false⟩).cap, .int .i64 (d2.withF ⟨s, f.n, f.seen, f.seen, List.replicate f.n false⟩).ops, .bool (d2.withF ⟨s, f.n, f.seen, f.seen, List.replicate f.n false⟩).down, .bool (d2.withF ⟨s, f.n, f.seen, f.seen, List.replicate f.n false⟩).told, .int .i64 (d2.withF ⟨s, f.n, f.seen, f.seen, List.replicate f.n false⟩).after] rfl rfl _ dz HS8.out.d1.1 disk_info (by rfl) (by simp [Value.oneCell']) ?_; have hN := hS.row (w.heap.size + 1) (by have := HS4.out.size; omega) (by omega) (box_in1 F w) #[.slice a7 n7 c7, .int .i64 (d2.withF ⟨s, f.n, f.seen, f.seen, List.replicate f.n false⟩).cap, .int .i64 (d2.withF ⟨s, f.n, f.seen, f.seen, List.replicate f.n false⟩).ops, .bool (d2.withF ⟨s, f.n, f.seen, f.seen, List.replicate f.n false⟩).down, .bool (d2.withF ⟨s, f.n, f.seen, f.seen, List.replicate f.n false⟩).told, .int .i64 (d2.withF ⟨s, f.n, f.seen, f.seen, List.replicate f.n false⟩).after]
        refine hK.out _ _ ?_ (fun hS1 => ?_)
        · (first | exact hS | exact hS.next hb | exact hN)
        clear hK K hS; have hS := hS1; clear hS1
        (try simp only [Act.put])
        refine rgw 25 ⟨some 5, .assign (.const (.int .i64 0)), 41, _, _, none⟩ hS ?_
        refine wpAnyH_done (by kernel_rfl) ?_ _
        clear hS
        go_wp2
        obtain ⟨e1, e2, e3⟩ := HS8.out.done (cs' := #[.slice a7 n7 c7, .int .i64 (d2.withF ⟨s, f.n, f.seen, f.seen, List.replicate f.n false⟩).cap, .int .i64 (d2.withF ⟨s, f.n, f.seen, f.seen, List.replicate f.n false⟩).ops, .bool (d2.withF ⟨s, f.n, f.seen, f.seen, List.replicate f.n false⟩).down, .bool (d2.withF ⟨s, f.n, f.seen, f.seen, List.replicate f.n false⟩).told, .int .i64 (d2.withF ⟨s, f.n, f.seen, f.seen, List.replicate f.n false⟩).after]) HR8.out rfl
        exact bodyPost_ret_by (results_row_tmp rfl _ _ (w.heap.size + 1) _ rfl (disk_load e1.1 rfl)) rfl ⟨_, rfl, e2, e3⟩
      · rw [AD.opR_not d _ ho]
        have h9 : d.ope = 9 := d.ope_or.resolve_left ho
        rw [h9] at HOP
        have HL2 := Lib.hid (AD.opd_L d)
        obtain ⟨d2, hd2⟩ : ∃ d2, d.opd = d2 := ⟨_, rfl⟩
        rw [hd2] at HOP HL2 ⊢
        have HLN := Lib.hid (show d2.L.length ≤ 1000000 from by rw [HL2.out]; exact hn1)
        clear ho hn1 hd2 hd h9
        go_enter Tryz.func44, Tryz.ntmps44
        go_wp2_with (first
          | (refine wpList_load_row rfl 28 _ rfl w.heap.size rfl _ _ (0, 0) _ HS3.out.d0.1 Tryz.underlying28 rfl HS3.out.d0.info ?_)
          | (refine wpList_load_row rfl 28 _ rfl w.heap.size rfl _ _ (0, 0) _ HS.out.d0.1 Tryz.underlying28 rfl HS.out.d0.info ?_)
          | (go_at_call 35; (with_reducible refine (HFD.out _ (HS.out.rd.kin (unmask _ _))).mono ?_); rintro e w3 ⟨rfl, hb⟩; have HS3 := Lib.hid (HS.out.next hb); clear hb)
          | (go_at_call 50; (with_reducible refine (HOP.out _).mono ?_); rintro e w4 ⟨rfl, hb⟩; have HS4 := Lib.hid (HS3.out.next hb); clear hb)
          | (refine wpl_store_newD rfl _ _ rfl rfl w4.heap.size rfl #[.slice a n cap, .int .i64 d2.cap, .int .i64 d2.ops, .bool d2.down, .bool d2.told, .int .i64 d2.after] rfl (by simp [Value.oneCell']) rfl rfl ?_; intro w5 HX5 hb5; have HS5 := Lib.hid (HS4.out.next hb5.out); clear hb5)
          | (refine wpList_load_row rfl 28 _ rfl w4.heap.size rfl _ _ (0, 0) _ HX5.out.1 Tryz.underlying28 rfl HX5.out.info ?_)
          | (refine wpList_store_row rfl 28 _ _ rfl (w.heap.size + 1) #[.slice a n cap, .int .i64 d2.cap, .int .i64 d2.ops, .bool d2.down, .bool d2.told, .int .i64 d2.after] rfl rfl _ dz HS5.out.d1.1 disk_info (by rfl) (by simp [Value.oneCell']) ?_))
        obtain ⟨e1, e2, e3⟩ := HS5.out.done (cs' := #[.slice a n cap, .int .i64 d2.cap, .int .i64 d2.ops, .bool d2.down, .bool d2.told, .int .i64 d2.after]) (HS5.out.rd.re HL2.out) rfl
        exact bodyPost_ret_by (results_row_tmp rfl _ _ (w.heap.size + 1) _ rfl (disk_load e1.1 rfl)) rfl ⟨_, rfl, e2, e3⟩
    · rw [if_pos (by simpa using hh)]
      have hi0 : i < 0 := by rw [← hi, AD.find_neg]; exact hh
      clear hi hh hd
      go_enter Tryz.func44, Tryz.ntmps44
      go_wp2_with (first
        | (refine wpList_load_row rfl 28 _ rfl w.heap.size rfl _ _ (0, 0) _ HS3.out.d0.1 Tryz.underlying28 rfl HS3.out.d0.info ?_)
        | (refine wpList_load_row rfl 28 _ rfl w.heap.size rfl _ _ (0, 0) _ HS.out.d0.1 Tryz.underlying28 rfl HS.out.d0.info ?_)
        | (go_at_call 35; (with_reducible refine (HFD.out _ (HS.out.rd.kin (unmask _ _))).mono ?_); rintro e w3 ⟨rfl, hb⟩; have HS3 := Lib.hid (HS.out.next hb); clear hb)
        | (refine wpList_store_row rfl 28 _ _ rfl (w.heap.size + 1) #[.slice a n cap, .int .i64 d.cap, .int .i64 d.ops, .bool false, .bool d.told, .int .i64 d.after] rfl rfl _ dz HS3.out.d1.1 disk_info (by rfl) (by simp [Value.oneCell']) ?_))
      obtain ⟨e1, e2, e3⟩ := HS3.out.done (cs' := #[.slice a n cap, .int .i64 d.cap, .int .i64 d.ops, .bool false, .bool d.told, .int .i64 d.after]) HS3.out.rd rfl
      exact bodyPost_ret_by (results_row_tmp rfl _ _ (w.heap.size + 1) _ rfl (disk_load e1.1 rfl)) rfl ⟨_, rfl, e2, e3⟩
end Go.Proofs.YtpoiapfgbbmekaaGreatDoor
namespace Go.Proofs.YtpoiapfgbbmekaaGreatDoor
open Go.RowKit
set_option maxRecDepth 8000 in
set_option maxHeartbeats 4000000 in
theorem rmake_any (F : Nat → Bool) (vd : Value) (d : AD) (s : ByteArray) (k : Int) (w : World) (hF : Foot F w.heap.size) (h : RD (mask F w) vd d) (hn1 : d.L.length ≤ 1000000) (hu : usedN d.L ≤ 1000000000000) (hss : s.size ≤ 281474976710656) (hk63 : I63 k) :
    Calls Tryz.prog 14 #[vd, .string s, .int .i64 k] w fun e w' => ∃ v', e = .returned (.tuple #[v', .int .i64 (d.makeR s k).2]) ∧ RD (mask F w') v' (d.makeR s k).1 ∧ Below w.heap.size w w' := by
  obtain ⟨a, n, cap, rfl, hn, hc1, hc2⟩ := h.agg
  have hst := St.start hF rfl h
  obtain ⟨W2, hW2⟩ : ∃ W2, (w.alloc (.cells #[.slice a n cap, .int .i64 d.cap, .int .i64 d.ops, .bool d.down, .bool d.told, .int .i64 d.after] 28)).alloc (.cells #[.slice none 0 0, .int .i64 0, .int .i64 0, .bool false, .bool false, .int .i64 0] 28) = W2 := ⟨_, rfl⟩
  rw [hW2] at hst
  have HS := Lib.hid hst
  have HN := Lib.hid hn
  obtain ⟨q0, q1, q2, q3, q4, q5⟩ := hst.d0.six
  clear hst hn h hF
  unfold I63 at hk63
  unfold AD.makeR
  by_cases hd : d.down = true
  · rw [if_pos hd]
    simp only [hd] at q3 hW2 HS ⊢
    clear hd
    go_enter Tryz.func14, Tryz.ntmps14
    go_wp2_with (first
      | (refine wpList_load_row rfl 28 _ rfl w.heap.size rfl _ _ (0, 0) _ HS.out.d0.1 Tryz.underlying28 rfl HS.out.d0.info ?_)
      | (refine wpList_store_row rfl 28 _ _ rfl (w.heap.size + 1) #[.slice a n cap, .int .i64 d.cap, .int .i64 d.ops, .bool true, .bool d.told, .int .i64 d.after] rfl rfl _ dz HS.out.d1.1 disk_info (by rfl) (by simp [Value.oneCell']) ?_))
    obtain ⟨e1, e2, e3⟩ := HS.out.done (cs' := #[.slice a n cap, .int .i64 d.cap, .int .i64 d.ops, .bool true, .bool d.told, .int .i64 d.after]) HS.out.rd rfl
    exact bodyPost_ret_by (results_row_tmp rfl _ _ (w.heap.size + 1) _ rfl (disk_load e1.1 rfl)) rfl ⟨_, rfl, e2, e3⟩
  · rw [if_neg hd]
    rw [Bool.not_eq_true] at hd
    simp only [hd] at q3 hW2 HS ⊢
    obtain ⟨i, hi⟩ : ∃ i, findI d.L s = i := ⟨_, rfl⟩
    have HFD := Lib.hid fun W (hw : RD W (.agg #[.slice a n cap, .int .i64 d.cap, .int .i64 d.ops, .bool false, .bool d.told, .int .i64 d.after]) d) => rfind_any (.agg #[.slice a n cap, .int .i64 d.cap, .int .i64 d.ops, .bool false, .bool d.told, .int .i64 d.after]) d s W hw
    rw [hi] at HFD
    have HOP := Lib.hid fun W => rop_any a n cap d W
    unfold dv at HOP
    simp only [hd] at HOP
    cases hr : rightB s with
    | false =>
      rw [if_pos rfl]
      have HRT : Hid (nameN s.data.toList = false) := Lib.hid hr
      clear hr hd
      go_enter Tryz.func14, Tryz.ntmps14
      go_wp2_with (first
        | (refine wpList_load_row rfl 28 _ rfl w.heap.size rfl _ _ (0, 0) _ HS3.out.d0.1 Tryz.underlying28 rfl HS3.out.d0.info ?_)
        | (refine wpList_load_row rfl 28 _ rfl w.heap.size rfl _ _ (0, 0) _ HS.out.d0.1 Tryz.underlying28 rfl HS.out.d0.info ?_)
        | (go_at_call 48; (with_reducible refine (rright_any s _ hss).mono ?_); rintro e w' ⟨rfl, rfl⟩; rw [HRT.out])
        | (go_at_call 35; (with_reducible refine (HFD.out _ (HS.out.rd.kin (unmask _ _))).mono ?_); rintro e w3 ⟨rfl, hb⟩; have HS3 := Lib.hid (HS.out.next hb); clear hb)
        | (refine wpList_store_row rfl 28 _ _ rfl (w.heap.size + 1) #[.slice a n cap, .int .i64 d.cap, .int .i64 d.ops, .bool false, .bool d.told, .int .i64 d.after] rfl rfl _ dz HS.out.d1.1 disk_info (by rfl) (by simp [Value.oneCell']) ?_))
      obtain ⟨e1, e2, e3⟩ := HS.out.done (cs' := #[.slice a n cap, .int .i64 d.cap, .int .i64 d.ops, .bool false, .bool d.told, .int .i64 d.after]) HS.out.rd rfl
      exact bodyPost_ret_by (results_row_tmp rfl _ _ (w.heap.size + 1) _ rfl (disk_load e1.1 rfl)) rfl ⟨_, rfl, e2, e3⟩
    | true =>
      rw [if_neg (by simp)]
      have HRT : Hid (nameN s.data.toList = true) := Lib.hid hr
      clear hr
      by_cases hh : d.has s
      · rw [if_pos hh]
        have hi0 : ¬ i < 0 := by rw [← hi, AD.find_neg]; simpa using hh
        clear hi hh hd
        go_enter Tryz.func14, Tryz.ntmps14
        go_wp2_with (first
          | (refine wpList_load_row rfl 28 _ rfl w.heap.size rfl _ _ (0, 0) _ HS3.out.d0.1 Tryz.underlying28 rfl HS3.out.d0.info ?_)
          | (refine wpList_load_row rfl 28 _ rfl w.heap.size rfl _ _ (0, 0) _ HS.out.d0.1 Tryz.underlying28 rfl HS.out.d0.info ?_)
          | (go_at_call 48; (with_reducible refine (rright_any s _ hss).mono ?_); rintro e w' ⟨rfl, rfl⟩; rw [HRT.out])
          | (go_at_call 35; (with_reducible refine (HFD.out _ (HS.out.rd.kin (unmask _ _))).mono ?_); rintro e w3 ⟨rfl, hb⟩; have HS3 := Lib.hid (HS.out.next hb); clear hb)
          | (refine wpList_store_row rfl 28 _ _ rfl (w.heap.size + 1) #[.slice a n cap, .int .i64 d.cap, .int .i64 d.ops, .bool false, .bool d.told, .int .i64 d.after] rfl rfl _ dz HS3.out.d1.1 disk_info (by rfl) (by simp [Value.oneCell']) ?_))
        obtain ⟨e1, e2, e3⟩ := HS3.out.done (cs' := #[.slice a n cap, .int .i64 d.cap, .int .i64 d.ops, .bool false, .bool d.told, .int .i64 d.after]) HS3.out.rd rfl
        exact bodyPost_ret_by (results_row_tmp rfl _ _ (w.heap.size + 1) _ rfl (disk_load e1.1 rfl)) rfl ⟨_, rfl, e2, e3⟩
      · rw [if_neg hh]
        have hi0 : i < 0 := by rw [← hi, AD.find_neg]; exact hh
        clear hi hh
        by_cases hk1 : k < 1
        · rw [if_pos (.inl hk1)]
          clear hd
          go_enter Tryz.func14, Tryz.ntmps14
          go_wp2_with (first
            | (refine wpList_load_row rfl 28 _ rfl w.heap.size rfl _ _ (0, 0) _ HS3.out.d0.1 Tryz.underlying28 rfl HS3.out.d0.info ?_)
            | (refine wpList_load_row rfl 28 _ rfl w.heap.size rfl _ _ (0, 0) _ HS.out.d0.1 Tryz.underlying28 rfl HS.out.d0.info ?_)
            | (go_at_call 48; (with_reducible refine (rright_any s _ hss).mono ?_); rintro e w' ⟨rfl, rfl⟩; rw [HRT.out])
            | (go_at_call 35; (with_reducible refine (HFD.out _ (HS.out.rd.kin (unmask _ _))).mono ?_); rintro e w3 ⟨rfl, hb⟩; have HS3 := Lib.hid (HS.out.next hb); clear hb)
            | (refine wpList_store_row rfl 28 _ _ rfl (w.heap.size + 1) #[.slice a n cap, .int .i64 d.cap, .int .i64 d.ops, .bool false, .bool d.told, .int .i64 d.after] rfl rfl _ dz HS3.out.d1.1 disk_info (by rfl) (by simp [Value.oneCell']) ?_))
          obtain ⟨e1, e2, e3⟩ := HS3.out.done (cs' := #[.slice a n cap, .int .i64 d.cap, .int .i64 d.ops, .bool false, .bool d.told, .int .i64 d.after]) HS3.out.rd rfl
          exact bodyPost_ret_by (results_row_tmp rfl _ _ (w.heap.size + 1) _ rfl (disk_load e1.1 rfl)) rfl ⟨_, rfl, e2, e3⟩
        by_cases hk2 : 64 < k
        · rw [if_pos (.inr hk2)]
          clear hd
          go_enter Tryz.func14, Tryz.ntmps14
          go_wp2_with (first
            | (refine wpList_load_row rfl 28 _ rfl w.heap.size rfl _ _ (0, 0) _ HS3.out.d0.1 Tryz.underlying28 rfl HS3.out.d0.info ?_)
            | (refine wpList_load_row rfl 28 _ rfl w.heap.size rfl _ _ (0, 0) _ HS.out.d0.1 Tryz.underlying28 rfl HS.out.d0.info ?_)
            | (go_at_call 48; (with_reducible refine (rright_any s _ hss).mono ?_); rintro e w' ⟨rfl, rfl⟩; rw [HRT.out])
            | (go_at_call 35; (with_reducible refine (HFD.out _ (HS.out.rd.kin (unmask _ _))).mono ?_); rintro e w3 ⟨rfl, hb⟩; have HS3 := Lib.hid (HS.out.next hb); clear hb)
            | (refine wpList_store_row rfl 28 _ _ rfl (w.heap.size + 1) #[.slice a n cap, .int .i64 d.cap, .int .i64 d.ops, .bool false, .bool d.told, .int .i64 d.after] rfl rfl _ dz HS3.out.d1.1 disk_info (by rfl) (by simp [Value.oneCell']) ?_))
          obtain ⟨e1, e2, e3⟩ := HS3.out.done (cs' := #[.slice a n cap, .int .i64 d.cap, .int .i64 d.ops, .bool false, .bool d.told, .int .i64 d.after]) HS3.out.rd rfl
          exact bodyPost_ret_by (results_row_tmp rfl _ _ (w.heap.size + 1) _ rfl (disk_load e1.1 rfl)) rfl ⟨_, rfl, e2, e3⟩
        rw [if_neg (by omega)]
        obtain ⟨kq, rfl⟩ : ∃ kq : Nat, k = (kq : Int) := ⟨k.toNat, by omega⟩
        obtain ⟨u, hu1⟩ : ∃ u, usedN d.L = u := ⟨_, rfl⟩
        have HUS := Lib.hid fun W (hw : RD W (.agg #[.slice a n cap, .int .i64 d.cap, .int .i64 d.ops, .bool false, .bool d.told, .int .i64 d.after]) d) => rused_any (.agg #[.slice a n cap, .int .i64 d.cap, .int .i64 d.ops, .bool false, .bool d.told, .int .i64 d.after]) d W hw hu
        rw [hu1] at HUS hu
        have hwu : IntKind.i64.wrap ((u : Int) + (kq : Int)) = (u : Int) + (kq : Int) := IntWalk.i64_in _ (by omega)
        have hkk : (kq : Int) ≤ 64 := by omega
        rw [Int.toNat_natCast, hu1]
        by_cases hc : d.cap < (u : Int) + (kq : Int)
        · rw [if_pos (.inl hc)]
          have HDC := Lib.hid (show decide (d.cap < (u : Int) + (kq : Int)) = true from decide_eq_true hc)
          clear hd hu1
          go_enter Tryz.func14, Tryz.ntmps14
          go_wp2_with (first
            | (refine wpList_load_row rfl 28 _ rfl w.heap.size rfl _ _ (0, 0) _ HS3.out.d0.1 Tryz.underlying28 rfl HS3.out.d0.info ?_)
            | (refine wpList_load_row rfl 28 _ rfl w.heap.size rfl _ _ (0, 0) _ HS.out.d0.1 Tryz.underlying28 rfl HS.out.d0.info ?_)
            | (go_at_call 48; (with_reducible refine (rright_any s _ hss).mono ?_); rintro e w' ⟨rfl, rfl⟩; rw [HRT.out])
            | (go_at_call 35; (with_reducible refine (HFD.out _ (HS.out.rd.kin (unmask _ _))).mono ?_); rintro e w3 ⟨rfl, hb⟩; have HS3 := Lib.hid (HS.out.next hb); clear hb))
          refine wp_region_held_drew (S := (fun W' => DB W' w.heap.size #[.slice a n cap, .int .i64 d.cap, .int .i64 d.ops, .bool false, .bool d.told, .int .i64 d.after])) (by kernel_rfl) (HS3.out.d0.next (Below.refl _ _).drew) (fun hS => ?_)
          refine rgw 0 ⟨some 29, .load 28 (.tmp 3), 28, _, _, none⟩ hS ?_ (hy := by intro w hSw; (try dsimp only at hSw); refine exec_load_db (.tmp 3) ?_ ?_ hSw <;> rfl)
          refine rgw 2 ⟨some 31, .move (.tmp 2), 3, _, _, none⟩ hS ?_
          refine rgw 4 ⟨some 33, .fieldAddr 28 (.tmp 3) 1, 0, _, _, none⟩ hS ?_ (hy := by intro w hSw; (try dsimp only at hSw); obtain ⟨z0, z1, z2, z3, z4, z5⟩ := hSw.six; go_simp; try with_reducible rfl)
          refine rgw 5 ⟨some 34, .load 3 (.tmp 33), 3, _, _, none⟩ hS ?_ (hy := by intro w hSw; (try dsimp only at hSw); obtain ⟨z0, z1, z2, z3, z4, z5⟩ := hSw.six; go_simp; try with_reducible rfl)
          refine rg_one 1 ⟨some 30, .call { callee := .value (.func 49), args := #[.tmp 29], argTypes := #[28] }, 3, _, _, none⟩ (by kernel_rfl) rfl (fun K hK => ?_)
          go_simp
          (go_at_call 49; (with_reducible refine (HUS.out _ (HS3.out.rd.kin ((unmask _ _).trans (Kin.below (Below.refl _ _).drew)))).mono ?_); rintro e w3b ⟨rfl, hb⟩; have HS3b := Lib.hid ((HS3.out.next (Below.refl _ _).drew).next hb))
          refine hK.out _ _ ?_ (fun hS1 => ?_)
          · (first | exact hS | exact hS.next hb)
          clear hK K hS; have hS := hS1; clear hS1
          (try simp only [rgp])
          refine rgw 3 ⟨some 32, .binOp .add 3 (.tmp 30) (.tmp 31) 3, 3, _, _, none⟩ hS ?_
          refine rgw 6 ⟨some 35, .binOp .gtr 3 (.tmp 32) (.tmp 34) 3, 4, _, _, none⟩ hS ?_ (hy := by intro w hSw; (try dsimp only at hSw); go_simp; (try rw [HDC.out]); try with_reducible rfl)
          refine rgw 7 ⟨some 36, .move (.tmp 35), 4, _, _, none⟩ hS ?_
          refine rgt 8 (oi := ⟨some 37, .fieldAddr 28 (.tmp 3) 0, 0, _, _, some (7, false)⟩) (v := undef) rfl (.inr ⟨by rfl, rfl⟩) hS ?_
          (try simp only [rgp])
          refine rgt 9 (oi := ⟨some 38, .load 26 (.tmp 37), 26, _, _, some (7, false)⟩) (v := undef) rfl (.inr ⟨by rfl, rfl⟩) hS ?_
          (try simp only [rgp])
          refine rgt 10 (oi := ⟨some 39, .call { callee := .builtin Builtin.len, args := #[.tmp 38], argTypes := #[26] }, 3, _, _, some (7, false)⟩) (v := undef) rfl (.inr ⟨by rfl, rfl⟩) hS ?_
          (try simp only [rgp])
          refine rgt 11 (oi := ⟨some 40, .binOp .geq 3 (.tmp 39) (.const (.int .i64 64)) 3, 4, _, _, some (7, false)⟩) (v := undef) rfl (.inr ⟨by rfl, rfl⟩) hS ?_
          (try simp only [rgp])
          refine rgw 12 ⟨some 41, .pick (.tmp 36) (.const (.bool true)) (.tmp 40), 4, _, _, none⟩ hS ?_
          refine wpAnyH_done (by kernel_rfl) ?_ _
          clear hS
          go_wp2_with (first
            | (refine wpList_load_row rfl 28 _ rfl w.heap.size rfl _ _ (0, 0) _ HS3b.out.d0.1 Tryz.underlying28 rfl HS3b.out.d0.info ?_)
            | (refine wpList_store_row rfl 28 _ _ rfl (w.heap.size + 1) #[.slice a n cap, .int .i64 d.cap, .int .i64 d.ops, .bool false, .bool d.told, .int .i64 d.after] rfl rfl _ dz HS3b.out.d1.1 disk_info (by rfl) (by simp [Value.oneCell']) ?_))
          obtain ⟨e1, e2, e3⟩ := HS3b.out.done (cs' := #[.slice a n cap, .int .i64 d.cap, .int .i64 d.ops, .bool false, .bool d.told, .int .i64 d.after]) HS3b.out.rd rfl
          exact bodyPost_ret_by (results_row_tmp rfl _ _ (w.heap.size + 1) _ rfl (disk_load e1.1 rfl)) rfl ⟨_, rfl, e2, e3⟩
        · have HDC := Lib.hid (show decide (d.cap < (u : Int) + (kq : Int)) = false from decide_eq_false hc)
          by_cases hn64 : 64 ≤ d.L.length
          · rw [if_pos (.inr hn64)]
            have hn64' : 64 ≤ (n : Int) := by have := HN.out; omega
            clear hd hu1 hc
            go_enter Tryz.func14, Tryz.ntmps14
            go_wp2_with (first
              | (refine wpList_load_row rfl 28 _ rfl w.heap.size rfl _ _ (0, 0) _ HS3.out.d0.1 Tryz.underlying28 rfl HS3.out.d0.info ?_)
              | (refine wpList_load_row rfl 28 _ rfl w.heap.size rfl _ _ (0, 0) _ HS.out.d0.1 Tryz.underlying28 rfl HS.out.d0.info ?_)
              | (go_at_call 48; (with_reducible refine (rright_any s _ hss).mono ?_); rintro e w' ⟨rfl, rfl⟩; rw [HRT.out])
              | (go_at_call 35; (with_reducible refine (HFD.out _ (HS.out.rd.kin (unmask _ _))).mono ?_); rintro e w3 ⟨rfl, hb⟩; have HS3 := Lib.hid (HS.out.next hb); clear hb))
            refine wp_region_held_drew (S := (fun W' => DB W' w.heap.size #[.slice a n cap, .int .i64 d.cap, .int .i64 d.ops, .bool false, .bool d.told, .int .i64 d.after])) (by kernel_rfl) (HS3.out.d0.next (Below.refl _ _).drew) (fun hS => ?_)
            refine rgw 0 ⟨some 29, .load 28 (.tmp 3), 28, _, _, none⟩ hS ?_ (hy := by intro w hSw; (try dsimp only at hSw); refine exec_load_db (.tmp 3) ?_ ?_ hSw <;> rfl)
            refine rgw 2 ⟨some 31, .move (.tmp 2), 3, _, _, none⟩ hS ?_
            refine rgw 4 ⟨some 33, .fieldAddr 28 (.tmp 3) 1, 0, _, _, none⟩ hS ?_ (hy := by intro w hSw; (try dsimp only at hSw); obtain ⟨z0, z1, z2, z3, z4, z5⟩ := hSw.six; go_simp; try with_reducible rfl)
            refine rgw 5 ⟨some 34, .load 3 (.tmp 33), 3, _, _, none⟩ hS ?_ (hy := by intro w hSw; (try dsimp only at hSw); obtain ⟨z0, z1, z2, z3, z4, z5⟩ := hSw.six; go_simp; try with_reducible rfl)
            refine rg_one 1 ⟨some 30, .call { callee := .value (.func 49), args := #[.tmp 29], argTypes := #[28] }, 3, _, _, none⟩ (by kernel_rfl) rfl (fun K hK => ?_)
            go_simp
            (go_at_call 49; (with_reducible refine (HUS.out _ (HS3.out.rd.kin ((unmask _ _).trans (Kin.below (Below.refl _ _).drew)))).mono ?_); rintro e w3b ⟨rfl, hb⟩; have HS3b := Lib.hid ((HS3.out.next (Below.refl _ _).drew).next hb))
            refine hK.out _ _ ?_ (fun hS1 => ?_)
            · (first | exact hS | exact hS.next hb)
            clear hK K hS; have hS := hS1; clear hS1
            (try simp only [rgp])
            refine rgw 3 ⟨some 32, .binOp .add 3 (.tmp 30) (.tmp 31) 3, 3, _, _, none⟩ hS ?_
            refine rgw 6 ⟨some 35, .binOp .gtr 3 (.tmp 32) (.tmp 34) 3, 4, _, _, none⟩ hS ?_ (hy := by intro w hSw; (try dsimp only at hSw); go_simp; (try rw [HDC.out]); try with_reducible rfl)
            refine rgw 7 ⟨some 36, .move (.tmp 35), 4, _, _, none⟩ hS ?_
            refine rgw 8 ⟨some 37, .fieldAddr 28 (.tmp 3) 0, 0, _, _, some (7, false)⟩ hS ?_ (hy := by intro w hSw; (try dsimp only at hSw); obtain ⟨z0, z1, z2, z3, z4, z5⟩ := hSw.six; go_simp; try with_reducible rfl)
            refine rgw 9 ⟨some 38, .load 26 (.tmp 37), 26, _, _, some (7, false)⟩ hS ?_ (hy := by intro w hSw; (try dsimp only at hSw); obtain ⟨z0, z1, z2, z3, z4, z5⟩ := hSw.six; go_simp; try with_reducible rfl)
            refine rgw 10 ⟨some 39, .call { callee := .builtin Builtin.len, args := #[.tmp 38], argTypes := #[26] }, 3, _, _, some (7, false)⟩ hS ?_ (hy := by intro w hSw; (try dsimp only at hSw); obtain ⟨z0, z1, z2, z3, z4, z5⟩ := hSw.six; go_simp; try with_reducible rfl)
            refine rgw 11 ⟨some 40, .binOp .geq 3 (.tmp 39) (.const (.int .i64 64)) 3, 4, _, _, some (7, false)⟩ hS ?_ (hy := by intro w hSw; (try dsimp only at hSw); obtain ⟨z0, z1, z2, z3, z4, z5⟩ := hSw.six; go_simp; try with_reducible rfl)
            refine rgw 12 ⟨some 41, .pick (.tmp 36) (.const (.bool true)) (.tmp 40), 4, _, _, none⟩ hS ?_
            refine wpAnyH_done (by kernel_rfl) ?_ _
            clear hS
            go_wp2_with (first
              | (refine wpList_load_row rfl 28 _ rfl w.heap.size rfl _ _ (0, 0) _ HS3b.out.d0.1 Tryz.underlying28 rfl HS3b.out.d0.info ?_)
              | (refine wpList_store_row rfl 28 _ _ rfl (w.heap.size + 1) #[.slice a n cap, .int .i64 d.cap, .int .i64 d.ops, .bool false, .bool d.told, .int .i64 d.after] rfl rfl _ dz HS3b.out.d1.1 disk_info (by rfl) (by simp [Value.oneCell']) ?_))
            obtain ⟨e1, e2, e3⟩ := HS3b.out.done (cs' := #[.slice a n cap, .int .i64 d.cap, .int .i64 d.ops, .bool false, .bool d.told, .int .i64 d.after]) HS3b.out.rd rfl
            exact bodyPost_ret_by (results_row_tmp rfl _ _ (w.heap.size + 1) _ rfl (disk_load e1.1 rfl)) rfl ⟨_, rfl, e2, e3⟩
          · rw [if_neg (by omega)]
            have hn64' : ¬ 64 ≤ (n : Int) := by have := HN.out; omega
            clear hu1 hc hn64
            by_cases ho : d.ope = 0
            · rw [AD.opR_done d _ ho]
              rw [ho] at HOP
              have HL2 := Lib.hid (AD.opd_L d)
              obtain ⟨d2, hd2⟩ : ∃ d2, d.opd = d2 := ⟨_, rfl⟩
              rw [hd2] at HOP HL2 ⊢
              have HLN := Lib.hid (show d2.L.length ≤ 1000000 from by rw [HL2.out]; exact hn1)
              have hmk := make_secs_run kq (by omega)
              have hmk2 := make_bools_run kq (by omega)
              clear ho hn1 hd2 hd
              go_enter Tryz.func14, Tryz.ntmps14
              go_wp2_with (first
                | (refine wpList_load_row rfl 28 _ rfl w.heap.size rfl _ _ (0, 0) _ HS3.out.d0.1 Tryz.underlying28 rfl HS3.out.d0.info ?_)
                | (refine wpList_load_row rfl 28 _ rfl w.heap.size rfl _ _ (0, 0) _ HS.out.d0.1 Tryz.underlying28 rfl HS.out.d0.info ?_)
                | (go_at_call 48; (with_reducible refine (rright_any s _ hss).mono ?_); rintro e w' ⟨rfl, rfl⟩; rw [HRT.out])
                | (go_at_call 35; (with_reducible refine (HFD.out _ (HS.out.rd.kin (unmask _ _))).mono ?_); rintro e w3 ⟨rfl, hb⟩; have HS3 := Lib.hid (HS.out.next hb); clear hb))
              refine wp_region_held_drew (S := (fun W' => DB W' w.heap.size #[.slice a n cap, .int .i64 d.cap, .int .i64 d.ops, .bool false, .bool d.told, .int .i64 d.after])) (by kernel_rfl) (HS3.out.d0.next (Below.refl _ _).drew) (fun hS => ?_)
              refine rgw 0 ⟨some 29, .load 28 (.tmp 3), 28, _, _, none⟩ hS ?_ (hy := by intro w hSw; (try dsimp only at hSw); refine exec_load_db (.tmp 3) ?_ ?_ hSw <;> rfl)
              refine rgw 2 ⟨some 31, .move (.tmp 2), 3, _, _, none⟩ hS ?_
              refine rgw 4 ⟨some 33, .fieldAddr 28 (.tmp 3) 1, 0, _, _, none⟩ hS ?_ (hy := by intro w hSw; (try dsimp only at hSw); obtain ⟨z0, z1, z2, z3, z4, z5⟩ := hSw.six; go_simp; try with_reducible rfl)
              refine rgw 5 ⟨some 34, .load 3 (.tmp 33), 3, _, _, none⟩ hS ?_ (hy := by intro w hSw; (try dsimp only at hSw); obtain ⟨z0, z1, z2, z3, z4, z5⟩ := hSw.six; go_simp; try with_reducible rfl)
              refine rg_one 1 ⟨some 30, .call { callee := .value (.func 49), args := #[.tmp 29], argTypes := #[28] }, 3, _, _, none⟩ (by kernel_rfl) rfl (fun K hK => ?_)
              go_simp
              (go_at_call 49; (with_reducible refine (HUS.out _ (HS3.out.rd.kin ((unmask _ _).trans (Kin.below (Below.refl _ _).drew)))).mono ?_); rintro e w3b ⟨rfl, hb⟩; have HS3b := Lib.hid ((HS3.out.next (Below.refl _ _).drew).next hb))
              refine hK.out _ _ ?_ (fun hS1 => ?_)
              · (first | exact hS | exact hS.next hb)
              clear hK K hS; have hS := hS1; clear hS1
              (try simp only [rgp])
              refine rgw 3 ⟨some 32, .binOp .add 3 (.tmp 30) (.tmp 31) 3, 3, _, _, none⟩ hS ?_
              refine rgw 6 ⟨some 35, .binOp .gtr 3 (.tmp 32) (.tmp 34) 3, 4, _, _, none⟩ hS ?_ (hy := by intro w hSw; (try dsimp only at hSw); go_simp; (try rw [HDC.out]); try with_reducible rfl)
              refine rgw 7 ⟨some 36, .move (.tmp 35), 4, _, _, none⟩ hS ?_
              refine rgw 8 ⟨some 37, .fieldAddr 28 (.tmp 3) 0, 0, _, _, some (7, false)⟩ hS ?_ (hy := by intro w hSw; (try dsimp only at hSw); obtain ⟨z0, z1, z2, z3, z4, z5⟩ := hSw.six; go_simp; try with_reducible rfl)
              refine rgw 9 ⟨some 38, .load 26 (.tmp 37), 26, _, _, some (7, false)⟩ hS ?_ (hy := by intro w hSw; (try dsimp only at hSw); obtain ⟨z0, z1, z2, z3, z4, z5⟩ := hSw.six; go_simp; try with_reducible rfl)
              refine rgw 10 ⟨some 39, .call { callee := .builtin Builtin.len, args := #[.tmp 38], argTypes := #[26] }, 3, _, _, some (7, false)⟩ hS ?_ (hy := by intro w hSw; (try dsimp only at hSw); obtain ⟨z0, z1, z2, z3, z4, z5⟩ := hSw.six; go_simp; try with_reducible rfl)
              refine rgw 11 ⟨some 40, .binOp .geq 3 (.tmp 39) (.const (.int .i64 64)) 3, 4, _, _, some (7, false)⟩ hS ?_ (hy := by intro w hSw; (try dsimp only at hSw); obtain ⟨z0, z1, z2, z3, z4, z5⟩ := hSw.six; go_simp; try with_reducible rfl)
              refine rgw 12 ⟨some 41, .pick (.tmp 36) (.const (.bool true)) (.tmp 40), 4, _, _, none⟩ hS ?_
              refine wpAnyH_done (by kernel_rfl) ?_ _
              clear hS
              go_wp2_with (first
                | (refine wpList_load_row rfl 28 _ rfl w.heap.size rfl _ _ (0, 0) _ HS3b.out.d0.1 Tryz.underlying28 rfl HS3b.out.d0.info ?_)
                | (go_at_call 50; (with_reducible refine (HOP.out _).mono ?_); rintro e w4 ⟨rfl, hb⟩; have HS4 := Lib.hid (HS3b.out.next hb); clear hb)
                | (refine wpl_store_newD rfl _ _ rfl rfl w4.heap.size rfl #[.slice a n cap, .int .i64 d2.cap, .int .i64 d2.ops, .bool d2.down, .bool d2.told, .int .i64 d2.after] rfl (by simp [Value.oneCell']) rfl rfl ?_; intro w5 HX5 hb5; have HS5 := Lib.hid (HS4.out.next hb5.out); clear hb5)
                | (refine wpList_load_row rfl 28 _ rfl w4.heap.size rfl _ _ (0, 0) _ HX5.out.1 Tryz.underlying28 rfl HX5.out.info ?_))
              have HS6 := Lib.hid (HS5.out.next (Below.refl _ _).drew)
              have HQ6 := Lib.hid (HX5.out.next (Below.refl _ _).drew)
              refine wp_region_held_drew (S := (fun W' => DB W' w4.heap.size #[.slice a n cap, .int .i64 d2.cap, .int .i64 d2.ops, .bool d2.down, .bool d2.told, .int .i64 d2.after])) (by kernel_rfl) HQ6.out (fun hS => ?_)
              refine rgw 0 ⟨some 52, .load 28 (.tmp 8), 28, _, _, none⟩ hS ?_ (hy := by intro w hSw; (try dsimp only at hSw); refine exec_load_db (.tmp 8) ?_ ?_ hSw <;> rfl)
              refine rgw 1 ⟨some 53, .move (.tmp 1), 9, _, _, none⟩ hS ?_
              refine rgw 2 ⟨some 54, .move (.tmp 2), 3, _, _, none⟩ hS ?_
              refine rgw 4 ⟨some 56, .move (.tmp 2), 3, _, _, none⟩ hS ?_
              refine rgw 6 ⟨some 58, .move (.tmp 2), 3, _, _, none⟩ hS ?_
              refine rg_three 3 5 7 ⟨some 55, .makeSlice 35 (.tmp 54) (.tmp 54), 35, _, _, none⟩ ⟨some 57, .makeSlice 35 (.tmp 56) (.tmp 56), 35, _, _, none⟩ ⟨some 59, .makeSlice 83 (.tmp 58) (.tmp 58), 83, _, _, none⟩ (by kernel_rfl) rfl rfl rfl (fun K hK => ?_) (fun K hK => ?_) (fun K hK => ?_)
              focus
                go_simp
                (have hb : Below w5.drew.heap.size w5.drew (w5.alloc (.cells (il .u8 (List.replicate (kq * 64) 0)).toArray 63)).drew := below_drew_alloc w5 (.cells (il .u8 (List.replicate (kq * 64) 0)).toArray 63); have HM0 := Lib.hid (HS6.out.next hb); have hm := (FS.new (F := boxF F w) (w := w5) HS5.out.foot kq (List.replicate (kq * 64) 0) (by simp) (by omega) 63).kin (kin_drew _ _); have HX3 := Lib.hid hm; clear hm)
                refine hK.out _ _ ?_ (fun hS1 => ?_)
                · (first | exact hS | exact hS.next hb | exact hN)
                clear hK K hS; have hS := hS1; clear hS1
                (try simp only [rgp])
                refine rg_both 5 7 ⟨some 57, .makeSlice 35 (.tmp 56) (.tmp 56), 35, _, _, none⟩ ⟨some 59, .makeSlice 83 (.tmp 58) (.tmp 58), 83, _, _, none⟩ (by kernel_rfl) rfl rfl (fun K hK => ?_) (fun K hK => ?_)
                focus
                  go_simp
                  (have hb : Below (w5.alloc (.cells (il .u8 (List.replicate (kq * 64) 0)).toArray 63)).drew.heap.size (w5.alloc (.cells (il .u8 (List.replicate (kq * 64) 0)).toArray 63)).drew ((w5.alloc (.cells (il .u8 (List.replicate (kq * 64) 0)).toArray 63)).alloc (.cells (il .u8 (List.replicate (kq * 64) 0)).toArray 63)).drew := below_drew_alloc (w5.alloc (.cells (il .u8 (List.replicate (kq * 64) 0)).toArray 63)) (.cells (il .u8 (List.replicate (kq * 64) 0)).toArray 63); have HM1 := Lib.hid (HM0.out.next hb); have hm := (FS.new (F := boxF F w) (w := (w5.alloc (.cells (il .u8 (List.replicate (kq * 64) 0)).toArray 63))) (HM0.out.foot) kq (List.replicate (kq * 64) 0) (by simp) (by omega) 63).kin (kin_drew _ _); rw [alloc_size] at hm; have HX5 := Lib.hid hm; clear hm; replace HX3 := Lib.hid (HX3.out.kin (kin_mask hb)))
                  refine hK.out _ _ ?_ (fun hS1 => ?_)
                  · (first | exact hS | exact hS.next hb | exact hN)
                  clear hK K hS; have hS := hS1; clear hS1
                  (try simp only [rgp])
                  refine rg_one 7 ⟨some 59, .makeSlice 83 (.tmp 58) (.tmp 58), 83, _, _, none⟩ (by kernel_rfl) rfl (fun K hK => ?_)
                  go_simp
                  (have hb : Below ((w5.alloc (.cells (il .u8 (List.replicate (kq * 64) 0)).toArray 63)).alloc (.cells (il .u8 (List.replicate (kq * 64) 0)).toArray 63)).drew.heap.size ((w5.alloc (.cells (il .u8 (List.replicate (kq * 64) 0)).toArray 63)).alloc (.cells (il .u8 (List.replicate (kq * 64) 0)).toArray 63)).drew (((w5.alloc (.cells (il .u8 (List.replicate (kq * 64) 0)).toArray 63)).alloc (.cells (il .u8 (List.replicate (kq * 64) 0)).toArray 63)).alloc (.cells (Array.replicate kq (Value.bool false)) 4)).drew := below_drew_alloc ((w5.alloc (.cells (il .u8 (List.replicate (kq * 64) 0)).toArray 63)).alloc (.cells (il .u8 (List.replicate (kq * 64) 0)).toArray 63)) (.cells (Array.replicate kq (Value.bool false)) 4); have HM2 := Lib.hid (HM1.out.next hb); have hm := (BS.fresh (F := boxF F w) (w := ((w5.alloc (.cells (il .u8 (List.replicate (kq * 64) 0)).toArray 63)).alloc (.cells (il .u8 (List.replicate (kq * 64) 0)).toArray 63))) (HM1.out.foot) kq (by omega) 4).kin (kin_drew _ _); rw [alloc_size, alloc_size] at hm; have HX7 := Lib.hid hm; clear hm; replace HX3 := Lib.hid (HX3.out.kin (kin_mask hb)); replace HX5 := Lib.hid (HX5.out.kin (kin_mask hb)))
                  refine hK.out _ _ ?_ (fun hS1 => ?_)
                  · (first | exact hS | exact hS.next hb | exact hN)
                  clear hK K hS; have hS := hS1; clear hS1
                  (try simp only [rgp])
                  refine rgw 8 ⟨some 60, .build 85 #[(0, .tmp 53), (1, .tmp 55), (2, .tmp 57), (3, .tmp 59)], 85, _, _, none⟩ hS ?_
                  refine rg_one 9 ⟨some 61, .call { callee := .value (.func 51), args := #[.tmp 52, .tmp 60], argTypes := #[28, 85] }, 28, _, _, none⟩ (by kernel_rfl) rfl (fun K hK => ?_)
                  go_simp
                  (go_at_call 51; (refine (rwith_any (boxF F w) _ d2 (some ⟨w5.heap.size, 0, none⟩) kq (some ⟨w5.heap.size + 1, 0, none⟩) kq (some ⟨w5.heap.size + 1 + 1, 0, none⟩) kq (newF s kq) _ HM2.out.foot (HM2.out.rd.re HL2.out) ⟨_, _, _, rfl, HX3.out, HX5.out, HX7.out⟩ HLN.out).mono ?_); rintro e w8 ⟨v8, rfl, hr8, hb⟩; have HS8 := Lib.hid (HM2.out.next hb); obtain ⟨a7, n7, c7, rfl, _⟩ := hr8.agg; have HR8 := Lib.hid hr8)
                rotate_left
                focus
                  go_simp
                  (have hb : Below (w5.alloc (.cells (il .u8 (List.replicate (kq * 64) 0)).toArray 63)).drew.heap.size (w5.alloc (.cells (il .u8 (List.replicate (kq * 64) 0)).toArray 63)).drew ((w5.alloc (.cells (il .u8 (List.replicate (kq * 64) 0)).toArray 63)).alloc (.cells (Array.replicate kq (Value.bool false)) 4)).drew := below_drew_alloc (w5.alloc (.cells (il .u8 (List.replicate (kq * 64) 0)).toArray 63)) (.cells (Array.replicate kq (Value.bool false)) 4); have HM1 := Lib.hid (HM0.out.next hb); have hm := (BS.fresh (F := boxF F w) (w := (w5.alloc (.cells (il .u8 (List.replicate (kq * 64) 0)).toArray 63))) (HM0.out.foot) kq (by omega) 4).kin (kin_drew _ _); rw [alloc_size] at hm; have HX7 := Lib.hid hm; clear hm; replace HX3 := Lib.hid (HX3.out.kin (kin_mask hb)))
                  refine hK.out _ _ ?_ (fun hS1 => ?_)
                  · (first | exact hS | exact hS.next hb | exact hN)
                  clear hK K hS; have hS := hS1; clear hS1
                  (try simp only [rgp])
                  refine rg_one 5 ⟨some 57, .makeSlice 35 (.tmp 56) (.tmp 56), 35, _, _, none⟩ (by kernel_rfl) rfl (fun K hK => ?_)
                  go_simp
                  (have hb : Below ((w5.alloc (.cells (il .u8 (List.replicate (kq * 64) 0)).toArray 63)).alloc (.cells (Array.replicate kq (Value.bool false)) 4)).drew.heap.size ((w5.alloc (.cells (il .u8 (List.replicate (kq * 64) 0)).toArray 63)).alloc (.cells (Array.replicate kq (Value.bool false)) 4)).drew (((w5.alloc (.cells (il .u8 (List.replicate (kq * 64) 0)).toArray 63)).alloc (.cells (Array.replicate kq (Value.bool false)) 4)).alloc (.cells (il .u8 (List.replicate (kq * 64) 0)).toArray 63)).drew := below_drew_alloc ((w5.alloc (.cells (il .u8 (List.replicate (kq * 64) 0)).toArray 63)).alloc (.cells (Array.replicate kq (Value.bool false)) 4)) (.cells (il .u8 (List.replicate (kq * 64) 0)).toArray 63); have HM2 := Lib.hid (HM1.out.next hb); have hm := (FS.new (F := boxF F w) (w := ((w5.alloc (.cells (il .u8 (List.replicate (kq * 64) 0)).toArray 63)).alloc (.cells (Array.replicate kq (Value.bool false)) 4))) (HM1.out.foot) kq (List.replicate (kq * 64) 0) (by simp) (by omega) 63).kin (kin_drew _ _); rw [alloc_size, alloc_size] at hm; have HX5 := Lib.hid hm; clear hm; replace HX3 := Lib.hid (HX3.out.kin (kin_mask hb)); replace HX7 := Lib.hid (HX7.out.kin (kin_mask hb)))
                  refine hK.out _ _ ?_ (fun hS1 => ?_)
                  · (first | exact hS | exact hS.next hb | exact hN)
                  clear hK K hS; have hS := hS1; clear hS1
                  (try simp only [rgp])
                  refine rgw 8 ⟨some 60, .build 85 #[(0, .tmp 53), (1, .tmp 55), (2, .tmp 57), (3, .tmp 59)], 85, _, _, none⟩ hS ?_
                  refine rg_one 9 ⟨some 61, .call { callee := .value (.func 51), args := #[.tmp 52, .tmp 60], argTypes := #[28, 85] }, 28, _, _, none⟩ (by kernel_rfl) rfl (fun K hK => ?_)
                  go_simp
                  (go_at_call 51; (refine (rwith_any (boxF F w) _ d2 (some ⟨w5.heap.size, 0, none⟩) kq (some ⟨w5.heap.size + 1 + 1, 0, none⟩) kq (some ⟨w5.heap.size + 1, 0, none⟩) kq (newF s kq) _ HM2.out.foot (HM2.out.rd.re HL2.out) ⟨_, _, _, rfl, HX3.out, HX5.out, HX7.out⟩ HLN.out).mono ?_); rintro e w8 ⟨v8, rfl, hr8, hb⟩; have HS8 := Lib.hid (HM2.out.next hb); obtain ⟨a7, n7, c7, rfl, _⟩ := hr8.agg; have HR8 := Lib.hid hr8)
                rotate_left
              rotate_left 2
              focus
                go_simp
                (have hb : Below w5.drew.heap.size w5.drew (w5.alloc (.cells (il .u8 (List.replicate (kq * 64) 0)).toArray 63)).drew := below_drew_alloc w5 (.cells (il .u8 (List.replicate (kq * 64) 0)).toArray 63); have HM0 := Lib.hid (HS6.out.next hb); have hm := (FS.new (F := boxF F w) (w := w5) HS5.out.foot kq (List.replicate (kq * 64) 0) (by simp) (by omega) 63).kin (kin_drew _ _); have HX5 := Lib.hid hm; clear hm)
                refine hK.out _ _ ?_ (fun hS1 => ?_)
                · (first | exact hS | exact hS.next hb | exact hN)
                clear hK K hS; have hS := hS1; clear hS1
                (try simp only [rgp])
                refine rg_both 3 7 ⟨some 55, .makeSlice 35 (.tmp 54) (.tmp 54), 35, _, _, none⟩ ⟨some 59, .makeSlice 83 (.tmp 58) (.tmp 58), 83, _, _, none⟩ (by kernel_rfl) rfl rfl (fun K hK => ?_) (fun K hK => ?_)
                focus
                  go_simp
                  (have hb : Below (w5.alloc (.cells (il .u8 (List.replicate (kq * 64) 0)).toArray 63)).drew.heap.size (w5.alloc (.cells (il .u8 (List.replicate (kq * 64) 0)).toArray 63)).drew ((w5.alloc (.cells (il .u8 (List.replicate (kq * 64) 0)).toArray 63)).alloc (.cells (il .u8 (List.replicate (kq * 64) 0)).toArray 63)).drew := below_drew_alloc (w5.alloc (.cells (il .u8 (List.replicate (kq * 64) 0)).toArray 63)) (.cells (il .u8 (List.replicate (kq * 64) 0)).toArray 63); have HM1 := Lib.hid (HM0.out.next hb); have hm := (FS.new (F := boxF F w) (w := (w5.alloc (.cells (il .u8 (List.replicate (kq * 64) 0)).toArray 63))) (HM0.out.foot) kq (List.replicate (kq * 64) 0) (by simp) (by omega) 63).kin (kin_drew _ _); rw [alloc_size] at hm; have HX3 := Lib.hid hm; clear hm; replace HX5 := Lib.hid (HX5.out.kin (kin_mask hb)))
                  refine hK.out _ _ ?_ (fun hS1 => ?_)
                  · (first | exact hS | exact hS.next hb | exact hN)
                  clear hK K hS; have hS := hS1; clear hS1
                  (try simp only [rgp])
                  refine rg_one 7 ⟨some 59, .makeSlice 83 (.tmp 58) (.tmp 58), 83, _, _, none⟩ (by kernel_rfl) rfl (fun K hK => ?_)
                  go_simp
                  (have hb : Below ((w5.alloc (.cells (il .u8 (List.replicate (kq * 64) 0)).toArray 63)).alloc (.cells (il .u8 (List.replicate (kq * 64) 0)).toArray 63)).drew.heap.size ((w5.alloc (.cells (il .u8 (List.replicate (kq * 64) 0)).toArray 63)).alloc (.cells (il .u8 (List.replicate (kq * 64) 0)).toArray 63)).drew (((w5.alloc (.cells (il .u8 (List.replicate (kq * 64) 0)).toArray 63)).alloc (.cells (il .u8 (List.replicate (kq * 64) 0)).toArray 63)).alloc (.cells (Array.replicate kq (Value.bool false)) 4)).drew := below_drew_alloc ((w5.alloc (.cells (il .u8 (List.replicate (kq * 64) 0)).toArray 63)).alloc (.cells (il .u8 (List.replicate (kq * 64) 0)).toArray 63)) (.cells (Array.replicate kq (Value.bool false)) 4); have HM2 := Lib.hid (HM1.out.next hb); have hm := (BS.fresh (F := boxF F w) (w := ((w5.alloc (.cells (il .u8 (List.replicate (kq * 64) 0)).toArray 63)).alloc (.cells (il .u8 (List.replicate (kq * 64) 0)).toArray 63))) (HM1.out.foot) kq (by omega) 4).kin (kin_drew _ _); rw [alloc_size, alloc_size] at hm; have HX7 := Lib.hid hm; clear hm; replace HX5 := Lib.hid (HX5.out.kin (kin_mask hb)); replace HX3 := Lib.hid (HX3.out.kin (kin_mask hb)))
                  refine hK.out _ _ ?_ (fun hS1 => ?_)
                  · (first | exact hS | exact hS.next hb | exact hN)
                  clear hK K hS; have hS := hS1; clear hS1
                  (try simp only [rgp])
                  refine rgw 8 ⟨some 60, .build 85 #[(0, .tmp 53), (1, .tmp 55), (2, .tmp 57), (3, .tmp 59)], 85, _, _, none⟩ hS ?_
                  refine rg_one 9 ⟨some 61, .call { callee := .value (.func 51), args := #[.tmp 52, .tmp 60], argTypes := #[28, 85] }, 28, _, _, none⟩ (by kernel_rfl) rfl (fun K hK => ?_)
                  go_simp
                  (go_at_call 51; (refine (rwith_any (boxF F w) _ d2 (some ⟨w5.heap.size + 1, 0, none⟩) kq (some ⟨w5.heap.size, 0, none⟩) kq (some ⟨w5.heap.size + 1 + 1, 0, none⟩) kq (newF s kq) _ HM2.out.foot (HM2.out.rd.re HL2.out) ⟨_, _, _, rfl, HX3.out, HX5.out, HX7.out⟩ HLN.out).mono ?_); rintro e w8 ⟨v8, rfl, hr8, hb⟩; have HS8 := Lib.hid (HM2.out.next hb); obtain ⟨a7, n7, c7, rfl, _⟩ := hr8.agg; have HR8 := Lib.hid hr8)
                rotate_left
                focus
                  go_simp
                  (have hb : Below (w5.alloc (.cells (il .u8 (List.replicate (kq * 64) 0)).toArray 63)).drew.heap.size (w5.alloc (.cells (il .u8 (List.replicate (kq * 64) 0)).toArray 63)).drew ((w5.alloc (.cells (il .u8 (List.replicate (kq * 64) 0)).toArray 63)).alloc (.cells (Array.replicate kq (Value.bool false)) 4)).drew := below_drew_alloc (w5.alloc (.cells (il .u8 (List.replicate (kq * 64) 0)).toArray 63)) (.cells (Array.replicate kq (Value.bool false)) 4); have HM1 := Lib.hid (HM0.out.next hb); have hm := (BS.fresh (F := boxF F w) (w := (w5.alloc (.cells (il .u8 (List.replicate (kq * 64) 0)).toArray 63))) (HM0.out.foot) kq (by omega) 4).kin (kin_drew _ _); rw [alloc_size] at hm; have HX7 := Lib.hid hm; clear hm; replace HX5 := Lib.hid (HX5.out.kin (kin_mask hb)))
                  refine hK.out _ _ ?_ (fun hS1 => ?_)
                  · (first | exact hS | exact hS.next hb | exact hN)
                  clear hK K hS; have hS := hS1; clear hS1
                  (try simp only [rgp])
                  refine rg_one 3 ⟨some 55, .makeSlice 35 (.tmp 54) (.tmp 54), 35, _, _, none⟩ (by kernel_rfl) rfl (fun K hK => ?_)
                  go_simp
                  (have hb : Below ((w5.alloc (.cells (il .u8 (List.replicate (kq * 64) 0)).toArray 63)).alloc (.cells (Array.replicate kq (Value.bool false)) 4)).drew.heap.size ((w5.alloc (.cells (il .u8 (List.replicate (kq * 64) 0)).toArray 63)).alloc (.cells (Array.replicate kq (Value.bool false)) 4)).drew (((w5.alloc (.cells (il .u8 (List.replicate (kq * 64) 0)).toArray 63)).alloc (.cells (Array.replicate kq (Value.bool false)) 4)).alloc (.cells (il .u8 (List.replicate (kq * 64) 0)).toArray 63)).drew := below_drew_alloc ((w5.alloc (.cells (il .u8 (List.replicate (kq * 64) 0)).toArray 63)).alloc (.cells (Array.replicate kq (Value.bool false)) 4)) (.cells (il .u8 (List.replicate (kq * 64) 0)).toArray 63); have HM2 := Lib.hid (HM1.out.next hb); have hm := (FS.new (F := boxF F w) (w := ((w5.alloc (.cells (il .u8 (List.replicate (kq * 64) 0)).toArray 63)).alloc (.cells (Array.replicate kq (Value.bool false)) 4))) (HM1.out.foot) kq (List.replicate (kq * 64) 0) (by simp) (by omega) 63).kin (kin_drew _ _); rw [alloc_size, alloc_size] at hm; have HX3 := Lib.hid hm; clear hm; replace HX5 := Lib.hid (HX5.out.kin (kin_mask hb)); replace HX7 := Lib.hid (HX7.out.kin (kin_mask hb)))
                  refine hK.out _ _ ?_ (fun hS1 => ?_)
                  · (first | exact hS | exact hS.next hb | exact hN)
                  clear hK K hS; have hS := hS1; clear hS1
                  (try simp only [rgp])
                  refine rgw 8 ⟨some 60, .build 85 #[(0, .tmp 53), (1, .tmp 55), (2, .tmp 57), (3, .tmp 59)], 85, _, _, none⟩ hS ?_
                  refine rg_one 9 ⟨some 61, .call { callee := .value (.func 51), args := #[.tmp 52, .tmp 60], argTypes := #[28, 85] }, 28, _, _, none⟩ (by kernel_rfl) rfl (fun K hK => ?_)
                  go_simp
                  (go_at_call 51; (refine (rwith_any (boxF F w) _ d2 (some ⟨w5.heap.size + 1 + 1, 0, none⟩) kq (some ⟨w5.heap.size, 0, none⟩) kq (some ⟨w5.heap.size + 1, 0, none⟩) kq (newF s kq) _ HM2.out.foot (HM2.out.rd.re HL2.out) ⟨_, _, _, rfl, HX3.out, HX5.out, HX7.out⟩ HLN.out).mono ?_); rintro e w8 ⟨v8, rfl, hr8, hb⟩; have HS8 := Lib.hid (HM2.out.next hb); obtain ⟨a7, n7, c7, rfl, _⟩ := hr8.agg; have HR8 := Lib.hid hr8)
                rotate_left
              rotate_left 2
              focus
                go_simp
                (have hb : Below w5.drew.heap.size w5.drew (w5.alloc (.cells (Array.replicate kq (Value.bool false)) 4)).drew := below_drew_alloc w5 (.cells (Array.replicate kq (Value.bool false)) 4); have HM0 := Lib.hid (HS6.out.next hb); have hm := (BS.fresh (F := boxF F w) (w := w5) HS5.out.foot kq (by omega) 4).kin (kin_drew _ _); have HX7 := Lib.hid hm; clear hm)
                refine hK.out _ _ ?_ (fun hS1 => ?_)
                · (first | exact hS | exact hS.next hb | exact hN)
                clear hK K hS; have hS := hS1; clear hS1
                (try simp only [rgp])
                refine rg_both 3 5 ⟨some 55, .makeSlice 35 (.tmp 54) (.tmp 54), 35, _, _, none⟩ ⟨some 57, .makeSlice 35 (.tmp 56) (.tmp 56), 35, _, _, none⟩ (by kernel_rfl) rfl rfl (fun K hK => ?_) (fun K hK => ?_)
                focus
                  go_simp
                  (have hb : Below (w5.alloc (.cells (Array.replicate kq (Value.bool false)) 4)).drew.heap.size (w5.alloc (.cells (Array.replicate kq (Value.bool false)) 4)).drew ((w5.alloc (.cells (Array.replicate kq (Value.bool false)) 4)).alloc (.cells (il .u8 (List.replicate (kq * 64) 0)).toArray 63)).drew := below_drew_alloc (w5.alloc (.cells (Array.replicate kq (Value.bool false)) 4)) (.cells (il .u8 (List.replicate (kq * 64) 0)).toArray 63); have HM1 := Lib.hid (HM0.out.next hb); have hm := (FS.new (F := boxF F w) (w := (w5.alloc (.cells (Array.replicate kq (Value.bool false)) 4))) (HM0.out.foot) kq (List.replicate (kq * 64) 0) (by simp) (by omega) 63).kin (kin_drew _ _); rw [alloc_size] at hm; have HX3 := Lib.hid hm; clear hm; replace HX7 := Lib.hid (HX7.out.kin (kin_mask hb)))
                  refine hK.out _ _ ?_ (fun hS1 => ?_)
                  · (first | exact hS | exact hS.next hb | exact hN)
                  clear hK K hS; have hS := hS1; clear hS1
                  (try simp only [rgp])
                  refine rg_one 5 ⟨some 57, .makeSlice 35 (.tmp 56) (.tmp 56), 35, _, _, none⟩ (by kernel_rfl) rfl (fun K hK => ?_)
                  go_simp
                  (have hb : Below ((w5.alloc (.cells (Array.replicate kq (Value.bool false)) 4)).alloc (.cells (il .u8 (List.replicate (kq * 64) 0)).toArray 63)).drew.heap.size ((w5.alloc (.cells (Array.replicate kq (Value.bool false)) 4)).alloc (.cells (il .u8 (List.replicate (kq * 64) 0)).toArray 63)).drew (((w5.alloc (.cells (Array.replicate kq (Value.bool false)) 4)).alloc (.cells (il .u8 (List.replicate (kq * 64) 0)).toArray 63)).alloc (.cells (il .u8 (List.replicate (kq * 64) 0)).toArray 63)).drew := below_drew_alloc ((w5.alloc (.cells (Array.replicate kq (Value.bool false)) 4)).alloc (.cells (il .u8 (List.replicate (kq * 64) 0)).toArray 63)) (.cells (il .u8 (List.replicate (kq * 64) 0)).toArray 63); have HM2 := Lib.hid (HM1.out.next hb); have hm := (FS.new (F := boxF F w) (w := ((w5.alloc (.cells (Array.replicate kq (Value.bool false)) 4)).alloc (.cells (il .u8 (List.replicate (kq * 64) 0)).toArray 63))) (HM1.out.foot) kq (List.replicate (kq * 64) 0) (by simp) (by omega) 63).kin (kin_drew _ _); rw [alloc_size, alloc_size] at hm; have HX5 := Lib.hid hm; clear hm; replace HX7 := Lib.hid (HX7.out.kin (kin_mask hb)); replace HX3 := Lib.hid (HX3.out.kin (kin_mask hb)))
                  refine hK.out _ _ ?_ (fun hS1 => ?_)
                  · (first | exact hS | exact hS.next hb | exact hN)
                  clear hK K hS; have hS := hS1; clear hS1
                  (try simp only [rgp])
                  refine rgw 8 ⟨some 60, .build 85 #[(0, .tmp 53), (1, .tmp 55), (2, .tmp 57), (3, .tmp 59)], 85, _, _, none⟩ hS ?_
                  refine rg_one 9 ⟨some 61, .call { callee := .value (.func 51), args := #[.tmp 52, .tmp 60], argTypes := #[28, 85] }, 28, _, _, none⟩ (by kernel_rfl) rfl (fun K hK => ?_)
                  go_simp
                  (go_at_call 51; (refine (rwith_any (boxF F w) _ d2 (some ⟨w5.heap.size + 1, 0, none⟩) kq (some ⟨w5.heap.size + 1 + 1, 0, none⟩) kq (some ⟨w5.heap.size, 0, none⟩) kq (newF s kq) _ HM2.out.foot (HM2.out.rd.re HL2.out) ⟨_, _, _, rfl, HX3.out, HX5.out, HX7.out⟩ HLN.out).mono ?_); rintro e w8 ⟨v8, rfl, hr8, hb⟩; have HS8 := Lib.hid (HM2.out.next hb); obtain ⟨a7, n7, c7, rfl, _⟩ := hr8.agg; have HR8 := Lib.hid hr8)
                rotate_left
                focus
                  go_simp
                  (have hb : Below (w5.alloc (.cells (Array.replicate kq (Value.bool false)) 4)).drew.heap.size (w5.alloc (.cells (Array.replicate kq (Value.bool false)) 4)).drew ((w5.alloc (.cells (Array.replicate kq (Value.bool false)) 4)).alloc (.cells (il .u8 (List.replicate (kq * 64) 0)).toArray 63)).drew := below_drew_alloc (w5.alloc (.cells (Array.replicate kq (Value.bool false)) 4)) (.cells (il .u8 (List.replicate (kq * 64) 0)).toArray 63); have HM1 := Lib.hid (HM0.out.next hb); have hm := (FS.new (F := boxF F w) (w := (w5.alloc (.cells (Array.replicate kq (Value.bool false)) 4))) (HM0.out.foot) kq (List.replicate (kq * 64) 0) (by simp) (by omega) 63).kin (kin_drew _ _); rw [alloc_size] at hm; have HX5 := Lib.hid hm; clear hm; replace HX7 := Lib.hid (HX7.out.kin (kin_mask hb)))
                  refine hK.out _ _ ?_ (fun hS1 => ?_)
                  · (first | exact hS | exact hS.next hb | exact hN)
                  clear hK K hS; have hS := hS1; clear hS1
                  (try simp only [rgp])
                  refine rg_one 3 ⟨some 55, .makeSlice 35 (.tmp 54) (.tmp 54), 35, _, _, none⟩ (by kernel_rfl) rfl (fun K hK => ?_)
                  go_simp
                  (have hb : Below ((w5.alloc (.cells (Array.replicate kq (Value.bool false)) 4)).alloc (.cells (il .u8 (List.replicate (kq * 64) 0)).toArray 63)).drew.heap.size ((w5.alloc (.cells (Array.replicate kq (Value.bool false)) 4)).alloc (.cells (il .u8 (List.replicate (kq * 64) 0)).toArray 63)).drew (((w5.alloc (.cells (Array.replicate kq (Value.bool false)) 4)).alloc (.cells (il .u8 (List.replicate (kq * 64) 0)).toArray 63)).alloc (.cells (il .u8 (List.replicate (kq * 64) 0)).toArray 63)).drew := below_drew_alloc ((w5.alloc (.cells (Array.replicate kq (Value.bool false)) 4)).alloc (.cells (il .u8 (List.replicate (kq * 64) 0)).toArray 63)) (.cells (il .u8 (List.replicate (kq * 64) 0)).toArray 63); have HM2 := Lib.hid (HM1.out.next hb); have hm := (FS.new (F := boxF F w) (w := ((w5.alloc (.cells (Array.replicate kq (Value.bool false)) 4)).alloc (.cells (il .u8 (List.replicate (kq * 64) 0)).toArray 63))) (HM1.out.foot) kq (List.replicate (kq * 64) 0) (by simp) (by omega) 63).kin (kin_drew _ _); rw [alloc_size, alloc_size] at hm; have HX3 := Lib.hid hm; clear hm; replace HX7 := Lib.hid (HX7.out.kin (kin_mask hb)); replace HX5 := Lib.hid (HX5.out.kin (kin_mask hb)))
                  refine hK.out _ _ ?_ (fun hS1 => ?_)
                  · (first | exact hS | exact hS.next hb | exact hN)
                  clear hK K hS; have hS := hS1; clear hS1
                  (try simp only [rgp])
                  refine rgw 8 ⟨some 60, .build 85 #[(0, .tmp 53), (1, .tmp 55), (2, .tmp 57), (3, .tmp 59)], 85, _, _, none⟩ hS ?_
                  refine rg_one 9 ⟨some 61, .call { callee := .value (.func 51), args := #[.tmp 52, .tmp 60], argTypes := #[28, 85] }, 28, _, _, none⟩ (by kernel_rfl) rfl (fun K hK => ?_)
                  go_simp
                  (go_at_call 51; (refine (rwith_any (boxF F w) _ d2 (some ⟨w5.heap.size + 1 + 1, 0, none⟩) kq (some ⟨w5.heap.size + 1, 0, none⟩) kq (some ⟨w5.heap.size, 0, none⟩) kq (newF s kq) _ HM2.out.foot (HM2.out.rd.re HL2.out) ⟨_, _, _, rfl, HX3.out, HX5.out, HX7.out⟩ HLN.out).mono ?_); rintro e w8 ⟨v8, rfl, hr8, hb⟩; have HS8 := Lib.hid (HM2.out.next hb); obtain ⟨a7, n7, c7, rfl, _⟩ := hr8.agg; have HR8 := Lib.hid hr8)
                rotate_left
              rotate_left 2
              all_goals
                refine hK.out _ _ ?_ (fun hS1 => ?_)
                · (first | exact hS | exact hS.next hb | exact hN)
                clear hK K hS; have hS := hS1; clear hS1
                (try simp only [rgp])
                refine rg_one 10 ⟨none, .store 28 (.tmp 6) (.tmp 61), 0, _, _, none⟩ (by kernel_rfl) rfl (fun K hK => ?_)
                rw [if_pos (by rfl)]; refine wp_store_row 28 (.tmp 6) (.tmp 61) rfl (w.heap.size + 1) #[.slice a7 n7 c7, .int .i64 (d2.withF (newF s kq)).cap, .int .i64 (d2.withF (newF s kq)).ops, .bool (d2.withF (newF s kq)).down, .bool (d2.withF (newF s kq)).told, .int .i64 (d2.withF (newF s kq)).after] rfl rfl _ dz HS8.out.d1.1 disk_info (by rfl) (by simp [Value.oneCell']) ?_; have hN := hS.over (w.heap.size + 1) (by have := HS4.out.size; omega) #[.slice a7 n7 c7, .int .i64 (d2.withF (newF s kq)).cap, .int .i64 (d2.withF (newF s kq)).ops, .bool (d2.withF (newF s kq)).down, .bool (d2.withF (newF s kq)).told, .int .i64 (d2.withF (newF s kq)).after]
                refine hK.out _ _ ?_ (fun hS1 => ?_)
                · (first | exact hS | exact hS.next hb | exact hN)
                clear hK K hS; have hS := hS1; clear hS1
                (try simp only [Act.put])
                refine rgw 11 ⟨some 7, .assign (.const (.int .i64 0)), 41, _, _, none⟩ hS ?_
                refine wpAnyH_done (by kernel_rfl) ?_ _
                clear hS
                go_wp2
                obtain ⟨e1, e2, e3⟩ := HS8.out.done (cs' := #[.slice a7 n7 c7, .int .i64 (d2.withF (newF s kq)).cap, .int .i64 (d2.withF (newF s kq)).ops, .bool (d2.withF (newF s kq)).down, .bool (d2.withF (newF s kq)).told, .int .i64 (d2.withF (newF s kq)).after]) HR8.out rfl
                exact bodyPost_ret_by (results_row_tmp rfl _ _ (w.heap.size + 1) _ rfl (disk_load e1.1 rfl)) rfl ⟨_, rfl, e2, e3⟩
            · rw [AD.opR_not d _ ho]
              have h9 : d.ope = 9 := d.ope_or.resolve_left ho
              rw [h9] at HOP
              have HL2 := Lib.hid (AD.opd_L d)
              obtain ⟨d2, hd2⟩ : ∃ d2, d.opd = d2 := ⟨_, rfl⟩
              rw [hd2] at HOP HL2 ⊢
              have HLN := Lib.hid (show d2.L.length ≤ 1000000 from by rw [HL2.out]; exact hn1)
              clear ho hn1 hd2 hd h9
              go_enter Tryz.func14, Tryz.ntmps14
              go_wp2_with (first
                | (refine wpList_load_row rfl 28 _ rfl w.heap.size rfl _ _ (0, 0) _ HS3.out.d0.1 Tryz.underlying28 rfl HS3.out.d0.info ?_)
                | (refine wpList_load_row rfl 28 _ rfl w.heap.size rfl _ _ (0, 0) _ HS.out.d0.1 Tryz.underlying28 rfl HS.out.d0.info ?_)
                | (go_at_call 48; (with_reducible refine (rright_any s _ hss).mono ?_); rintro e w' ⟨rfl, rfl⟩; rw [HRT.out])
                | (go_at_call 35; (with_reducible refine (HFD.out _ (HS.out.rd.kin (unmask _ _))).mono ?_); rintro e w3 ⟨rfl, hb⟩; have HS3 := Lib.hid (HS.out.next hb); clear hb))
              refine wp_region_held_drew (S := (fun W' => DB W' w.heap.size #[.slice a n cap, .int .i64 d.cap, .int .i64 d.ops, .bool false, .bool d.told, .int .i64 d.after])) (by kernel_rfl) (HS3.out.d0.next (Below.refl _ _).drew) (fun hS => ?_)
              refine rgw 0 ⟨some 29, .load 28 (.tmp 3), 28, _, _, none⟩ hS ?_ (hy := by intro w hSw; (try dsimp only at hSw); refine exec_load_db (.tmp 3) ?_ ?_ hSw <;> rfl)
              refine rgw 2 ⟨some 31, .move (.tmp 2), 3, _, _, none⟩ hS ?_
              refine rgw 4 ⟨some 33, .fieldAddr 28 (.tmp 3) 1, 0, _, _, none⟩ hS ?_ (hy := by intro w hSw; (try dsimp only at hSw); obtain ⟨z0, z1, z2, z3, z4, z5⟩ := hSw.six; go_simp; try with_reducible rfl)
              refine rgw 5 ⟨some 34, .load 3 (.tmp 33), 3, _, _, none⟩ hS ?_ (hy := by intro w hSw; (try dsimp only at hSw); obtain ⟨z0, z1, z2, z3, z4, z5⟩ := hSw.six; go_simp; try with_reducible rfl)
              refine rg_one 1 ⟨some 30, .call { callee := .value (.func 49), args := #[.tmp 29], argTypes := #[28] }, 3, _, _, none⟩ (by kernel_rfl) rfl (fun K hK => ?_)
              go_simp
              (go_at_call 49; (with_reducible refine (HUS.out _ (HS3.out.rd.kin ((unmask _ _).trans (Kin.below (Below.refl _ _).drew)))).mono ?_); rintro e w3b ⟨rfl, hb⟩; have HS3b := Lib.hid ((HS3.out.next (Below.refl _ _).drew).next hb))
              refine hK.out _ _ ?_ (fun hS1 => ?_)
              · (first | exact hS | exact hS.next hb)
              clear hK K hS; have hS := hS1; clear hS1
              (try simp only [rgp])
              refine rgw 3 ⟨some 32, .binOp .add 3 (.tmp 30) (.tmp 31) 3, 3, _, _, none⟩ hS ?_
              refine rgw 6 ⟨some 35, .binOp .gtr 3 (.tmp 32) (.tmp 34) 3, 4, _, _, none⟩ hS ?_ (hy := by intro w hSw; (try dsimp only at hSw); go_simp; (try rw [HDC.out]); try with_reducible rfl)
              refine rgw 7 ⟨some 36, .move (.tmp 35), 4, _, _, none⟩ hS ?_
              refine rgw 8 ⟨some 37, .fieldAddr 28 (.tmp 3) 0, 0, _, _, some (7, false)⟩ hS ?_ (hy := by intro w hSw; (try dsimp only at hSw); obtain ⟨z0, z1, z2, z3, z4, z5⟩ := hSw.six; go_simp; try with_reducible rfl)
              refine rgw 9 ⟨some 38, .load 26 (.tmp 37), 26, _, _, some (7, false)⟩ hS ?_ (hy := by intro w hSw; (try dsimp only at hSw); obtain ⟨z0, z1, z2, z3, z4, z5⟩ := hSw.six; go_simp; try with_reducible rfl)
              refine rgw 10 ⟨some 39, .call { callee := .builtin Builtin.len, args := #[.tmp 38], argTypes := #[26] }, 3, _, _, some (7, false)⟩ hS ?_ (hy := by intro w hSw; (try dsimp only at hSw); obtain ⟨z0, z1, z2, z3, z4, z5⟩ := hSw.six; go_simp; try with_reducible rfl)
              refine rgw 11 ⟨some 40, .binOp .geq 3 (.tmp 39) (.const (.int .i64 64)) 3, 4, _, _, some (7, false)⟩ hS ?_ (hy := by intro w hSw; (try dsimp only at hSw); obtain ⟨z0, z1, z2, z3, z4, z5⟩ := hSw.six; go_simp; try with_reducible rfl)
              refine rgw 12 ⟨some 41, .pick (.tmp 36) (.const (.bool true)) (.tmp 40), 4, _, _, none⟩ hS ?_
              refine wpAnyH_done (by kernel_rfl) ?_ _
              clear hS
              go_wp2_with (first
                | (refine wpList_load_row rfl 28 _ rfl w.heap.size rfl _ _ (0, 0) _ HS3b.out.d0.1 Tryz.underlying28 rfl HS3b.out.d0.info ?_)
                | (go_at_call 50; (with_reducible refine (HOP.out _).mono ?_); rintro e w4 ⟨rfl, hb⟩; have HS4 := Lib.hid (HS3b.out.next hb); clear hb)
                | (refine wpl_store_newD rfl _ _ rfl rfl w4.heap.size rfl #[.slice a n cap, .int .i64 d2.cap, .int .i64 d2.ops, .bool d2.down, .bool d2.told, .int .i64 d2.after] rfl (by simp [Value.oneCell']) rfl rfl ?_; intro w5 HX5 hb5; have HS5 := Lib.hid (HS4.out.next hb5.out); clear hb5)
                | (refine wpList_load_row rfl 28 _ rfl w4.heap.size rfl _ _ (0, 0) _ HX5.out.1 Tryz.underlying28 rfl HX5.out.info ?_)
                | (refine wpList_store_row rfl 28 _ _ rfl (w.heap.size + 1) #[.slice a n cap, .int .i64 d2.cap, .int .i64 d2.ops, .bool d2.down, .bool d2.told, .int .i64 d2.after] rfl rfl _ dz HS5.out.d1.1 disk_info (by rfl) (by simp [Value.oneCell']) ?_))
              obtain ⟨e1, e2, e3⟩ := HS5.out.done (cs' := #[.slice a n cap, .int .i64 d2.cap, .int .i64 d2.ops, .bool d2.down, .bool d2.told, .int .i64 d2.after]) (HS5.out.rd.re HL2.out) rfl
              exact bodyPost_ret_by (results_row_tmp rfl _ _ (w.heap.size + 1) _ rfl (disk_load e1.1 rfl)) rfl ⟨_, rfl, e2, e3⟩
end Go.Proofs.YtpoiapfgbbmekaaGreatDoor
