import Derived.Test.YtpoiapfgbbmekaaGreatDoorJ10
namespace Go.Proofs.YtpoiapfgbbmekaaGreatDoor
open Go.RowKit
variable {DK : World → Addr → (Nat → Bool) → AD → Prop}
def nilI (q : Int) : Int := if walB q = noS then 13 else 11
structure LN (w W : World) : Prop where
  below : Below w.heap.size w W
  vt : VT W
  hr : HB W w.heap.size noH
theorem LN.next {w W W' : World} (h : LN w W) (hb : Below W.heap.size W W') : LN w W' := ⟨bch h.below hb, h.vt.on hb, h.hr.keep hb⟩
set_option maxRecDepth 8000 in
set_option maxHeartbeats 4000000 in
theorem nload_any (NS : NilSays) (w : World) (q : Int) (hvt : VT w) (hq : I63 q) :
    Calls Tryz.prog 70 #[.pointer none, .int .i64 q] w fun e w' => e = .returned (.tuple #[.agg (hv noH), .slice none 0 0, .int .i64 (nilI q)]) ∧ Below w.heap.size w w' := by
  have HNS := Lib.hid NS
  obtain ⟨w0, hw0⟩ : ∃ q, w.alloc (.cells #[.int .u64 0, .int .i64 0, .int .i64 0, .int .i64 0, .int .i64 0, .int .i64 0, .int .i64 0] 34) = q := ⟨_, rfl⟩
  have HS := Lib.hid (show LN w w0 from by
    have hb := balloc w (.cells (hv noH) 34)
    rw [← hw0]
    exact ⟨hb, hvt.on hb, HB.new w noH rfl⟩)
  obtain ⟨s, hs⟩ : ∃ s, walB q = s := ⟨_, rfl⟩
  have HWL := swal_of hq hs
  unfold nilI
  rw [hs]
  by_cases h0 : s = noS
  · rw [if_pos h0]
    subst h0
    clear hs hvt hq
    go_enter Tryz.func70, Tryz.ntmps70
    go_wp2_with (first
      | (go_at_call 29; (with_reducible refine (HWL.out _ HS.out.vt.vars).mono ?_); rintro e w1 ⟨rfl, hb⟩; have HS1 := Lib.hid (HS.out.next hb); clear hb)
      | (refine wpl_put_hd rfl (.tmp 4) (.tmp 15) rfl w.heap.size noH noH HS1.out.hr rfl rfl rfl ?_; intro wf HOF HGF))
    refine bodyPost_ret_by (results_row_tmp2 rfl _ _ w.heap.size _ rfl HOF.out.load) rfl ⟨rfl, hbelow_grown HS1.out.below HGF.out (Nat.le_refl _) HS1.out.below.size⟩
  · rw [if_neg h0]
    have b0 : (s.toList == ([] : List UInt8)) = false := str_empty h0
    clear hs hvt hq h0
    go_enter Tryz.func70, Tryz.ntmps70
    go_wp2_with (first
      | (go_at_call 29; (with_reducible refine (HWL.out _ HS.out.vt.vars).mono ?_); rintro e w1 ⟨rfl, hb⟩; have HS1 := Lib.hid (HS.out.next hb); clear hb)
      | (go_at_call 41; (with_reducible refine (HNS.out.size _ s).mono ?_); rintro e w2 ⟨rfl, hb⟩; have HS2 := Lib.hid (HS1.out.next hb); clear hb)
      | (go_at_call 84; (with_reducible refine (HNS.out.read _ s 0 0).mono ?_); rintro e w3 ⟨v3, rfl, hb⟩; have HS3 := Lib.hid (HS2.out.next hb); clear hb)
      | (refine wpl_put_hd rfl (.tmp 4) (.tmp 27) rfl w.heap.size noH noH HS3.out.hr rfl rfl rfl ?_; intro wf HOF HGF))
    refine bodyPost_ret_by (results_row_tmp2 rfl _ _ w.heap.size _ rfl HOF.out.load) rfl ⟨rfl, hbelow_grown HS3.out.below HGF.out (Nat.le_refl _) HS3.out.below.size⟩
theorem nload_of (NS : NilSays) {q e : Int} (hq : I63 q) (he : nilI q = e) : Hid (∀ w, VT w → Calls Tryz.prog 70 #[.pointer none, .int .i64 q] w fun r w' => r = .returned (.tuple #[.agg (hv noH), .slice none 0 0, .int .i64 e]) ∧ Below w.heap.size w w') :=
  Lib.hid fun w hv => by rw [← he]; exact nload_any NS w q hv hq
set_option maxRecDepth 8000 in
theorem nheader_any (NS : NilSays) (w : World) (q : Int) (hvt : VT w) (hq : I63 q) :
    Calls Tryz.prog 23 #[.pointer none, .int .i64 q] w fun e w' => e = .returned (.tuple #[.agg (hv noH), .int .i64 (nilI q)]) ∧ Below w.heap.size w w' := by
  obtain ⟨w0, hw0⟩ : ∃ q, w.alloc (.cells #[.int .u64 0, .int .i64 0, .int .i64 0, .int .i64 0, .int .i64 0, .int .i64 0, .int .i64 0] 34) = q := ⟨_, rfl⟩
  have HS := Lib.hid (show LN w w0 from by
    have hb := balloc w (.cells (hv noH) 34)
    rw [← hw0]
    exact ⟨hb, hvt.on hb, HB.new w noH rfl⟩)
  obtain ⟨e, he⟩ : ∃ e, nilI q = e := ⟨_, rfl⟩
  have HLD := nload_of NS hq he
  rw [he]
  clear he hq hvt
  go_enter Tryz.func23, Tryz.ntmps23
  go_wp2_with (first
    | (go_at_call 70; (with_reducible refine (HLD.out _ HS.out.vt).mono ?_); rintro r w1 ⟨rfl, hb⟩; have HS1 := Lib.hid (HS.out.next hb); clear hb)
    | (refine wpl_store_newH rfl _ _ rfl rfl w1.heap.size rfl noH rfl rfl rfl ?_; intro w2 HK2 HB2)
    | (refine wpl_load_hd (by rfl) (.tmp 6) rfl rfl HK2.out ?_)
    | (refine wpl_put_hd rfl (.tmp 4) (.tmp 16) rfl w.heap.size noH noH (HS1.out.hr.keep HB2.out) rfl rfl rfl ?_; have HW := Lib.hid (bch HS1.out.below HB2.out); intro wf HOF HGF))
  refine bodyPost_ret_by (results_row_tmp rfl _ _ w.heap.size _ rfl HOF.out.load) rfl ⟨rfl, hbelow_grown HW.out HGF.out (Nat.le_refl _) HW.out.size⟩
set_option maxRecDepth 8000 in
theorem nsectors_any (NS : NilSays) (w : World) (q : Int) (hvt : VT w) (hq : I63 q) :
    Calls Tryz.prog 24 #[.pointer none, .int .i64 q] w fun e w' => e = .returned (.tuple #[.slice none 0 0, .int .i64 (nilI q)]) ∧ Below w.heap.size w w' := by
  have HV := Lib.hid hvt
  obtain ⟨e, he⟩ : ∃ e, nilI q = e := ⟨_, rfl⟩
  have HLD := nload_of NS hq he
  rw [he]
  clear he hq hvt
  go_enter Tryz.func24, Tryz.ntmps24
  go_wp2_with (first
    | (go_at_call 70; (with_reducible refine (HLD.out _ HV.out).mono ?_); rintro r w1 ⟨rfl, hb⟩; have HB1 := Lib.hid hb; clear hb)
    | (refine wpl_store_newH rfl _ _ rfl rfl w1.heap.size rfl noH rfl rfl rfl ?_; intro w2 HK2 HB2))
  go_ret2
  exact ⟨rfl, bch HB1.out HB2.out⟩
theorem nfound_any (NS : NilSays) (w : World) (s : ByteArray) :
    Calls Tryz.prog 40 #[.pointer none, .string s] w fun e w' => e = .returned (.int .i64 11) ∧ Below w.heap.size w w' := by
  have HNS := Lib.hid NS
  go_enter Tryz.func40, Tryz.ntmps40
  go_wp2_with (first
    | (go_at_call 84; (with_reducible refine (HNS.out.read _ s 0 0).mono ?_); rintro e w1 ⟨v, rfl, hb⟩; have HB := Lib.hid hb; clear hb))
  go_ret
  exact ⟨rfl, HB.out⟩
theorem nmissing_any (NS : NilSays) (w : World) (s : ByteArray) :
    Calls Tryz.prog 30 #[.pointer none, .string s] w fun e w' => e = .returned (.int .i64 11) ∧ Below w.heap.size w w' := by
  have HNS := Lib.hid NS
  go_enter Tryz.func30, Tryz.ntmps30
  go_wp2_with (first
    | (go_at_call 40; (with_reducible refine (nfound_any HNS.out _ s).mono ?_); rintro e w1 ⟨rfl, hb⟩; have HB := Lib.hid hb; clear hb))
  go_ret
  exact ⟨rfl, HB.out⟩
abbrev N3 (c a g : Nat) (x : Hdr) (v : Int) : List (Nat × Obj) := [(c, oC 41 (.int .i64 v)), (a, oC 24 (.pointer none)), (g, oH x)]
theorem N3.cells {F : Nat → Bool} {W : World} {c a g : Nat} {x : Hdr} {v : Int} (h : BX F W (N3 c a g x v)) : W.cell? ⟨a, 0, none⟩ = some (.pointer none) ∧ W.cell? ⟨c, 0, none⟩ = some (.int .i64 v) ∧ W.frozen? ⟨c, 0, none⟩ = false :=
  ⟨(h.one (g := a) (t := 24) (v := .pointer none) (by simp [N3])).1, (h.one (g := c) (t := 41) (v := .int .i64 v) (by simp [N3])).1, (h.one (g := c) (t := 41) (v := .int .i64 v) (by simp [N3])).2⟩
theorem BX.start3 (w : World) (x : Hdr) : BX noF (((w.alloc (oC 24 (.pointer none))).alloc (oH x)).alloc (oC 41 (.int .i64 0))) (N3 (w.heap.size + 2) w.heap.size (w.heap.size + 1) x 0) := by
  have h1 := (BX.nil noF w).alloc (Foot.none _) (oC 24 (.pointer none)) rfl
  have h2 := h1.alloc (Foot.none _) (oH x) (g := w.heap.size + 1) (by rw [alloc_size])
  have h3 := h2.alloc (Foot.none _) (oC 41 (.int .i64 0)) (g := w.heap.size + 2) (by rw [alloc_size, alloc_size])
  refine h3.sub fun q hq => ?_
  simp only [N3, List.mem_cons, List.not_mem_nil, or_false] at hq ⊢
  rcases hq with rfl | rfl | rfl <;> simp
theorem below_cell {B : Nat} {w W : World} (h : Below B w W) {g : Nat} (hg : B ≤ g) (v : Value) : Below B w (W.setCell ⟨g, 0, none⟩ v) :=
  ⟨h.os, h.tape, h.output, by simpa using h.size, fun k hk => (heap_setCell_other W ⟨g, 0, none⟩ k v (by show k ≠ g; omega)).trans (h.block k hk)⟩
set_option maxRecDepth 8000 in
set_option maxHeartbeats 2000000 in
theorem nbegin_any (NS : NilSays) (w : World) (x : Hdr) (hvt : VT w) (hx : HdT x) :
    Calls Tryz.prog 9 #[.pointer none, .agg (hv x)] w fun e w' => e = .returned (.int .i64 (if hdOk x = true then 11 else 13)) ∧ Below w.heap.size w w' := by
  have HNS := Lib.hid NS
  have hmf := mf_seg Tryz.prog
  have hst := BX.start3 w x
  obtain ⟨w0, hw0⟩ : ∃ q, ((w.alloc (.cells #[.pointer none] 24)).alloc (.cells (hv x) 34)).alloc (.cells #[.int .i64 0] 41) = q := ⟨_, rfl⟩
  have hbw : Below w.heap.size w w0 := by rw [← hw0]; exact bch (bch (balloc _ _) (balloc _ _)) (balloc _ _)
  rw [show (((w.alloc (oC 24 (.pointer none))).alloc (oH x)).alloc (oC 41 (.int .i64 0))) = w0 from hw0] at hst
  have HO := Lib.hid hst
  have HB0 := Lib.hid hbw
  have HV := Lib.hid (hvt.on hbw)
  have HHB := Lib.hid (hst.hb hx.n (g := w.heap.size + 1) (by simp [N3]))
  obtain ⟨c1, c0, f0⟩ := N3.cells hst
  clear hst hvt hbw
  cases hk : hdOk x with
  | false =>
    have HRT : Hid (∀ w, Calls Tryz.prog 28 #[.agg (hv x)] w fun e w' => e = .returned (.bool false) ∧ Below w.heap.size w w') := Lib.hid fun w => by rw [← hk]; exact hright_any x hx w
    clear hx hk
    rw [if_neg (by simp)]
    focus
      go_enter_defers Tryz.func9, Tryz.ntmps9
      go_wp2_with (first
        | (refine wpl_load_hd (by rfl) (.tmp 3) rfl rfl (show HB w0 (w.heap.size + 1) x from HHB.out) ?_)
        | (go_at_call 28; (with_reducible refine (HRT.out _).mono ?_); rintro e w1 ⟨rfl, hb⟩; have HO1 := Lib.hid (HO.out.below hb); have HB1 := Lib.hid (bch HB0.out hb); have HV1 := Lib.hid (HV.out.on hb); have HHB1 := Lib.hid (HHB.out.keep hb); obtain ⟨p1, p0, pf⟩ := N3.cells HO1.out; clear hb c1 c0 f0))
      have hs1 := HB1.out.size
      exact ⟨_, results_errno rfl _ _ (w.heap.size + 2) _ rfl (cell_of_row _ _ 0 _ _ _ (BX.put (HO1.out (w.heap.size + 2, oC 41 (.int .i64 0)) (by simp)).1 (.int .i64 13))), rfl, below_cell HB1.out (by omega) _⟩
  | true =>
    have HRT : Hid (∀ w, Calls Tryz.prog 28 #[.agg (hv x)] w fun e w' => e = .returned (.bool true) ∧ Below w.heap.size w w') := Lib.hid fun w => by rw [← hk]; exact hright_any x hx w
    obtain ⟨s, hs⟩ : ∃ s, walB x.s = s := ⟨_, rfl⟩
    have HWL := swal_of hx.s hs
    clear hx hk hs
    rw [if_pos rfl]
    focus
      go_enter_defers Tryz.func9, Tryz.ntmps9
      go_wp2_with (first
        | (refine wpl_load_hd (by rfl) (.tmp 3) rfl rfl (show HB w0 (w.heap.size + 1) x from HHB.out) ?_)
        | (go_at_call 28; (with_reducible refine (HRT.out _).mono ?_); rintro e w1 ⟨rfl, hb⟩; have HO1 := Lib.hid (HO.out.below hb); have HB1 := Lib.hid (bch HB0.out hb); have HV1 := Lib.hid (HV.out.on hb); have HHB1 := Lib.hid (HHB.out.keep hb); obtain ⟨p1, p0, pf⟩ := N3.cells HO1.out; clear hb c1 c0 f0)
        | (refine wpl_load_hs (by rfl) (.tmp 12) rfl rfl HHB1.out ?_)
        | (go_at_call 29; (with_reducible refine (HWL.out _ (HV1.out.vars)).mono ?_); rintro e w2 ⟨rfl, hb⟩; have HB2 := Lib.hid (bch (bch HB1.out hb) (balloc w2 (oC 9 (.string s)))); have HO2 := Lib.hid ((HO1.out.below hb).alloc (Foot.none _) (oC 9 (.string s)) rfl); have HO2' := Lib.hid (show BX noF (w2.alloc (.cells #[.string s] 9)) (N3 (w.heap.size + 2) w.heap.size (w.heap.size + 1) x 0) from HO2.out.sub (fun q hq => List.mem_cons_of_mem _ hq)); obtain ⟨q1, q0, qf⟩ := N3.cells HO2'.out; obtain ⟨q2, -⟩ := HO2.out.one (g := w2.heap.size) (t := 9) (v := .string s) (by simp); dsimp only [oC] at q2; clear hb p1 p0 pf)
        | (go_at_call 30; (with_reducible refine (nmissing_any HNS.out _ s).mono ?_); rintro e w3 ⟨rfl, hb⟩; have HB3 := Lib.hid (bch HB2.out hb); have HO3 := Lib.hid (HO2'.out.below hb); obtain ⟨r1, r0, rf⟩ := N3.cells HO3.out; clear hb q1 q0 qf q2))
      have hs1 := HB3.out.size
      exact ⟨_, results_errno rfl _ _ (w.heap.size + 2) _ rfl (cell_of_row _ _ 0 _ _ _ (BX.put (HO3.out (w.heap.size + 2, oC 41 (.int .i64 0)) (by simp)).1 (.int .i64 11))), rfl, below_cell HB3.out (by omega) _⟩
set_option maxRecDepth 8000 in
theorem nnewest_any (NS : NilSays) (w : World) :
    Calls Tryz.prog 25 #[.pointer none] w fun e w' => e = .returned (.int .u64 0) ∧ Below w.heap.size w w' := by
  have HNS := Lib.hid NS
  go_enter Tryz.func25, Tryz.ntmps25
  go_wp2_with (first
    | (go_at_call 61; (with_reducible refine (HNS.out.files _).mono ?_); rintro e w1 ⟨a1, c1, rfl, hb⟩; have HB1 := Lib.hid hb; clear hb))
  go_loopw [13, 3] (fun iv xv wr => iv = .int .i64 0 ∧ xv = .int .u64 0 ∧ Hid (Below w.heap.size w wr)) (fun _ _ _ => 0)
  case atStart => exact ⟨rfl, rfl, HB1⟩
  case round =>
    obtain ⟨rfl, rfl, HB⟩ := hrel
    go_wp2_with fail
    go_ret
    exact ⟨rfl, HB.out⟩
set_option maxRecDepth 8000 in
set_option maxHeartbeats 2000000 in
theorem nobody_walk (H : DiskSays DK) (NS : NilSays) (q : Int) (x : Hdr) (w : World) (hq : I63 q) (hx : HdT x) (hvt : VT w) :
    Calls Tryz.prog 5 #[.int .i64 q, .agg (hv x)] w fun e w' => e = .returned (.bool true) ∧ Below w.heap.size w w' := by
  have hH := Lib.hid H
  have HNS := Lib.hid NS
  obtain ⟨w0, hw0⟩ : ∃ q, w.alloc (.cells (hv x) 34) = q := ⟨_, rfl⟩
  have hb0 : Below w.heap.size w w0 := by rw [← hw0]; exact balloc w _
  have HHB := Lib.hid (show HB w0 w.heap.size x from by rw [← hw0]; exact HB.new w x hx.n)
  have HB0 := Lib.hid hb0
  have HV := Lib.hid (fun W (hW : Below w.heap.size w W) => hvt.on hW)
  have hlit : ∀ n : Int, 1 ≤ n → n ≤ 3 → nilI n = 11 := fun n h1 h2 => by unfold nilI; rw [if_neg (wal_in h1 (by omega))]
  have H1 : Hid (∀ w, VT w → Calls Tryz.prog 23 #[.pointer none, .int .i64 1] w fun e w' => e = .returned (.tuple #[.agg (hv noH), .int .i64 11]) ∧ Below w.heap.size w w') := Lib.hid fun w hv => by
    have := nheader_any NS w 1 hv (by unfold I63; omega); rwa [hlit 1 (by omega) (by omega)] at this
  have H2 : Hid (∀ w, VT w → Calls Tryz.prog 24 #[.pointer none, .int .i64 2] w fun e w' => e = .returned (.tuple #[.slice none 0 0, .int .i64 11]) ∧ Below w.heap.size w w') := Lib.hid fun w hv => by
    have := nsectors_any NS w 2 hv (by unfold I63; omega); rwa [hlit 2 (by omega) (by omega)] at this
  obtain ⟨e1, he1⟩ : ∃ e, nilI q = e := ⟨_, rfl⟩
  have h1 : e1 = 13 ∨ e1 = 11 := by rw [← he1]; unfold nilI; split <;> simp
  have H3 : Hid (∀ w, VT w → Calls Tryz.prog 23 #[.pointer none, .int .i64 q] w fun e w' => e = .returned (.tuple #[.agg (hv noH), .int .i64 e1]) ∧ Below w.heap.size w w') := Lib.hid fun w hv => by
    have := nheader_any NS w q hv hq; rwa [he1] at this
  obtain ⟨e2, he2⟩ : ∃ e : Int, (if hdOk x = true then 11 else 13) = e := ⟨_, rfl⟩
  have h2 : e2 = 13 ∨ e2 = 11 := by rw [← he2]; split <;> simp
  have H4 : Hid (∀ w, VT w → Calls Tryz.prog 9 #[.pointer none, .agg (hv x)] w fun e w' => e = .returned (.int .i64 e2) ∧ Below w.heap.size w w') := Lib.hid fun w hv => by
    have := nbegin_any NS w x hv hx; rwa [he2] at this
  clear hq hx hvt hb0 he1 he2
  rcases h1 with rfl | rfl <;> rcases h2 with rfl | rfl
  all_goals
    go_enter Tryz.func5, Tryz.ntmps5
    go_wp2_with (first
      | (go_at_call 23; (with_reducible refine (H1.out _ (HV.out _ HB0.out)).mono ?_); rintro e w1 ⟨rfl, hb⟩; have HB1 := Lib.hid (bch HB0.out hb); have HHB1 := Lib.hid (HHB.out.keep hb); clear hb)
      | (refine wpl_store_newH rfl _ _ rfl rfl w1.heap.size rfl noH rfl rfl rfl ?_; intro w2 HK2 hb; have HB2 := Lib.hid (bch HB1.out hb.out); have HHB2 := Lib.hid (HHB1.out.keep hb.out); clear hb HK2)
      | (go_at_call 24; (with_reducible refine (H2.out _ (HV.out _ HB2.out)).mono ?_); rintro e w3 ⟨rfl, hb⟩; have HB3 := Lib.hid (bch HB2.out hb); have HHB3 := Lib.hid (HHB2.out.keep hb); clear hb)
      | (go_at_call 23; (with_reducible refine (H3.out _ (HV.out _ HB3.out)).mono ?_); rintro e w4 ⟨rfl, hb⟩; have HB4 := Lib.hid (bch HB3.out hb); have HHB4 := Lib.hid (HHB3.out.keep hb); clear hb)
      | (refine wpl_store_newH rfl _ _ rfl rfl w4.heap.size rfl noH rfl rfl rfl ?_; intro w5 HK5 hb; have HB5 := Lib.hid (bch HB4.out hb.out); have HHB5 := Lib.hid (HHB4.out.keep hb.out); clear hb HK5)
      | (refine wpl_load_hd (by rfl) (.tmp 3) rfl rfl HHB5.out ?_)
      | (go_at_call 9; (with_reducible refine (H4.out _ (HV.out _ HB5.out)).mono ?_); rintro e w6 ⟨rfl, hb⟩; have HB6 := Lib.hid (bch HB5.out hb); clear hb)
      | (go_at_call 25; (with_reducible refine (nnewest_any HNS.out _).mono ?_); rintro e w7 ⟨rfl, hb⟩; have HB7 := Lib.hid (bch HB6.out hb); clear hb)
      | (go_at_call 6; (with_reducible refine (sawake_any hH.out _ (HV.out _ HB7.out)).mono ?_); rintro e w8 ⟨rfl, hb⟩; have HB8 := Lib.hid (bch HB7.out hb); clear hb))
    go_ret
    exact ⟨rfl, HB8.out⟩
end Go.Proofs.YtpoiapfgbbmekaaGreatDoor
