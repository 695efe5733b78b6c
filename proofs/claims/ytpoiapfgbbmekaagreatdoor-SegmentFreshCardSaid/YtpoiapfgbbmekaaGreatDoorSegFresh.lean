import Derived.Test.YtpoiapfgbbmekaaGreatDoorJ10
namespace Go.Proofs.YtpoiapfgbbmekaaGreatDoor
open Go.RowKit
variable {DK : World → Addr → (Nat → Bool) → AD → Prop}
def frD : AD := ((AD.newD 40).makeR fr1 17).1
theorem frD_facts : ((AD.newD 40).makeR fr1 17).2 = 0 ∧ frD.down = false ∧ frD.told = false ∧ frD.has fr1 ∧ (frD.get fr1).n = 17 := by
  decide +kernel
theorem op_zero {d : AD} (h : d.told = false) : d.ope = 0 ∧ d.opd.down = d.down ∧ d.opd.told = false := by
  unfold AD.ope AD.opd
  simp [h]
theorem old_facts (m : Nat) (fs : List Int) (hm : m ≤ 17) : (frD.writeR fr1 0 m fs).2 = 0 ∧ ((frD.writeR fr1 0 m fs).1.syncR fr1).2 = 0 := by
  obtain ⟨_, h1, h2, h3, h4⟩ := frD_facts
  obtain ⟨o1, o2, o3⟩ := op_zero h2
  obtain ⟨x, hx⟩ : ∃ x : AF, ({ frD.get fr1 with seen := (frD.get fr1).seen.take ((0 : Int).toNat * 64) ++ fs ++ (frD.get fr1).seen.drop ((0 : Int).toNat * 64 + m * 64), ws := (frD.get fr1).ws.take (0 : Int).toNat ++ List.replicate m true ++ (frD.get fr1).ws.drop ((0 : Int).toNat + m) } : AF) = x := ⟨_, rfl⟩
  have hn : x.name = fr1 := by rw [← hx]; exact frD.get_name fr1 h3
  have e : frD.writeR fr1 0 m fs = (frD.opd.withF x, 0) := by
    unfold AD.writeR
    rw [if_neg (by rw [h1]; simp), if_neg (Decidable.not_not.2 h3), if_neg (by rw [h4]; omega), AD.opR_done _ _ o1, hx]
  rw [e]
  refine ⟨rfl, ?_⟩
  have hm2 : x ∈ (frD.opd.withF x).L := mem_with
  have hh := has_of_mem hm2
  rw [hn] at hh
  have hd : (frD.opd.withF x).down = false := by show frD.opd.down = false; rw [o2, h1]
  have ht : (frD.opd.withF x).told = false := o3
  show ((frD.opd.withF x).syncR fr1).2 = 0
  unfold AD.syncR
  rw [if_neg (by rw [hd]; simp), if_neg (Decidable.not_not.2 hh), AD.opR_done _ _ (op_zero ht).1]
section
variable {o : Oper} {a : Act} {w : World} {Q : Exit → Act → World → Prop} {ops : Array Oper} {rest : List Oper}
theorem exec_neq_sec (zs ys : List Int) (hz : zs.length = 64) (hy : ys.length = 64) (x y : Operand) (u : TypeId) (ho : o.op = .binOp .neq 63 x y u) (hx : a.eval x = .agg (sv zs)) (hye : a.eval y = .agg (sv ys)) :
    (execOp a.eval o).run Tryz.prog w = .ok (.value (.bool (!decide (zs = ys)))) w := by
  unfold execOp
  have hg : Tryz.prog.eqGuardType Tryz.prog.depth 63 = false := by kernel_rfl
  have he : (binOp .neq 63 (.agg (sv zs)) (.agg (sv ys))).run Tryz.prog w = .ok (.bool (!decide (zs = ys))) w := by
    rw [run_neq_struct, run_eq_sec zs ys hz hy]; rfl
  simp only [ho, hx, hye, Sem.run_bind, run_eqGuard_agg w .neq 63 x y _ _ hg, Result.andThen_ok, he, Sem.run_pure]
theorem wpl_neq_sec (x y : Operand) (u : TypeId) (ho : o.op = .binOp .neq 63 x y u) (zs ys : List Int) (hz : zs.length = 64) (hy : ys.length = 64) (hx : a.eval x = .agg (sv zs)) (hye : a.eval y = .agg (sv ys)) (hw : Region.wanted o (yielded ops a.tmps) = true)
    (hk : wpList Tryz.prog ops Q rest (a.put o.dst (.bool (!decide (zs = ys)))) w) : wpList Tryz.prog ops Q (o :: rest) a w := wpl_valw hw (exec_neq_sec zs ys hz hy x y u ho hx hye) hk
end
theorem zeros_cut (i : Nat) (h : i < 16) : ((List.replicate (16 * 64) (0 : Int)).drop (i * 64)).take 64 = z64 := by
  rw [List.drop_replicate, List.take_replicate, z64]
  congr 1
  omega
structure FZ (DK : World → Addr → (Nat → Bool) → AD → Prop) (w w0 : World) (p : Addr) (F : Nat → Bool) (d : AD) (W : World) : Prop where
  dk : DK W p F d
  ex : Ext noF w0 W F
theorem FZ.next (H : DiskSays DK) {w w0 : World} {p : Addr} {F : Nat → Bool} {d : AD} {W W' : World} (h : FZ DK w w0 p F d W) (hb : Below W.heap.size W W') : FZ DK w w0 p F d W' := ⟨H.below h.dk hb, h.ex.trans (Ext.below hb)⟩
theorem FZ.op {w w0 : World} {p : Addr} {F F' : Nat → Bool} {d d' : AD} {W W' : World} (h : FZ DK w w0 p F d W) (hk : DK W' p F' d') (hx : Ext F W W' F') : FZ DK w w0 p F' d' W' := ⟨hk, h.ex.trans hx⟩
theorem ext_blk {w0 W : World} {F : Nat → Bool} (hx : Ext noF w0 W F) {k : Nat} {o : Obj} (h : w0.heap[k]? = some o) : W.heap[k]? = some o := (hx.block k (blk_lt h) rfl).trans h
set_option maxRecDepth 8000 in
set_option maxHeartbeats 4000000 in
theorem fresh_walk (H : DiskSays DK) (v : Value) (m : Nat) (fs : List Int) (x : Hdr) (vk : Value) (kl : Nat) (kb : List Int) (tq cq : Int) (w : World) (hfs : FS w v m fs) (hfb : Bytes fs) (hx : HdT x) (hri : RI .u8 w vk kl kb) (hkb : Bytes kb) (htq : I63 tq) (hcq : I63 cq) (hvt : VT w) :
    Calls Tryz.prog 4 #[v, .agg (hv x), .agg #[vk, .int .i64 tq, .int .i64 cq]] w fun e w' => e = .returned (.bool true) ∧ Below w.heap.size w w' := by
  have hH := Lib.hid H
  obtain ⟨w0, hw0⟩ : ∃ q, (w.alloc (.cells (hv x) 34)).alloc (.cells #[vk, .int .i64 tq, .int .i64 cq] 38) = q := ⟨_, rfl⟩
  have hb0 : Below w.heap.size w w0 := by rw [← hw0]; exact bch (balloc _ _) (balloc _ _)
  have hhb : HB w0 w.heap.size x := by rw [← hw0]; exact (HB.new w x hx.n).keep (balloc _ _)
  have hcb : w0.heap[w.heap.size + 1]? = some (.cells #[vk, .int .i64 tq, .int .i64 cq] 38 (0, 0)) := by
    rw [← hw0]
    have := heap_alloc_last (w.alloc (.cells (hv x) 34)) (.cells #[vk, .int .i64 tq, .int .i64 cq] 38)
    rwa [alloc_size] at this
  have HB0 := Lib.hid hb0
  have HV := Lib.hid (fun W F (hW : Ext noF w0 W F) => (hvt.on hb0).ext hW)
  have HHB := Lib.hid (fun W F (hW : Ext noF w0 W F) => (⟨ext_blk hW hhb.1, hhb.2⟩ : HB W w.heap.size x))
  have HCB := Lib.hid (fun W F (hW : Ext noF w0 W F) => ext_blk hW hcb)
  have HXN := Lib.hid hx.n
  obtain ⟨av, cv, rfl, hfl, _, _, _, _⟩ := id hfs
  by_cases h17 : (17 : Int) < (m : Int)
  · clear hfs hfb hx hri hkb htq hcq hvt hb0 hhb hcb
    go_enter Tryz.func4, Tryz.ntmps4
    go_wp2_with (first
      | (go_at_call 6; (with_reducible refine (sawake_any hH.out _ (HV.out _ noF (Ext.refl noF w0))).mono ?_); rintro e w1 ⟨rfl, hb⟩; have HB1 := Lib.hid (bch HB0.out hb); clear hb))
    go_ret
    exact ⟨rfl, HB1.out⟩
  obtain ⟨e1, _, _, _, _⟩ := frD_facts
  obtain ⟨e2, e3⟩ := old_facts m fs (by omega)
  have g0 := Good.new 40 (by unfold I63; omega)
  have g1 : Good frD := g0.make fr1 17
  have hfl2 : fs.length = m * 64 := hfl
  have g2 := g1.write fr1 0 m fs hfl2 hfb
  obtain ⟨⟨d2, q2⟩, hd2⟩ : ∃ r, frD.writeR fr1 0 m fs = r := ⟨_, rfl⟩
  rw [hd2] at e2 e3 g2
  simp only at e2 e3 g2
  subst e2
  have g3 := g2.sync fr1
  obtain ⟨⟨d3, q3⟩, hd3⟩ : ∃ r, d2.syncR fr1 = r := ⟨_, rfl⟩
  rw [hd3] at e3 g3
  simp only at e3 g3
  subst e3
  have hft := fresh_tells g3 hx (kb := kb) (torn := tq) (cut := cq)
  have g4 : Good (d3.beginR x).1 := g3.begin hx
  have g5 : Good ((d3.beginR x).1.crashR kb tq cq) := g4.crash kb tq cq
  have H1 : Hid (∀ w, Calls Tryz.prog 7 #[.int .i64 40] w fun e w' => ∃ p F, e = .returned (ptr p) ∧ DK w' p F (AD.newD 40) ∧ Ext noF w w' F) := Lib.hid fun w => H.new 40 w (by unfold I63; omega)
  have H2 : Hid (∀ w p F, DK w p F (AD.newD 40) → Calls Tryz.prog 13 #[ptr p, .string fr1, .int .i64 17] w fun e w' => ∃ F', e = .returned (.int .i64 0) ∧ DK w' p F' frD ∧ Ext F w w' F') := Lib.hid fun w p F h => by
    have := H.make w p F _ fr1 17 h g0 (by decide) (by unfold I63; omega); rwa [e1] at this
  have H3 : Hid (∀ W p F, DK W p F frD → Ext noF w0 W F → Calls Tryz.prog 19 #[ptr p, .string fr1, .int .i64 0, .slice av m cv] W fun e w' => ∃ F', e = .returned (.int .i64 0) ∧ DK w' p F' d2 ∧ Ext F W w' F') := Lib.hid fun W p F h hW => by
    have hk0 : Kin w0 (mask F W) := by have := hW.kin; rwa [mask_none] at this
    have := H.write W p F _ fr1 0 _ m fs h g1 (by decide) (by unfold I63; omega) ((hfs.keep hb0).kin hk0) hfb (by omega); rwa [hd2] at this
  have H4 : Hid (∀ w p F, DK w p F d2 → Calls Tryz.prog 22 #[ptr p, .string fr1] w fun e w' => ∃ F', e = .returned (.int .i64 0) ∧ DK w' p F' d3 ∧ Ext F w w' F') := Lib.hid fun w p F h => by
    have := H.sync w p F _ fr1 h g2 (by decide); rwa [hd3] at this
  obtain ⟨⟨d4, q4⟩, hd4⟩ : ∃ r, d3.beginR x = r := ⟨_, rfl⟩
  rw [hd4] at hft g4 g5
  simp only at hft g4 g5
  have H5 : Hid (∀ W p F, DK W p F d3 → Ext noF w0 W F → Calls Tryz.prog 9 #[ptr p, .agg (hv x)] W fun e w' => ∃ F', e = .returned (.int .i64 q4) ∧ DK w' p F' d4 ∧ Ext F W w' F') := Lib.hid fun W p F h hW => by
    have := sbegin_any H w0 W p F _ x h g3 (hvt.on hb0) hW hx; rwa [hd4] at this
  by_cases hq4 : q4 = 0
  · subst hq4
    obtain ⟨t1, t2⟩ := hft rfl
    obtain ⟨d5, hd5⟩ : ∃ d, d4.crashR kb tq cq = d := ⟨_, rfl⟩
    rw [hd5] at t1 t2 g5
    have H6 : Hid (∀ W p F, DK W p F d4 → Ext noF w0 W F → Calls Tryz.prog 17 #[ptr p, .agg #[vk, .int .i64 tq, .int .i64 cq]] W fun e w' => ∃ F', e = .returned (.tuple #[]) ∧ DK w' p F' d5 ∧ Ext F W w' F') := Lib.hid fun W p F h hW => by
      have hk0 : Kin w0 (mask F W) := by have := hW.kin; rwa [mask_none] at this
      have := H.crash W p F _ vk kl kb tq cq h g4 ((RI.keep hb0 hri).kin hk0) hkb htq hcq; rwa [hd5] at this
    have H7 : Hid (∀ w p F, DK w p F d5 → VT w → Calls Tryz.prog 23 #[ptr p, .int .i64 x.s] w fun e w' => e = .returned (.tuple #[.agg (hv x), .int .i64 0]) ∧ Below w.heap.size w w') := Lib.hid fun w p F h hv => by
      have := sheader_any H w p F d5 x.s h g5 hv hx.s; rwa [t1] at this
    have H8 : Hid (∀ w p F, DK w p F d5 → VT w → Calls Tryz.prog 24 #[ptr p, .int .i64 x.s] w fun e w' => ∃ v, e = .returned (.tuple #[v, .int .i64 0]) ∧ FS w' v 16 (List.replicate (16 * 64) 0) ∧ Below w.heap.size w w') := Lib.hid fun w p F h hv => by
      refine (ssectors_any H w p F d5 x.s h g5 hv hx.s).mono ?_
      rintro e w' ⟨v, rfl, h2, h3⟩
      rw [t1] at h2 ⊢
      rw [t2] at h2
      exact ⟨v, rfl, h2 rfl, h3⟩
    obtain ⟨zz, hzz⟩ : ∃ l, List.replicate (16 * 64) (0 : Int) = l := ⟨_, rfl⟩
    have HZC := Lib.hid (fun i (hi : i < 16) => show (zz.drop (i * 64)).take 64 = z64 from by rw [← hzz]; exact zeros_cut i hi)
    rw [hzz] at H8
    clear hfs hfb hx hri hkb htq hcq hvt hb0 hhb hcb e1 g0 g1 g2 g3 g4 g5 hd2 hd3 hd4 hd5 t1 t2 hft hfl hfl2 hzz
    go_enter Tryz.func4, Tryz.ntmps4
    go_wp2_with (first
      | (go_at_call 7; (with_reducible refine (H1.out _).mono ?_); rintro e w1 ⟨p, F1, rfl, hk, hx⟩; have S1 := Lib.hid (⟨hk, hx⟩ : FZ DK w w0 p F1 (AD.newD 40) w1); clear hk hx)
      | (go_at_call 13; (with_reducible refine (H2.out _ _ _ S1.out.dk).mono ?_); rintro e w2 ⟨F2, rfl, hk, hx⟩; have S2 := Lib.hid (S1.out.op hk hx); clear hk hx)
      | (go_at_call 19; (with_reducible refine (H3.out _ _ _ S2.out.dk S2.out.ex).mono ?_); rintro e w3 ⟨F3, rfl, hk, hx⟩; have S3 := Lib.hid (S2.out.op hk hx); clear hk hx)
      | (go_at_call 22; (with_reducible refine (H4.out _ _ _ S3.out.dk).mono ?_); rintro e w4 ⟨F4, rfl, hk, hx⟩; have S4 := Lib.hid (S3.out.op hk hx); have HH4 := Lib.hid (HHB.out _ _ S4.out.ex); clear hk hx)
      | (refine wpl_load_hd (by rfl) (.tmp 4) rfl rfl (show HB w4 w.heap.size x from HH4.out) ?_)
      | (go_at_call 9; (with_reducible refine (H5.out _ _ _ S4.out.dk S4.out.ex).mono ?_); rintro e w5 ⟨F5, rfl, hk, hx⟩; have S5 := Lib.hid (S4.out.op hk hx); have c0 := cell_of_row _ _ 0 _ _ _ (HCB.out _ _ S5.out.ex); have c1 := cell_of_row _ _ 1 _ _ _ (HCB.out _ _ S5.out.ex); have c2 := cell_of_row _ _ 2 _ _ _ (HCB.out _ _ S5.out.ex); simp at c0 c1 c2; clear hk hx)
      | (go_at_call 17; (with_reducible refine (H6.out _ _ _ S5.out.dk S5.out.ex).mono ?_); rintro e w6 ⟨F6, rfl, hk, hx⟩; have S6 := Lib.hid (S5.out.op hk hx); have HH6 := Lib.hid (HHB.out _ _ S6.out.ex); clear hk hx c0 c1 c2)
      | (refine wpl_load_hs (by rfl) (.tmp 46) rfl rfl (show HB w6 w.heap.size x from HH6.out) ?_)
      | (go_at_call 23; (with_reducible refine (H7.out _ _ _ S6.out.dk (HV.out _ _ S6.out.ex)).mono ?_); rintro e w7 ⟨rfl, hb⟩; have S7 := Lib.hid (S6.out.next hH.out hb); clear hb)
      | (refine wpl_store_newH rfl _ _ rfl rfl w7.heap.size rfl x HXN.out rfl rfl ?_; intro w8 HK8 HB8; have S8 := Lib.hid (S7.out.next hH.out HB8.out); have HH8 := Lib.hid (HHB.out _ _ S8.out.ex))
      | (refine wpl_load_hs (by rfl) (.tmp 53) rfl rfl (show HB w8 w.heap.size x from HH8.out) ?_)
      | (go_at_call 24; (with_reducible refine (H8.out _ _ _ S8.out.dk (HV.out _ _ S8.out.ex)).mono ?_); rintro e w9 ⟨v9, rfl, hf9, hb⟩; obtain ⟨a9, c9, rfl, -⟩ := id hf9; have HF9 := Lib.hid hf9; have S9 := Lib.hid (S8.out.next hH.out hb); have HH9 := Lib.hid (HHB.out _ _ S9.out.ex); have HK9 := Lib.hid (HK8.out.keep hb); clear hb hf9)
      | (refine wpl_load_hd (by rfl) (.tmp 11) rfl rfl HK9.out ?_)
      | (refine wpl_load_hd (by rfl) (.tmp 4) rfl rfl (show HB w9 w.heap.size x from HH9.out) ?_)
      | (refine wpl_neq_hd (.tmp 58) (.tmp 59) _ rfl HXN.out HXN.out rfl rfl (by rfl) ?_; rw [show (!decide (x = x)) = false from by simp]))
    obtain ⟨b9, o9, rfl, -⟩ := HF9.out.at_ 0 (by omega)
    have HAT := Lib.hid (fun i (hi : i < 16) => show At w9 b9 (o9 + i * 64) z64 from by
      obtain ⟨b', o', e, h⟩ := HF9.out.at_ i hi
      simp only [Option.some.injEq, Addr.mk.injEq, and_true] at e
      obtain ⟨rfl, rfl⟩ := e
      rwa [HZC.out i hi] at h)
    go_loopw [13] (fun iv wr => ∃ i : Nat, iv = .int .i64 i ∧ i ≤ 16 ∧ wr = w9) (fun iv _ => 16 - (intOf iv).toNat)
    case atStart => exact ⟨0, rfl, by omega, rfl⟩
    case round =>
      obtain ⟨i, rfl, hi, rfl⟩ := hrel
      by_cases hlt : (i : Int) < 16
      · have hi16 : i < 16 := by omega
        have HA9 := Lib.hid (HAT.out i hi16)
        go_wp2_with (first
          | (refine wpl_load_at rfl (.tmp 80) rfl b9 _ rfl z64 HA9.out ?_)
          | (refine wpl_build_z rfl (by rfl) ?_)
          | (refine wpl_neq_sec (.tmp 81) (.tmp 82) _ rfl z64 z64 z64_length z64_length rfl rfl (by rfl) ?_; rw [show (!decide (z64 = z64)) = false from by simp]))
        exact ⟨⟨i + 1, by go_num, by omega, by first | exact trivial | rfl⟩, by simp [intOf]; omega⟩
      · have hq : i = 16 := by omega
        subst hq
        go_wp2_with (first
          | (go_at_call 6; (with_reducible refine (sawake_any hH.out _ (HV.out _ _ S9.out.ex)).mono ?_); rintro e wA ⟨rfl, hb⟩; have SA := Lib.hid (S9.out.next hH.out hb); clear hb))
        go_ret
        exact ⟨rfl, bch HB0.out SA.out.ex.bel⟩
  · have be : (q4 == 0) = false := by simpa using hq4
    clear hfs hfb hx hri hkb htq hcq hvt hb0 hhb hcb e1 g0 g1 g2 g3 g4 g5 hd2 hd3 hd4 hft hfl hfl2
    go_enter Tryz.func4, Tryz.ntmps4
    go_wp2_with (first
      | (go_at_call 7; (with_reducible refine (H1.out _).mono ?_); rintro e w1 ⟨p, F1, rfl, hk, hx⟩; have S1 := Lib.hid (⟨hk, hx⟩ : FZ DK w w0 p F1 (AD.newD 40) w1); clear hk hx)
      | (go_at_call 13; (with_reducible refine (H2.out _ _ _ S1.out.dk).mono ?_); rintro e w2 ⟨F2, rfl, hk, hx⟩; have S2 := Lib.hid (S1.out.op hk hx); clear hk hx)
      | (go_at_call 19; (with_reducible refine (H3.out _ _ _ S2.out.dk S2.out.ex).mono ?_); rintro e w3 ⟨F3, rfl, hk, hx⟩; have S3 := Lib.hid (S2.out.op hk hx); clear hk hx)
      | (go_at_call 22; (with_reducible refine (H4.out _ _ _ S3.out.dk).mono ?_); rintro e w4 ⟨F4, rfl, hk, hx⟩; have S4 := Lib.hid (S3.out.op hk hx); have HH4 := Lib.hid (HHB.out _ _ S4.out.ex); clear hk hx)
      | (refine wpl_load_hd (by rfl) (.tmp 4) rfl rfl (show HB w4 w.heap.size x from HH4.out) ?_)
      | (go_at_call 9; (with_reducible refine (H5.out _ _ _ S4.out.dk S4.out.ex).mono ?_); rintro e w5 ⟨F5, rfl, hk, hx⟩; have S5 := Lib.hid (S4.out.op hk hx); clear hk hx)
      | (go_at_call 6; (with_reducible refine (sawake_any hH.out _ (HV.out _ _ S5.out.ex)).mono ?_); rintro e w6 ⟨rfl, hb⟩; have S6 := Lib.hid (S5.out.next hH.out hb); clear hb))
    go_ret
    exact ⟨rfl, bch HB0.out S6.out.ex.bel⟩
end Go.Proofs.YtpoiapfgbbmekaaGreatDoor
