/-
  TEXTS JOINED: SegK6, SegPlays. Each one's own words stand at its head.
-/
import Derived.Test.YtpoiapfgbbmekaaGreatDoorJ20
import Derived.Test.YtpoiapfgbbmekaaGreatDoorJ10
import Derived.Deep.CutBlock
import Derived.Deep.DeepCutAuto
namespace Go.Proofs.YtpoiapfgbbmekaaGreatDoor
open Go Go.RowKit
set_option maxRecDepth 8000 in
set_option maxHeartbeats 8000000 in
theorem splays_k6 : SwSays 6 := by
  intro DK H W c b off n cap i g al cl ak ck p d cs F M wr x hsc hfs hri hgx hm40 HV0 HP HG H6 hlt hk
  intros
  rename_i N hQ
  have hH := Lib.hid H
  have HQ := Lib.hid hQ
  have HSC := Lib.hid (hsc.kin HP.out.kinw)
  obtain ⟨kd, nm, k, xh, m, fs, kl, kb, tq, cu⟩ := x
  have HCX := Lib.hid hsc
  have hnm := hgx.name
  have hk63 := hgx.n
  have hxt := hgx.h
  have hfb := hgx.fs
  have hkb := hgx.kb
  have htq := hgx.torn
  have hcu := hgx.cut
  simp only at hfs hri hnm hk63 hxt hfb hkb htq hcu hk hm40 HQ
  obtain ⟨y0, y1, y2, yh, y10, y11, y12, y13⟩ := HSC.out
  have HYH := Lib.hid yh
  simp only at y0 y1 y2 y10 y11 y12 y13
  clear hQ hsc hgx yh
  focus
        obtain ⟨d', er, HG2, HPR, HRF⟩ := splays_says6 H W d nm hnm k hk63 al m cl fs hfs hfb hm40 HG HV0
        clear hfs hri hnm hk63 hxt hfb hkb htq hcu
        rw [show swPlays = Code.block 2 _ from rfl]
        have HPD0 := Lib.hid (HP.out.next hH.out (Below.refl _ _).drew)
        go_wp2_with fail
        refine wp_region_held_drew (S := (fun W' => Kin W W')) (by kernel_rfl) HPD0.out.kinw (fun hS => ?_)
        refine rgw 0 ⟨some 38, .move (.tmp 5), 24, _, _, none⟩ hS ?_
        refine rgw 1 ⟨some 39, .move (.tmp 1), 22, _, _, none⟩ hS ?_
        refine rgw 2 ⟨some 40, .move (.tmp 7), 3, _, _, none⟩ hS ?_
        refine rgw 3 ⟨some 41, .indexAddr 22 (.tmp 39) (.tmp 40), 0, _, _, none⟩ hS ?_
        refine rgw 4 ⟨some 42, .fieldAddr 40 (.tmp 41) 1, 0, _, _, none⟩ hS ?_
        refine rgw 5 ⟨some 43, .load 9 (.tmp 42), 9, _, _, none⟩ hS ?_ (hy := by intro w hSw; (try dsimp only at hSw); have z := HCX.out.kin hSw; have x1 := z.name; have x2 := z.n; have x10 := z.data; have x11 := z.keep; have x12 := z.torn; have x13 := z.cut; simp only at x1 x2 x10 x11 x12 x13; go_simp; try with_reducible rfl)
        refine rgw 6 ⟨some 44, .move (.tmp 1), 22, _, _, none⟩ hS ?_
        refine rgw 7 ⟨some 45, .move (.tmp 7), 3, _, _, none⟩ hS ?_
        refine rgw 8 ⟨some 46, .indexAddr 22 (.tmp 44) (.tmp 45), 0, _, _, none⟩ hS ?_
        refine rgw 9 ⟨some 47, .fieldAddr 40 (.tmp 46) 2, 0, _, _, none⟩ hS ?_
        refine rgw 10 ⟨some 48, .load 3 (.tmp 47), 3, _, _, none⟩ hS ?_ (hy := by intro w hSw; (try dsimp only at hSw); have z := HCX.out.kin hSw; have x1 := z.name; have x2 := z.n; have x10 := z.data; have x11 := z.keep; have x12 := z.torn; have x13 := z.cut; simp only at x1 x2 x10 x11 x12 x13; go_simp; try with_reducible rfl)
        refine rgw 11 ⟨some 49, .move (.tmp 1), 22, _, _, none⟩ hS ?_
        refine rgw 12 ⟨some 50, .move (.tmp 7), 3, _, _, none⟩ hS ?_
        refine rgw 13 ⟨some 51, .indexAddr 22 (.tmp 49) (.tmp 50), 0, _, _, none⟩ hS ?_
        refine rgw 14 ⟨some 52, .fieldAddr 40 (.tmp 51) 4, 0, _, _, none⟩ hS ?_
        refine rgw 15 ⟨some 53, .load 35 (.tmp 52), 35, _, _, none⟩ hS ?_ (hy := by intro w hSw; (try dsimp only at hSw); have z := HCX.out.kin hSw; have x1 := z.name; have x2 := z.n; have x10 := z.data; have x11 := z.keep; have x12 := z.torn; have x13 := z.cut; simp only at x1 x2 x10 x11 x12 x13; go_simp; try with_reducible rfl)
        refine rg_one 16 ⟨some 54, .call { callee := .value (.func 19), args := #[.tmp 38, .tmp 43, .tmp 48, .tmp 53], argTypes := #[24, 9, 3, 35] }, 41, _, _, none⟩ (by kernel_rfl) rfl (fun K hK => ?_)
        go_simp
        go_at_call 19; (with_reducible refine (HPR.out _ _ _ HPD0.out.dk HPD0.out.ex).mono ?_); rintro e w1 ⟨F1, rfl, hk1, hx1⟩; have HP1 := Lib.hid (HPD0.out.prog hH.out hk1 hx1); clear hk1 hx1; have hN := HP1.out.kinw
        refine hK.out _ _ ?_ (fun hS1 => ?_)
        · (first | exact hN | exact hS)
        clear hK K hS; have hS := hS1; clear hS1
        (try simp only [rgp])
        refine rgw 17 ⟨some 8, .assign (.tmp 54), 41, _, _, none⟩ hS ?_
        refine wpAnyH_done (by kernel_rfl) ?_ _
        clear hS hN
        go_wp2_with fail
        have HPD := Lib.hid (HP1.out.next hH.out (Below.refl _ _).drew)
        refine wp_region_held_drew (S := (fun W' => Kin W W')) (by kernel_rfl) HPD.out.kinw (fun hS => ?_)
        refine rgw 1 ⟨some 57, .move (.tmp 1), 22, _, _, none⟩ hS ?_
        refine rgw 2 ⟨some 58, .move (.tmp 7), 3, _, _, none⟩ hS ?_
        refine rgw 3 ⟨some 59, .indexAddr 22 (.tmp 57) (.tmp 58), 0, _, _, none⟩ hS ?_
        refine rgw 4 ⟨some 60, .fieldAddr 40 (.tmp 59) 1, 0, _, _, none⟩ hS ?_
        refine rgw 5 ⟨some 61, .load 9 (.tmp 60), 9, _, _, none⟩ hS ?_ (hy := by intro w hSw; (try dsimp only at hSw); have z := HCX.out.kin hSw; have x1 := z.name; have x2 := z.n; have x10 := z.data; have x11 := z.keep; have x12 := z.torn; have x13 := z.cut; simp only at x1 x2 x10 x11 x12 x13; go_simp; try with_reducible rfl)
        refine rgw 6 ⟨some 62, .move (.tmp 1), 22, _, _, none⟩ hS ?_
        refine rgw 7 ⟨some 63, .move (.tmp 7), 3, _, _, none⟩ hS ?_
        refine rgw 8 ⟨some 64, .indexAddr 22 (.tmp 62) (.tmp 63), 0, _, _, none⟩ hS ?_
        refine rgw 9 ⟨some 65, .fieldAddr 40 (.tmp 64) 2, 0, _, _, none⟩ hS ?_
        refine rgw 10 ⟨some 66, .load 3 (.tmp 65), 3, _, _, none⟩ hS ?_ (hy := by intro w hSw; (try dsimp only at hSw); have z := HCX.out.kin hSw; have x1 := z.name; have x2 := z.n; have x10 := z.data; have x11 := z.keep; have x12 := z.torn; have x13 := z.cut; simp only at x1 x2 x10 x11 x12 x13; go_simp; try with_reducible rfl)
        refine rgw 11 ⟨some 67, .move (.tmp 1), 22, _, _, none⟩ hS ?_
        refine rgw 12 ⟨some 68, .move (.tmp 7), 3, _, _, none⟩ hS ?_
        refine rgw 13 ⟨some 69, .indexAddr 22 (.tmp 67) (.tmp 68), 0, _, _, none⟩ hS ?_
        refine rgw 14 ⟨some 70, .fieldAddr 40 (.tmp 69) 4, 0, _, _, none⟩ hS ?_
        refine rgw 15 ⟨some 71, .load 35 (.tmp 70), 35, _, _, none⟩ hS ?_ (hy := by intro w hSw; (try dsimp only at hSw); have z := HCX.out.kin hSw; have x1 := z.name; have x2 := z.n; have x10 := z.data; have x11 := z.keep; have x12 := z.torn; have x13 := z.cut; simp only at x1 x2 x10 x11 x12 x13; go_simp; try with_reducible rfl)
        refine rg_one 0 ⟨some 56, .load 28 (.tmp 6), 28, _, _, none⟩ (by kernel_rfl) rfl (fun K hK => ?_)
        rw [if_pos (by rfl)]; refine wp_load_row 28 (.tmp 6) rfl g rfl _ cs (0, 0) _ HPD.out.db.1 Tryz.underlying28 rfl HPD.out.db.info ?_
        refine hK.out _ _ ?_ (fun hS1 => ?_)
        · (first | exact hN | exact hS | exact hS.trans (Kin.below hb))
        clear hK K hS; have hS := hS1; clear hS1
        (try simp only [rgp])
        refine rg_one 16 ⟨some 72, .call { callee := .value (.func 20), args := #[.tmp 56, .tmp 61, .tmp 66, .tmp 71], argTypes := #[28, 9, 3, 35] }, 43, _, _, none⟩ (by kernel_rfl) rfl (fun K hK => ?_)
        go_simp
        (go_at_call 20; (with_reducible refine (HRF.out _ _ _ HPD.out.foot HPD.out.rd HPD.out.exm).mono ?_); rintro e w2 ⟨v2, rfl, hr2, hb⟩; obtain ⟨cs2, rfl, h62, h12⟩ := hr2.cells; have HP2 := Lib.hid (HPD.out.next hH.out hb); have HR2 := Lib.hid hr2; have HC6 := Lib.hid h62; have HC1 := Lib.hid h12; have hN := HP2.out.kinw; clear hr2 h62 h12)
        refine hK.out _ _ ?_ (fun hS1 => ?_)
        · (first | exact hN | exact hS | exact hS.trans (Kin.below hb))
        clear hK K hS; have hS := hS1; clear hS1
        (try simp only [rgp])
        refine rgw 17 ⟨some 55, .move (.tmp 72), 43, _, _, none⟩ hS ?_
        refine rgw 18 ⟨some 73, .extract (.tmp 55) 0, 28, _, _, none⟩ hS ?_
        refine rgw 19 ⟨some 74, .extract (.tmp 55) 1, 41, _, _, none⟩ hS ?_
        refine rg_one 20 ⟨none, .store 28 (.tmp 6) (.tmp 73), 0, _, _, none⟩ (by kernel_rfl) rfl (fun K hK => ?_)
        rw [if_pos (by rfl)]; refine wp_store_row 28 (.tmp 6) (.tmp 73) rfl g cs2 rfl rfl _ cs HP2.out.db.1 (by rw [HC6.out]; exact disk_info) (by rw [HC6.out, H6.out]) HC1.out ?_; have HP3 := Lib.hid (HP2.out.put hH.out HR2.out HC6.out); (try clear hN); have hN := HP3.out.kinw
        refine hK.out _ _ ?_ (fun hS1 => ?_)
        · (first | exact hN | exact hS | exact hS.trans (Kin.below hb))
        clear hK K hS; have hS := hS1; clear hS1
        (try simp only [Act.put])
        refine rgw 21 ⟨some 9, .assign (.tmp 74), 41, _, _, none⟩ hS ?_
        refine wpAnyH_done (by kernel_rfl) ?_ _
        clear hS hN
        (try go_wp2_with fail)
        exact HQ.out er d' cs2 _ _ _ _ _ _ _ _ _ _ _ _ _ _ _ _ _ _ _ _ _ _ _ _ _ _ _ _ _ _ _ _ _ _ _ _ _ _ _ _ _ _ _ _ _ _ _ _ _ _ _ _ _ _ _ _ _ _ _ _ _ _ _ _ _ _ _ _ _ _ _ _ _ _ _ _ _ _ _ _ _ _ _ _ _ _ _ _ _ _ _ _ _ _ _ _ _ _ _ _ _ _ _ _ _ _ _ _ _ _ _ _ _ _ _ _ _ _ _ _ _ _ _ _ _ _ _ _ _ _ _ _ _ _ _ _ _ _ _ _ _ _ _ _ _ _ _ _ _ _ _ _ _ _ _ _ _ _ _ _ _ _ _ _ HP3 HG2 HC6 HC1
end Go.Proofs.YtpoiapfgbbmekaaGreatDoor
namespace Go.Proofs.YtpoiapfgbbmekaaGreatDoor
open Go Go.RowKit
set_option maxRecDepth 8000 in
set_option maxHeartbeats 8000000 in
theorem splays_walk {DK : World → Addr → (Nat → Bool) → AD → Prop} (H : DiskSays DK) (c : Int) (v : Value) (l : List SAct) (hc : I63 c) (W : World) (hl : SAS W v l) (hga : ∀ a ∈ l, GSA a) (hv0 : VT W) :
    Calls Tryz.prog 3 #[.int .i64 c, v] W fun e w' => e = .returned (.bool true) ∧ Below W.heap.size W w' := by
  have hH := Lib.hid H
  have HA := Lib.hid hl
  have HGA := Lib.hid hga
  have HC := Lib.hid hc
  have HV0 := Lib.hid hv0
  obtain ⟨a, cap, rfl, hc1, hc2, _⟩ := hl.form
  obtain ⟨n, hn⟩ : ∃ n, l.length = n := ⟨_, rfl⟩
  rw [hn] at HA hc1 ⊢
  have HN := Lib.hid hn
  clear hl hga hc hn hv0
  by_cases hfew : (30 : Int) < (n : Int)
  · go_enter Tryz.func3, Tryz.ntmps3
    go_wp2_with (first
      | (go_at_call 6; (with_reducible refine (sawake_any hH.out _ HV0.out).mono ?_); rintro e w1 ⟨rfl, hb⟩; have HB1 := Lib.hid hb; clear hb))
    go_ret
    exact ⟨rfl, HB1.out⟩
  go_enter Tryz.func3, Tryz.ntmps3
  go_wp2_with (first
    | (go_at_call 7; (with_reducible refine (hH.out.new c _ HC.out).mono ?_); rintro e w1 ⟨p, F1, rfl, hk1, hx1⟩; have HK1 := Lib.hid hk1; have HX1 := Lib.hid hx1; clear hk1 hx1)
    | (go_at_call 8; (with_reducible refine (newD_run c HC.out F1 _).mono ?_); rintro e w2 ⟨v2, rfl, hr2, hb2⟩; obtain ⟨cs2, rfl, h62, h12⟩ := hr2.cells; have HP2 := Lib.hid (PS.start hH.out (hH.out.below HK1.out hb2) (Good.new c HC.out) hr2 (HX1.out.trans (Ext.below hb2))); have H62 := Lib.hid h62; have H12 := Lib.hid h12; clear hr2 hb2 h62 h12)
    | (refine wpList_store_row rfl 28 _ _ rfl w2.heap.size cs2 rfl rfl _ dz HP2.out.db.1 (by rw [H62.out]; exact disk_info) (by rw [H62.out]; rfl) H12.out ?_; have HP3 := Lib.hid (HP2.out.store hH.out H62.out).pt))
  obtain ⟨g, hg⟩ : ∃ g, w2.heap.size = g := ⟨_, rfl⟩
  rw [hg] at HP3 ⊢
  have HG3 := Lib.hid (Good.new c HC.out)
  clear HP2 hg
  go_loopw [7] (fun iv wr => ∃ (i : Nat) (d : AD) (cs : Array Value) (F M : Nat → Bool), iv = .int .i64 i ∧ i ≤ n ∧ Hid (PT DK W p g d d cs F M wr) ∧ Hid (Good d) ∧ Hid (cs.size = 6) ∧ Hid (cs.all (·.oneCell') = true)) (fun iv _ => n - (intOf iv).toNat)
  case atStart => exact ⟨0, _, _, _, _, rfl, by omega, HP3, HG3, H62, H12⟩
  case round =>
    obtain ⟨i, d, cs, F, M, rfl, hi, HP, HG, H6, H1⟩ := hrel
    by_cases hlt : (i : Int) < (n : Int)
    · obtain ⟨x, hx⟩ : ∃ x, l[i]? = some x := row_some (by rw [HN.out]; omega)
      obtain ⟨b, off, al, cl, ak, ck, rfl, hsc, hfs, hri⟩ := HA.out.at_ i x hx
      have hgx := HGA.out x (List.mem_of_getElem? hx)
      have HGX := Lib.hid hgx
      have HSCW := Lib.hid hsc
      have HFS := Lib.hid hfs
      have HRI := Lib.hid hri
      have hkd := hgx.k0
      have hkk : x.kind.tmod 7 = 0 ∨ x.kind.tmod 7 = 1 ∨ x.kind.tmod 7 = 2 ∨ x.kind.tmod 7 = 3 ∨ x.kind.tmod 7 = 4 ∨ x.kind.tmod 7 = 5 ∨ x.kind.tmod 7 = 6 := by rw [Int.tmod_eq_emod_of_nonneg hkd]; omega
      have HSC := Lib.hid (hsc.kin HP.out.kinw)
      have y0 := HSC.out.kind
      have y10 := HSC.out.data
      clear hgx hx hkd hsc hfs hri
      by_cases h40 : (40 : Int) < (x.m : Int)
      · clear hkk
        go_wp2_with (first
          | (go_at_call 6; (with_reducible refine (sawake_any hH.out _ (HV0.out.ext HP.out.ex)).mono ?_); rintro e w1 ⟨rfl, hb⟩; have HB1 := Lib.hid (HP.out.ex.trans (Ext.below hb)).bel; clear hb))
        go_ret
        exact ⟨rfl, HB1.out⟩
      have hm40 : x.m ≤ 40 := by omega
      go_upto_block 2 with fail
      go_cut [8, 9, 37] (fun s8 s9 _ w' => ∃ (er : Int) (d' : AD) (cs2 : Array Value) (F2 M2 : Nat → Bool), s8 = .int .i64 er ∧ s9 = .int .i64 er ∧ Hid (PT DK W p g d' d' cs2 F2 M2 w') ∧ Hid (Good d') ∧ Hid (cs2.size = 6) ∧ Hid (cs2.all (·.oneCell') = true))
      case rest =>
        obtain ⟨er, d', cs2, F2, M2, rfl, rfl, HP3, HG2, HC6, HC1⟩ := hcut
        go_wp2_with (first
          | (refine wpl_load_dbG (by rfl) _ rfl g rfl cs2 HP3.out.db ?_)
          | (go_at_call 21; (with_reducible refine (ssame_any hH.out _ _ p _ d' HP3.out.dk HG2.out (HP3.out.rd.kin (unmask _ _)) (HV0.out.ext HP3.out.ex)).mono ?_); rintro e w4 ⟨rfl, hb⟩; have HP4 := Lib.hid (HP3.out.next hH.out hb); clear hb))
        exact ⟨⟨i + 1, d', cs2, _, _, by go_num, by omega, HP4, HG2, HC6, HC1⟩, by simp [intOf]; omega⟩
      case first =>
      rcases hkk with hk | hk | hk | hk | hk | hk | hk
      · refine wp_norm (splays_k0 hH.out W c b off n cap i g al cl ak ck p d cs F M wr x HSCW.out HFS.out HRI.out HGX.out hm40 HV0 HP HG H6 hlt hk _ _ _ _ _ _ _ _ _ _ _ _ _ _ _ _ _ _ _ _ _ _ _ _ _ _ _ _ _ _ _ _ _ _ _ _ _ _ _ _ _ _ _ _ _ _ _ _ _ _ _ _ _ _ _ _ _ _ _ _ _ _ _ _ _ _ _ _ _ _ _ _ _ _ _ _ _ _ _ _ _ _ _ _ _ _ _ _ _ _ _ _ _ _ _ _ _ _ _ _ _ _ _ _ _ _ _ _ _ _ _ _ _ _ _ _ _ _ _ _ _ _ _ _ _ _ _ _ _ _ _ _ _ _ _ _ _ _ _ _ _ _ _ _ _ _ _ _ _ _ _ _ _ _ _ _ _ _ _ _ _ _ _ _ _ _ _ _ _ _ _ _ _ _ _ _ _ _ _ _ _ _ _ _ _ _ _ _ _ _ _ _ _ _ _ _ _ _ _ _ _ (fun er d' cs2 F2 M2 _ _ _ _ _ _ _ _ _ _ _ _ _ _ _ _ _ _ _ _ _ _ _ _ _ _ _ _ _ _ _ _ _ _ _ _ _ _ _ _ _ _ _ _ _ _ _ _ _ _ _ _ _ _ _ _ _ _ _ _ _ _ _ _ _ _ _ _ _ _ _ _ _ _ _ _ _ _ _ _ _ _ _ _ _ _ _ _ _ _ _ _ _ _ _ _ _ _ _ _ _ _ _ _ _ _ _ _ _ _ _ _ _ _ _ _ _ _ _ _ _ _ _ _ _ _ _ _ _ _ _ _ _ _ _ _ _ _ _ _ _ _ _ _ _ _ _ _ _ _ _ _ _ _ _ _ _ _ _ _ _ w' HP3 HG2 HC6 HC1 => ?_))
        go_wp2_with fail
        go_meet
        case rel => exact ⟨er, d', cs2, _, _, rfl, rfl, HP3, HG2, HC6, HC1⟩
      · refine wp_norm (splays_k1 hH.out W c b off n cap i g al cl ak ck p d cs F M wr x HSCW.out HFS.out HRI.out HGX.out hm40 HV0 HP HG H6 hlt hk _ _ _ _ _ _ _ _ _ _ _ _ _ _ _ _ _ _ _ _ _ _ _ _ _ _ _ _ _ _ _ _ _ _ _ _ _ _ _ _ _ _ _ _ _ _ _ _ _ _ _ _ _ _ _ _ _ _ _ _ _ _ _ _ _ _ _ _ _ _ _ _ _ _ _ _ _ _ _ _ _ _ _ _ _ _ _ _ _ _ _ _ _ _ _ _ _ _ _ _ _ _ _ _ _ _ _ _ _ _ _ _ _ _ _ _ _ _ _ _ _ _ _ _ _ _ _ _ _ _ _ _ _ _ _ _ _ _ _ _ _ _ _ _ _ _ _ _ _ _ _ _ _ _ _ _ _ _ _ _ _ _ _ _ _ _ _ _ _ _ _ _ _ _ _ _ _ _ _ _ _ _ _ _ _ _ _ _ _ _ _ _ _ _ _ _ _ _ _ _ _ (fun er d' cs2 F2 M2 _ _ _ _ _ _ _ _ _ _ _ _ _ _ _ _ _ _ _ _ _ _ _ _ _ _ _ _ _ _ _ _ _ _ _ _ _ _ _ _ _ _ _ _ _ _ _ _ _ _ _ _ _ _ _ _ _ _ _ _ _ _ _ _ _ _ _ _ _ _ _ _ _ _ _ _ _ _ _ _ _ _ _ _ _ _ _ _ _ _ _ _ _ _ _ _ _ _ _ _ _ _ _ _ _ _ _ _ _ _ _ _ _ _ _ _ _ _ _ _ _ _ _ _ _ _ _ _ _ _ _ _ _ _ _ _ _ _ _ _ _ _ _ _ _ _ _ _ _ _ _ _ _ _ _ _ _ _ _ _ _ w' HP3 HG2 HC6 HC1 => ?_))
        go_wp2_with fail
        go_meet
        case rel => exact ⟨er, d', cs2, _, _, rfl, rfl, HP3, HG2, HC6, HC1⟩
      · refine wp_norm (splays_k2 hH.out W c b off n cap i g al cl ak ck p d cs F M wr x HSCW.out HFS.out HRI.out HGX.out hm40 HV0 HP HG H6 hlt hk _ _ _ _ _ _ _ _ _ _ _ _ _ _ _ _ _ _ _ _ _ _ _ _ _ _ _ _ _ _ _ _ _ _ _ _ _ _ _ _ _ _ _ _ _ _ _ _ _ _ _ _ _ _ _ _ _ _ _ _ _ _ _ _ _ _ _ _ _ _ _ _ _ _ _ _ _ _ _ _ _ _ _ _ _ _ _ _ _ _ _ _ _ _ _ _ _ _ _ _ _ _ _ _ _ _ _ _ _ _ _ _ _ _ _ _ _ _ _ _ _ _ _ _ _ _ _ _ _ _ _ _ _ _ _ _ _ _ _ _ _ _ _ _ _ _ _ _ _ _ _ _ _ _ _ _ _ _ _ _ _ _ _ _ _ _ _ _ _ _ _ _ _ _ _ _ _ _ _ _ _ _ _ _ _ _ _ _ _ _ _ _ _ _ _ _ _ _ _ _ _ (fun er d' cs2 F2 M2 _ _ _ _ _ _ _ _ _ _ _ _ _ _ _ _ _ _ _ _ _ _ _ _ _ _ _ _ _ _ _ _ _ _ _ _ _ _ _ _ _ _ _ _ _ _ _ _ _ _ _ _ _ _ _ _ _ _ _ _ _ _ _ _ _ _ _ _ _ _ _ _ _ _ _ _ _ _ _ _ _ _ _ _ _ _ _ _ _ _ _ _ _ _ _ _ _ _ _ _ _ _ _ _ _ _ _ _ _ _ _ _ _ _ _ _ _ _ _ _ _ _ _ _ _ _ _ _ _ _ _ _ _ _ _ _ _ _ _ _ _ _ _ _ _ _ _ _ _ _ _ _ _ _ _ _ _ _ _ _ _ w' HP3 HG2 HC6 HC1 => ?_))
        go_wp2_with fail
        go_meet
        case rel => exact ⟨er, d', cs2, _, _, rfl, rfl, HP3, HG2, HC6, HC1⟩
      · refine wp_norm (splays_k3 hH.out W c b off n cap i g al cl ak ck p d cs F M wr x HSCW.out HFS.out HRI.out HGX.out hm40 HV0 HP HG H6 hlt hk _ _ _ _ _ _ _ _ _ _ _ _ _ _ _ _ _ _ _ _ _ _ _ _ _ _ _ _ _ _ _ _ _ _ _ _ _ _ _ _ _ _ _ _ _ _ _ _ _ _ _ _ _ _ _ _ _ _ _ _ _ _ _ _ _ _ _ _ _ _ _ _ _ _ _ _ _ _ _ _ _ _ _ _ _ _ _ _ _ _ _ _ _ _ _ _ _ _ _ _ _ _ _ _ _ _ _ _ _ _ _ _ _ _ _ _ _ _ _ _ _ _ _ _ _ _ _ _ _ _ _ _ _ _ _ _ _ _ _ _ _ _ _ _ _ _ _ _ _ _ _ _ _ _ _ _ _ _ _ _ _ _ _ _ _ _ _ _ _ _ _ _ _ _ _ _ _ _ _ _ _ _ _ _ _ _ _ _ _ _ _ _ _ _ _ _ _ _ _ _ _ (fun er d' cs2 F2 M2 _ _ _ _ _ _ _ _ _ _ _ _ _ _ _ _ _ _ _ _ _ _ _ _ _ _ _ _ _ _ _ _ _ _ _ _ _ _ _ _ _ _ _ _ _ _ _ _ _ _ _ _ _ _ _ _ _ _ _ _ _ _ _ _ _ _ _ _ _ _ _ _ _ _ _ _ _ _ _ _ _ _ _ _ _ _ _ _ _ _ _ _ _ _ _ _ _ _ _ _ _ _ _ _ _ _ _ _ _ _ _ _ _ _ _ _ _ _ _ _ _ _ _ _ _ _ _ _ _ _ _ _ _ _ _ _ _ _ _ _ _ _ _ _ _ _ _ _ _ _ _ _ _ _ _ _ _ _ _ _ _ w' HP3 HG2 HC6 HC1 => ?_))
        go_wp2_with fail
        go_meet
        case rel => exact ⟨er, d', cs2, _, _, rfl, rfl, HP3, HG2, HC6, HC1⟩
      · refine wp_norm (splays_k4 hH.out W c b off n cap i g al cl ak ck p d cs F M wr x HSCW.out HFS.out HRI.out HGX.out hm40 HV0 HP HG H6 hlt hk _ _ _ _ _ _ _ _ _ _ _ _ _ _ _ _ _ _ _ _ _ _ _ _ _ _ _ _ _ _ _ _ _ _ _ _ _ _ _ _ _ _ _ _ _ _ _ _ _ _ _ _ _ _ _ _ _ _ _ _ _ _ _ _ _ _ _ _ _ _ _ _ _ _ _ _ _ _ _ _ _ _ _ _ _ _ _ _ _ _ _ _ _ _ _ _ _ _ _ _ _ _ _ _ _ _ _ _ _ _ _ _ _ _ _ _ _ _ _ _ _ _ _ _ _ _ _ _ _ _ _ _ _ _ _ _ _ _ _ _ _ _ _ _ _ _ _ _ _ _ _ _ _ _ _ _ _ _ _ _ _ _ _ _ _ _ _ _ _ _ _ _ _ _ _ _ _ _ _ _ _ _ _ _ _ _ _ _ _ _ _ _ _ _ _ _ _ _ _ _ _ (fun er d' cs2 F2 M2 _ _ _ _ _ _ _ _ _ _ _ _ _ _ _ _ _ _ _ _ _ _ _ _ _ _ _ _ _ _ _ _ _ _ _ _ _ _ _ _ _ _ _ _ _ _ _ _ _ _ _ _ _ _ _ _ _ _ _ _ _ _ _ _ _ _ _ _ _ _ _ _ _ _ _ _ _ _ _ _ _ _ _ _ _ _ _ _ _ _ _ _ _ _ _ _ _ _ _ _ _ _ _ _ _ _ _ _ _ _ _ _ _ _ _ _ _ _ _ _ _ _ _ _ _ _ _ _ _ _ _ _ _ _ _ _ _ _ _ _ _ _ _ _ _ _ _ _ _ _ _ _ _ _ _ _ _ _ _ _ _ w' HP3 HG2 HC6 HC1 => ?_))
        go_wp2_with fail
        go_meet
        case rel => exact ⟨er, d', cs2, _, _, rfl, rfl, HP3, HG2, HC6, HC1⟩
      · refine wp_norm (splays_k5 hH.out W c b off n cap i g al cl ak ck p d cs F M wr x HSCW.out HFS.out HRI.out HGX.out hm40 HV0 HP HG H6 hlt hk _ _ _ _ _ _ _ _ _ _ _ _ _ _ _ _ _ _ _ _ _ _ _ _ _ _ _ _ _ _ _ _ _ _ _ _ _ _ _ _ _ _ _ _ _ _ _ _ _ _ _ _ _ _ _ _ _ _ _ _ _ _ _ _ _ _ _ _ _ _ _ _ _ _ _ _ _ _ _ _ _ _ _ _ _ _ _ _ _ _ _ _ _ _ _ _ _ _ _ _ _ _ _ _ _ _ _ _ _ _ _ _ _ _ _ _ _ _ _ _ _ _ _ _ _ _ _ _ _ _ _ _ _ _ _ _ _ _ _ _ _ _ _ _ _ _ _ _ _ _ _ _ _ _ _ _ _ _ _ _ _ _ _ _ _ _ _ _ _ _ _ _ _ _ _ _ _ _ _ _ _ _ _ _ _ _ _ _ _ _ _ _ _ _ _ _ _ _ _ _ _ (fun er d' cs2 F2 M2 _ _ _ _ _ _ _ _ _ _ _ _ _ _ _ _ _ _ _ _ _ _ _ _ _ _ _ _ _ _ _ _ _ _ _ _ _ _ _ _ _ _ _ _ _ _ _ _ _ _ _ _ _ _ _ _ _ _ _ _ _ _ _ _ _ _ _ _ _ _ _ _ _ _ _ _ _ _ _ _ _ _ _ _ _ _ _ _ _ _ _ _ _ _ _ _ _ _ _ _ _ _ _ _ _ _ _ _ _ _ _ _ _ _ _ _ _ _ _ _ _ _ _ _ _ _ _ _ _ _ _ _ _ _ _ _ _ _ _ _ _ _ _ _ _ _ _ _ _ _ _ _ _ _ _ _ _ _ _ _ _ w' HP3 HG2 HC6 HC1 => ?_))
        go_wp2_with fail
        go_meet
        case rel => exact ⟨er, d', cs2, _, _, rfl, rfl, HP3, HG2, HC6, HC1⟩
      · refine wp_norm (splays_k6 hH.out W c b off n cap i g al cl ak ck p d cs F M wr x HSCW.out HFS.out HRI.out HGX.out hm40 HV0 HP HG H6 hlt hk _ _ _ _ _ _ _ _ _ _ _ _ _ _ _ _ _ _ _ _ _ _ _ _ _ _ _ _ _ _ _ _ _ _ _ _ _ _ _ _ _ _ _ _ _ _ _ _ _ _ _ _ _ _ _ _ _ _ _ _ _ _ _ _ _ _ _ _ _ _ _ _ _ _ _ _ _ _ _ _ _ _ _ _ _ _ _ _ _ _ _ _ _ _ _ _ _ _ _ _ _ _ _ _ _ _ _ _ _ _ _ _ _ _ _ _ _ _ _ _ _ _ _ _ _ _ _ _ _ _ _ _ _ _ _ _ _ _ _ _ _ _ _ _ _ _ _ _ _ _ _ _ _ _ _ _ _ _ _ _ _ _ _ _ _ _ _ _ _ _ _ _ _ _ _ _ _ _ _ _ _ _ _ _ _ _ _ _ _ _ _ _ _ _ _ _ _ _ _ _ _ (fun er d' cs2 F2 M2 _ _ _ _ _ _ _ _ _ _ _ _ _ _ _ _ _ _ _ _ _ _ _ _ _ _ _ _ _ _ _ _ _ _ _ _ _ _ _ _ _ _ _ _ _ _ _ _ _ _ _ _ _ _ _ _ _ _ _ _ _ _ _ _ _ _ _ _ _ _ _ _ _ _ _ _ _ _ _ _ _ _ _ _ _ _ _ _ _ _ _ _ _ _ _ _ _ _ _ _ _ _ _ _ _ _ _ _ _ _ _ _ _ _ _ _ _ _ _ _ _ _ _ _ _ _ _ _ _ _ _ _ _ _ _ _ _ _ _ _ _ _ _ _ _ _ _ _ _ _ _ _ _ _ _ _ _ _ _ _ _ w' HP3 HG2 HC6 HC1 => ?_))
        go_wp2_with fail
        go_meet
        case rel => exact ⟨er, d', cs2, _, _, rfl, rfl, HP3, HG2, HC6, HC1⟩
    · have hq : i = n := by omega
      subst hq
      go_wp2_with (first
        | (go_at_call 6; (with_reducible refine (sawake_any hH.out _ (HV0.out.ext HP.out.ex)).mono ?_); rintro e w1 ⟨rfl, hb⟩; have HB1 := Lib.hid (HP.out.ex.trans (Ext.below hb)).bel; clear hb))
      go_ret
      exact ⟨rfl, HB1.out⟩
end Go.Proofs.YtpoiapfgbbmekaaGreatDoor
