/-
  TEXTS JOINED: ImgRefA, Appw, PlanRef, PlanRefWh, ImgSecF, ImgRefL, Appv. Each one's own words stand at its head.
-/
import Derived.Test.YtgegbpnmfpjdmaaGreatDoorJ16
import Derived.Test.YtgegbpnmfpjdmaaGreatDoorJ17
import Derived.Test.YtgegbpnmfpjdmaaGreatDoorJ15
import Derived.Test.YtgegbpnmfpjdmaaGreatDoorJ20
import Derived.Test.YtgegbpnmfpjdmaaGreatDoorJ1
import Derived.Test.YtgegbpnmfpjdmaaGreatDoorJ13
import Derived.Test.YtgegbpnmfpjdmaaGreatDoorJ3
import Derived.Test.YtgegbpnmfpjdmaaGreatDoorJ12
namespace Go.Proofs.YtgegbpnmfpjdmaaGreatDoor
open Go.RowKit
theorem pad_next (bs : List Int) (i : Nat) (h8 : i < 832) (hb : i < bs.length) : (splice z832 0 (bs.take i)).set i (bs.getD i 0) = splice z832 0 (bs.take (i + 1)) := by
  have h := splice_set z832 (bs.take 832) 0 i (by rw [List.length_take]; omega) (by rw [z832_len, List.length_take]; omega)
  rw [Nat.zero_add, List.take_take, List.take_take, Nat.min_eq_left (by omega), Nat.min_eq_left (by omega)] at h
  rw [← h]
  congr 1
  simp [List.getD, h8]
theorem pad_len (bs : List Int) (i : Nat) (h8 : i ≤ 832) : (splice z832 0 (bs.take i)).length = 832 := by
  rw [splice_len _ _ _ (by rw [z832_len, List.length_take]; omega), z832_len]
theorem pad_end (bs : List Int) (i : Nat) (hb : i ≤ bs.length) (h : i = 832 ∨ (i ≤ 832 ∧ i = bs.length)) : splice z832 0 (bs.take i) = pad8 bs := by
  unfold pad8
  rcases h with rfl | ⟨h1, h2⟩
  · rfl
  · rw [List.take_of_length_le (by omega), List.take_of_length_le (by omega)]
set_option maxRecDepth 8000 in
set_option maxHeartbeats 2000000 in
theorem radd_no (ep x : Int) (hx : I63 x) (bv : Value) (da : Option Addr) (n dc : Nat) (hn : (n : Int) ≤ 9223372036854775807) (w : World) (hfit : fitI x n = false) :
    Calls Tryz.prog 76 #[.int .u64 ep, bv, .int .i64 x, .slice da n dc] w fun e w' => e = .returned (.tuple #[.slice none 0 0, .int .i64 0, .bool false]) ∧ Below w.heap.size w w' := by
  have HC : Hid (∀ w, Calls Tryz.prog 12 #[.int .i64 x, .int .i64 (n : Int)] w fun e w' => ∃ v, e = .returned (.tuple #[v, .int .i64 0, .bool false]) ∧ Below w.heap.size w w') := Lib.hid fun w =>
    (rcut_any x n hx (by unfold I63; omega) w).mono fun e w' ⟨v, he, _, hb⟩ => by
      rw [(told_no hfit).2, hfit] at he
      exact ⟨v, he, hb⟩
  clear hx hfit
  go_enter Tryz.func76, Tryz.ntmps76
  go_wp2_with (first
    | (go_at_call 12; (with_reducible refine (HC.out _).mono ?_); rintro e w1 ⟨v1, rfl, hb⟩; have HB1 := Lib.hid hb; clear hb))
  go_ret3
  exact ⟨rfl, HB1.out⟩
set_option maxRecDepth 8000 in
set_option maxHeartbeats 8000000 in
theorem radd_fit (ep x : Int) (hx : I63 x) (hep : U64 ep) (bv : Value) (bn : Nat) (bs : List Int) (dv : Value) (n : Nat) (zs : List Int) (hzb : isB zs) (w : World) (hbr : RI .u8 w bv bn bs) (hri : RI .u8 w dv n zs) (hfit : fitI x n = true) :
    Calls Tryz.prog 76 #[.int .u64 ep, bv, .int .i64 x, dv] w fun e w' => ∃ g, e = .returned (.tuple #[.slice (some ⟨g, 0, none⟩) 832 832, .int .i64 (endI x n : Nat), .bool true]) ∧
      YB w' g (layR (ep % 4294967296) (pad8 bs) x zs) ∧ w.heap.size ≤ g ∧ Below w.heap.size w w' := by
  have hzl := hri.length
  have hbl := hbr.length
  have hnl := hri.le
  have hbnl := hbr.le
  obtain ⟨da, dc, rfl, _, hdc, hdm, _⟩ := id hri
  obtain ⟨ba, bc, rfl, _⟩ := id hbr
  have HC : Hid (∀ w, Calls Tryz.prog 12 #[.int .i64 x, .int .i64 (n : Int)] w fun e w' => ∃ v, e = .returned (.tuple #[v, .int .i64 (endI x n : Int), .bool true]) ∧ w'.ownsRow w.heap.size 83 4 v (pcsI x n).length (pF (pcsI x n)) ∧ Below w.heap.size w w') := Lib.hid fun w => by
    have := rcut_any x n hx (by unfold I63; omega) w
    rwa [hfit] at this
  obtain ⟨e32, he⟩ : ∃ e32, ep % 4294967296 = e32 := ⟨_, rfl⟩
  have he0 : 0 ≤ e32 ∧ e32 ≤ 4294967295 := by omega
  have hw32 : IntKind.u32.wrap e32 = e32 := by rw [u32_wrap]; omega
  have hep2 : 0 ≤ ep ∧ ep ≤ 18446744073709551615 := hep
  have htm : ep.tmod 4294967296 = e32 := by rw [Int.tmod_eq_emod_of_nonneg hep2.1]; exact he
  have HPF : Hid (∀ (i : Nat) (c : PC), (pcsI x n)[i]? = some c → ∃ q l k, PcFit (nr x) n c q l k) := Lib.hid fun i c h => by
    obtain ⟨m, q, l, k, hm, hf⟩ := pc_fit h
    obtain rfl : n = m := by omega
    exact ⟨q, l, k, hf⟩
  have HLN : Hid (∀ i, (layP e32 zs (pad8 bs) ((pcsI x n).take i)).length = 832) := Lib.hid fun i => by rw [← hzl]; exact layP_len (pad8_len bs) i
  have HLR : Hid (layP e32 zs (pad8 bs) (pcsI x n) = layR e32 (pad8 bs) x zs) := Lib.hid (by unfold layR; rw [hzl])
  rw [he]
  generalize layR e32 (pad8 bs) x zs = out at *
  have hpl := pcs_len x n
  generalize pcsI x n = ps at *
  generalize endI x n = en at *
  obtain ⟨m, hm⟩ : ∃ m, ps.length = m := ⟨_, rfl⟩
  rw [hm] at HC hpl
  have HM := Lib.hid hm
  have HZB := Lib.hid hzb
  have HZL := Lib.hid hzl
  have HBL := Lib.hid hbl
  have HRI := Lib.hid hri
  have HBR := Lib.hid hbr
  have HDC := Lib.hid hdc
  clear hx hep hzb hbr hri hfit hzl hbl hm hdc
  go_enter Tryz.func76, Tryz.ntmps76
  go_wp2_with (first
    | (go_at_call 12; (with_reducible refine (HC.out _).mono ?_); rintro e w1 ⟨v1, rfl, ho, hb⟩; obtain ⟨a1, c1, rfl⟩ := own_form ho; have HO1 := Lib.hid ho; have HB1 := Lib.hid hb; clear ho hb)
    | (refine wpl_mk_yb rfl _ _ rfl 832 rfl rfl (by omega) ?_; intro g w2 HY2 HG2 HB2; have HO2 := Lib.hid (own_keep HO1.out HB2.out); have HB2 := Lib.hid (bch HB1.out HB2.out)))
  have HGW : Hid (w.heap.size ≤ g ∧ w1.heap.size ≤ g) := Lib.hid (by have := HG2.out; have := HB1.out.size; omega)
  have HBW : Hid (∀ w', w2.grownBy w' (some g) → Below w.heap.size w w') := Lib.hid fun w' h => below_grown HB2.out h HGW.out.1 HB2.out.size
  have HPS : Hid (∀ w', w2.grownBy w' (some g) → PS w' (.slice a1 m c1) ps) := Lib.hid fun w' h => PS.over (by rw [HM.out]; exact HO2.out) h (fun q hq e => by have := (HO1.out.lt q hq).2; have := HGW.out.2; omega)
  clear HC HO1 HB1 HO2 HB2 HG2
  go_wp2
  go_loopw [15] (fun iv wr => ∃ i : Nat, iv = .int .i64 (i : Int) ∧ i ≤ 832 ∧ i ≤ bn ∧ Hid (w2.grownBy wr (some g)) ∧ Hid (YB wr g (splice z832 0 (bs.take i)))) (fun iv _ => 832 - (intOf iv).toNat)
  case atStart => exact ⟨0, rfl, by omega, by omega, Lib.hid (grown_refl _ _), Lib.hid (by simpa [splice, z832] using HY2.out)⟩
  case round =>
    obtain ⟨i, rfl, hi8, hib, HG, HY⟩ := hrel
    by_cases hlt : (i : Int) < 832 ∧ (i : Int) < (bn : Int)
    · obtain ⟨hl1, hl2⟩ := hlt
      have HSP := Lib.hid (pad_next bs i (by omega) (by rw [HBL.out]; omega))
      have HPL := Lib.hid (pad_len bs i (by omega))
      obtain ⟨b, off, rfl, hcell⟩ := (HBR.out.keep (HBW.out wr HG.out)).at_ (by omega)
      have hc := hcell i (by omega)
      clear hcell
      go_wp2_with (first
        | (refine wpl_put_yb rfl _ _ rfl g i _ (bs.getD i 0) HY.out (by rw [HPL.out]; omega) rfl rfl ?_; intro w3 HY3 HG3; rw [HSP.out] at HY3; have HG3 := Lib.hid (grown_trans HG.out HG3.out)))
      go_roundw
      case rel => exact ⟨i + 1, by go_num, by omega, by omega, HG3, HY3⟩
      case measure => simp [intOf]; omega
    · have HY3 : Hid (YB wr g (pad8 bs)) := Lib.hid (by rw [← pad_end bs i (by rw [HBL.out]; exact hib) (by rw [HBL.out]; omega)]; exact HY.out)
      rcases (by omega : ¬ ((i : Int) < 832) ∨ ((i : Int) < 832 ∧ ¬ (i : Int) < (bn : Int))) with h1 | ⟨h1, h2⟩
      all_goals
        clear hlt HY
        go_wp2
        go_loopw [16] (fun iv wr => ∃ i : Nat, iv = .int .i64 (i : Int) ∧ i ≤ m ∧ Hid (w2.grownBy wr (some g)) ∧ Hid (YB wr g (layP e32 zs (pad8 bs) (ps.take i)))) (fun iv _ => m - (intOf iv).toNat)
        case atStart => exact ⟨0, rfl, by omega, HG, HY3⟩
        case round =>
          rename World => wo
          clear HY3 HG
          obtain ⟨i, rfl, him, HG, HY⟩ := hrel
          by_cases hlt : (i : Int) < (m : Int)
          · obtain ⟨c, hc⟩ : ∃ c, ps[i]? = some c := ⟨ps[i]'(by have := HM.out; omega), List.getElem?_eq_getElem _⟩
            obtain ⟨q, l, k, hpf⟩ := HPF.out i c hc
            obtain ⟨b2, o2, e2, r2⟩ := (HPS.out wo HG.out).at_ i c hc
            obtain rfl := e2
            have HC2 : Hid (∀ w', w2.grownBy w' (some g) → w'.cell? ⟨b2, o2 + i * 4, none⟩ = some (.int .i64 (q : Int)) ∧ w'.cell? ⟨b2, o2 + i * 4 + 1, none⟩ = some (.int .i64 c.kind) ∧ w'.cell? ⟨b2, o2 + i * 4 + 2, none⟩ = some (.int .i64 (l : Int)) ∧ w'.cell? ⟨b2, o2 + i * 4 + 3, none⟩ = some (.int .i64 ((l + k : Nat) : Int))) := Lib.hid fun w' hg => by
              obtain ⟨b3, o3, e3, r3⟩ := (HPS.out w' hg).at_ i c hc
              obtain ⟨rfl, rfl⟩ : b2 = b3 ∧ o2 = o3 := by simpa using e3
              obtain ⟨y0, y1, y2, y3⟩ := pc_cells r3
              rw [hpf.at_] at y0; rw [hpf.from_] at y2; rw [hpf.to] at y3
              exact ⟨y0, y1, y2, y3⟩
            obtain ⟨kd, hkd⟩ : ∃ kd, c.kind = kd := ⟨_, rfl⟩
            rw [hkd] at HC2
            have hdl : ((zs.drop l).take k).length = k := by rw [List.length_take, List.length_drop]; have := hpf.upto; have := HZL.out; omega
            have HPB : Hid (fragB kd e32 ((zs.drop l).take k) = pcB e32 zs c) := Lib.hid (by unfold pcB; rw [hpf.data, hkd])
            have HPL : Hid ((pcB e32 zs c).length = 11 + k) := Lib.hid (hpf.len e32 zs HZL.out)
            have HNX := Lib.hid (layP_next e32 zs (pad8 bs) ps i c hc)
            rw [hpf.at_, Int.toNat_natCast] at HNX
            have hok : fragOk kd k = true := decide_eq_true ⟨hkd ▸ hpf.k1, hkd ▸ hpf.k4, hpf.most⟩
            have hq : (q : Int) ≤ 821 := by have := hpf.room; omega
            have HQ : Hid (q + 11 + k ≤ 832) := Lib.hid hpf.room
            obtain ⟨h, hh⟩ : ∃ h, l + k = h := ⟨_, rfl⟩
            have HH := Lib.hid hh
            rw [hh] at HC2
            have hlu := hpf.upto
            rw [hh] at hlu
            have hln : (l : Int) ≤ h := by omega
            have hkl : (k : Int) ≤ 197 := by have := hpf.most; omega
            obtain ⟨dq, qc, hsl⟩ := sliced_form da l k dc 1
            have HRC : ∀ w', w2.grownBy w' (some g) → RI .u8 w' (.slice dq k qc) k ((zs.drop l).take k) := fun w' hg => by
              have := (HRI.out.keep (HBW.out w' hg)).cut l k dc (by omega) (by have := HDC.out; omega) (Nat.le_refl _)
              rwa [hsl] at this
            have HSL := Lib.hid hsl
            have HDC2 : Hid (l + k ≤ dc) := Lib.hid (by have := HDC.out; omega)
            have HE : Hid (∀ w', w2.grownBy w' (some g) → Calls Tryz.prog 103 #[.agg (fA kd e32 (.slice dq k qc))] w' fun r w'' => ∃ a c2, r = .returned (.slice a (11 + k) c2) ∧ w''.ownsRow w'.heap.size 5 1 (.slice a (11 + k) c2) (11 + k) (il .u8 (pcB e32 zs c)) ∧ Below w'.heap.size w' w'') := Lib.hid fun w' hg => by
              rw [← HPB.out]; exact rfbytes_any kd e32 (.slice dq k qc) k _ w' hok he0 (HRC w' hg) ((HZB.out.drop _).take _)
            clear hc hpf r2 hkd hdl HPB hok hh hsl HRC hlu
            go_wp2_with fail
            refine wp_region_held_drew (S := (fun w' => w2.grownBy w' (some g))) (by kernel_rfl) (grown_drew HG.out) (fun hS => ?_)
            refine rgw 0 ⟨some 53, .move (.tmp 11), 39, _, _, none⟩ hS ?_
            refine rgw 1 ⟨some 54, .move (.tmp 16), 3, _, _, none⟩ hS ?_
            refine rgw 2 ⟨some 55, .indexAddr 39 (.tmp 53) (.tmp 54), 0, _, _, none⟩ hS ?_
            refine rgw 3 ⟨some 56, .fieldAddr 83 (.tmp 55) 1, 0, _, _, none⟩ hS ?_
            refine rgw 4 ⟨some 57, .load 3 (.tmp 56), 3, _, _, none⟩ hS ?_ (hy := by intro w hSw; (try dsimp only at hSw); have z := (HC2.out w hSw).2.1; go_simp; try with_reducible rfl)
            refine rgw 5 ⟨some 58, .move (.tmp 0), 22, _, _, none⟩ hS ?_
            refine rgw 6 ⟨some 59, .binOp .rem 22 (.tmp 58) (.const (.int .u64 4294967296)) 22, 22, _, _, none⟩ hS ?_
            refine rgw 7 ⟨some 60, .convert 22 141 (.tmp 59), 141, _, _, none⟩ hS ?_
            refine rgw 8 ⟨some 61, .move (.tmp 3), 43, _, _, none⟩ hS ?_
            refine rgw 9 ⟨some 62, .move (.tmp 11), 39, _, _, none⟩ hS ?_
            refine rgw 10 ⟨some 63, .move (.tmp 16), 3, _, _, none⟩ hS ?_
            refine rgw 11 ⟨some 64, .indexAddr 39 (.tmp 62) (.tmp 63), 0, _, _, none⟩ hS ?_
            refine rgw 12 ⟨some 65, .fieldAddr 83 (.tmp 64) 2, 0, _, _, none⟩ hS ?_
            refine rgw 13 ⟨some 66, .load 3 (.tmp 65), 3, _, _, none⟩ hS ?_ (hy := by intro w hSw; (try dsimp only at hSw); have z := (HC2.out w hSw).2.2.1; go_simp; try with_reducible rfl)
            refine rgw 14 ⟨some 67, .move (.tmp 11), 39, _, _, none⟩ hS ?_
            refine rgw 15 ⟨some 68, .move (.tmp 16), 3, _, _, none⟩ hS ?_
            refine rgw 16 ⟨some 69, .indexAddr 39 (.tmp 67) (.tmp 68), 0, _, _, none⟩ hS ?_
            refine rgw 17 ⟨some 70, .fieldAddr 83 (.tmp 69) 3, 0, _, _, none⟩ hS ?_
            refine rgw 18 ⟨some 71, .load 3 (.tmp 70), 3, _, _, none⟩ hS ?_ (hy := by intro w hSw; (try dsimp only at hSw); have z := (HC2.out w hSw).2.2.2; go_simp; try with_reducible rfl)
            refine rgw 19 ⟨some 72, .slice 43 (.tmp 61) (some (.tmp 66)) (some (.tmp 71)) none, 43, _, _, none⟩ hS ?_ (v := .slice dq k qc) (hy := by intro w hSw; (try dsimp only at hSw); exact (exec_cut_lh (.tmp 61) (.tmp 66) (.tmp 71) rfl da n dc l k rfl rfl (by rw [HH.out]; rfl) HDC2.out).trans (by rw [HSL.out]))
            refine rgw 20 ⟨some 73, .build 143 #[(0, .tmp 57), (1, .tmp 60), (2, .tmp 72)], 143, _, _, none⟩ hS ?_ (v := .agg #[.int .i64 kd, .int .u32 e32, .slice dq k qc]) (hy := by intro w hSw; (try dsimp only at hSw); go_simp)
            refine rg_one 21 ⟨some 74, .call { callee := .value (.func 103), args := #[.tmp 73], argTypes := #[143] }, 43, _, _, none⟩ (by kernel_rfl) rfl (fun K hK => ?_)
            go_simp
            (go_at_call 103; (with_reducible refine (HE.out _ hS).mono ?_); rintro r w6 ⟨a6, c6, rfl, ho6, hb6⟩; have HO6 := Lib.hid ho6; have hN := grown_chain hS hb6; have HG6 := Lib.hid hN; have HY6 := Lib.hid ((HY.out.keep (Below.refl _ _).drew).keep hb6); clear ho6 hb6)
            refine hK.out _ _ ?_ (fun hS1 => ?_)
            · (exact hN)
            clear hK K hS; have hS := hS1; clear hS1
            (try simp only [rgp])
            refine rgw 22 ⟨some 17, .assign (.tmp 74), 43, _, _, none⟩ hS ?_
            refine wpAnyH_done (by kernel_rfl) ?_ _
            have HGB : Hid (g < wo.heap.size) := Lib.hid HY.out.lt
            have HOB : Hid (∀ w', w6.grownBy w' (some g) → RI .u8 w' (.slice a6 (11 + k) c6) (11 + k) (pcB e32 zs c)) := Lib.hid fun w' hg => RI.own (own_over HO6.out hg (fun q hq e => by have := (HO6.out.lt q hq).1; have := Option.some.inj e; have := HGB.out; simp at *; omega))
            have HC6 : Hid (∀ w', w6.grownBy w' (some g) → w'.cell? ⟨b2, o2 + i * 4, none⟩ = some (.int .i64 (q : Int))) := Lib.hid fun w' hg => (HC2.out w' (grown_trans HG6.out hg)).1
            clear hS hN HO6 HE HC2
            go_wp2
            go_loopw [18] (fun jv wr => ∃ j : Nat, jv = .int .i64 (j : Int) ∧ j ≤ 11 + k ∧ Hid (w6.grownBy wr (some g)) ∧ Hid (YB wr g (splice (layP e32 zs (pad8 bs) (ps.take i)) q ((pcB e32 zs c).take j)))) (fun jv _ => 11 + k - (intOf jv).toNat)
            case atStart => exact ⟨0, rfl, by omega, Lib.hid (grown_refl _ _), Lib.hid (by simpa [splice] using HY6.out)⟩
            case round =>
              rename World => wi
              obtain ⟨j, rfl, hjk, HGI, HYI⟩ := hrel
              by_cases hlj : (j : Int) < ((11 + k : Nat) : Int)
              · have HSP := Lib.hid (splice_set (layP e32 zs (pad8 bs) (ps.take i)) (pcB e32 zs c) q j (by rw [HPL.out]; omega) (by rw [HPL.out, HLN.out]; have := HQ.out; omega))
                have HLS : Hid ((splice (layP e32 zs (pad8 bs) (ps.take i)) q ((pcB e32 zs c).take j)).length = 832) := Lib.hid (by rw [splice_len _ _ _ (by rw [HLN.out, List.length_take, HPL.out]; have := HQ.out; omega), HLN.out])
                obtain ⟨b3, o3, rfl, hcell⟩ := (HOB.out wi HGI.out).at_ (by omega)
                have HCB : Hid (∀ w', w6.grownBy w' (some g) → w'.cell? ⟨b3, o3 + j, none⟩ = some (.int .u8 ((pcB e32 zs c).getD j 0))) := Lib.hid fun w' hg => by
                  obtain ⟨b4, o4, e4, hc4⟩ := (HOB.out w' hg).at_ (by omega)
                  obtain ⟨rfl, rfl⟩ : b3 = b4 ∧ o3 = o4 := by simpa using e4
                  exact hc4 j (by omega)
                clear hcell
                obtain ⟨p, hp⟩ : ∃ p, q + j = p := ⟨_, rfl⟩
                rw [hp] at HSP
                have hp8 : (p : Int) < 832 := by have := HQ.out; omega
                have hwr : IntKind.i64.wrap ((q : Int) + (j : Int)) = (p : Int) := by rw [← hp]; exact IntWalk.i64_in _ (by have := HQ.out; omega)
                clear hp
                go_wp2_with fail
                refine wp_region_held_drew (S := (fun w' => w6.grownBy w' (some g))) (by kernel_rfl) (grown_drew HGI.out) (fun hS => ?_)
                refine rgw 0 ⟨some 81, .move (.tmp 14), 43, _, _, none⟩ hS ?_
                refine rgw 1 ⟨some 82, .move (.tmp 11), 39, _, _, none⟩ hS ?_
                refine rgw 2 ⟨some 83, .move (.tmp 16), 3, _, _, none⟩ hS ?_
                refine rgw 3 ⟨some 84, .indexAddr 39 (.tmp 82) (.tmp 83), 0, _, _, none⟩ hS ?_
                refine rgw 4 ⟨some 85, .fieldAddr 83 (.tmp 84) 0, 0, _, _, none⟩ hS ?_
                refine rgw 5 ⟨some 86, .load 3 (.tmp 85), 3, _, _, none⟩ hS ?_ (hy := by intro w hSw; (try dsimp only at hSw); have z := HC6.out w hSw; go_simp; try with_reducible rfl)
                refine rgw 6 ⟨some 87, .move (.tmp 18), 3, _, _, none⟩ hS ?_
                refine rgw 7 ⟨some 88, .binOp .add 3 (.tmp 86) (.tmp 87) 3, 3, _, _, none⟩ hS ?_
                refine rgw 8 ⟨some 89, .move (.tmp 17), 43, _, _, none⟩ hS ?_
                refine rgw 9 ⟨some 90, .move (.tmp 18), 3, _, _, none⟩ hS ?_
                refine rgw 10 ⟨some 91, .indexAddr 43 (.tmp 89) (.tmp 90), 0, _, _, none⟩ hS ?_
                refine rgw 11 ⟨some 92, .load 5 (.tmp 91), 5, _, _, none⟩ hS ?_ (hy := by intro w hSw; (try dsimp only at hSw); have z := HCB.out w hSw; go_simp; try with_reducible rfl)
                refine rgw 12 ⟨some 93, .indexAddr 43 (.tmp 81) (.tmp 88), 0, _, _, none⟩ hS ?_
                refine rg_one 13 ⟨none, .store 5 (.tmp 93) (.tmp 92), 0, _, _, none⟩ (by kernel_rfl) rfl (fun K hK => ?_)
                rw [if_pos (by rfl)]; refine wp_put_yb _ _ rfl g p _ ((pcB e32 zs c).getD j 0) (HYI.out.keep (Below.refl _ _).drew) (by rw [HLS.out]; omega) rfl rfl ?_; intro w7 HY7 HG7; rw [HSP.out] at HY7; have hN := grown_trans (grown_drew HGI.out) HG7.out; have HG7 := Lib.hid hN
                refine hK.out _ _ ?_ (fun hS1 => ?_)
                · (exact hN)
                clear hK K hS; have hS := hS1; clear hS1
                (try simp only [Act.put])
                refine wpAnyH_done (by kernel_rfl) ?_ _
                go_wp2
                go_roundw
                case rel => exact ⟨j + 1, by go_num, by omega, HG7, HY7⟩
                case measure => simp [intOf]; omega
              · obtain rfl : j = 11 + k := by omega
                have HYE : Hid (YB wi g (layP e32 zs (pad8 bs) (ps.take (i + 1)))) := Lib.hid (by have := HYI.out; rw [List.take_of_length_le (l := pcB e32 zs c) (by rw [HPL.out]; omega), ← HNX.out] at this; exact this)
                have HGE := Lib.hid (grown_trans HG6.out HGI.out)
                go_wp2
                go_roundw
                case rel => exact ⟨i + 1, by go_num, by omega, HGE, HYE⟩
                case measure => simp [intOf]; omega
          · obtain rfl : i = m := by omega
            have HE : Hid (YB wo g out) := Lib.hid (by have := HY.out; rw [List.take_of_length_le (by rw [HM.out]; omega), HLR.out] at this; exact this)
            go_wp2
            go_ret3
            exact ⟨g, rfl, HE.out, HGW.out.1, HBW.out _ HG.out⟩
end Go.Proofs.YtgegbpnmfpjdmaaGreatDoor
namespace Go.Proofs.YtgegbpnmfpjdmaaGreatDoor
open Go.RowKit
section
variable {P : Program} {w : World} {ops : Array Oper} {rest : List Oper} {o : Oper} {a : Act} {Q : Exit → Act → World → Prop}
theorem wpl_appw (hgd : o.guard = none) (s x : Operand) (t : TypeId) (ho : o.op = .call { callee := .builtin .append, args := #[s, x], argTypes := #[t, t] })
    (e : TypeId) (k : IntKind) (bytes : Nat) (ht : P.underlying t = some (.slice e)) (hinfo : (P.info? e).map (fun i => (i.zero, i.size, i.bytes)) = some (some (.int k 0), 1, bytes))
    (base : Nat) (v : Value) (n : Nat) (xs : List Int) (hs : a.eval s = v) (hown : w.ownsRow base e 1 v n (il k xs))
    (v2 : Value) (m : Nat) (ys : List Int) (hx : a.eval x = v2) (hri : RI k w v2 m ys) (hbytes : ((n + m) + (n + m) / 4 + 192) * bytes ≤ 281474976710656) (h63 : n + m ≤ 9223372036854775807) (hbase : base ≤ w.heap.size)
    (h : ∀ v' w', Hid (w'.ownsRow base e 1 v' (n + m) (il k (xs ++ ys))) → Hid (w.grownBy w' v.ownBlock) → Hid (v'.ownBlock = v.ownBlock ∨ v'.ownBlock = some w.heap.size) → wpList P ops Q rest (a.put o.dst v') w') : wpList P ops Q (o :: rest) a w :=
  wpList_plain hgd fun _ hK => wp_appn s x t ho e k bytes ht hinfo base v n xs hs hown v2 m ys hx hri hbytes h63 hbase fun v' w' h1 h2 h3 => hK _ _ (h v' w' h1 h2 h3)
end
end Go.Proofs.YtgegbpnmfpjdmaaGreatDoor
namespace Go.Proofs.YtgegbpnmfpjdmaaGreatDoor
open Go.RowKit
set_option maxRecDepth 8000 in
set_option maxHeartbeats 1000000 in
theorem rsector_any (x : Int) (hx : U64 x) (v : Value) (len : Nat) (zs : List Int) (hlen : len ≤ 1000000) (i : Nat) (hi : i ≤ 1000) (w : World) (h : RI .u8 w v len zs) :
    Calls Tryz.prog 78 #[.int .u64 x, v, .int .i64 (i : Int)] w fun e w' => e = .returned (.agg (sv (sealed x (i : Int) (partB zs i)))) ∧ Below w.heap.size w w' := by
  obtain ⟨w0, hw0⟩ : ∃ w0, w.alloc (.cells (sv z64) 60) = w0 := ⟨_, rfl⟩
  have hb0 := below_alloc w (.cells (sv z64) 60)
  have hs0 := alloc_size w (.cells (sv z64) 60)
  have hk0 := Blk.new w z64 z64_length
  rw [hw0] at hb0 hs0 hk0
  have HK0 := Lib.hid hk0
  have HB0 := Lib.hid hb0
  have HS0 := Lib.hid hs0
  have HW := Lib.hid hw0
  have HZ := Lib.hid z64_cells
  have HR := Lib.hid (h.keep hb0)
  have HL := Lib.hid h.length
  obtain ⟨a, cap, rfl, _⟩ := id h
  obtain ⟨p, hp⟩ : ∃ p : Nat, 52 * i = p := ⟨_, rfl⟩
  obtain ⟨m, hm⟩ : ∃ m : Nat, min 52 (len - p) = m := ⟨_, rfl⟩
  have hpi : 52 * (i : Int) = (p : Int) := by omega
  obtain ⟨l, hl⟩ : ∃ l, sealed x (i : Int) (partB zs i) = l := ⟨_, rfl⟩
  have HPT : Hid ((zs.drop p).take m = partB zs i) := Lib.hid (by
    have hzl := HL.out
    unfold partB; rw [hp, ← hm]
    by_cases h1 : 52 ≤ len - p
    · rw [Nat.min_eq_left h1]
    · rw [Nat.min_eq_right (by omega), List.take_of_length_le (by simp; omega), List.take_of_length_le (by simp; omega)])
  have HSE : Hid (∀ (v : Value) (n : Nat) (w : World), RI .u8 w v n (partB zs i) → Calls Tryz.prog 104 #[.int .u64 x, .int .i64 (i : Int), v] w fun e w' => e = .returned (.agg (sv l)) ∧ Below w.heap.size w w') := fun v n w h => by
    rw [← hl]; exact rseal_any x i hx (by unfold I63; omega) v n _ w h
  have HLL := Lib.hid (show l.length = 64 from by rw [← hl]; exact sealed_length _ _ _)
  have hp2 : p ≤ 52000 := by omega
  have hm52 : m ≤ 52 := by omega
  have hml : m ≤ len - p := by omega
  have HM := Lib.hid hm
  rw [hl]
  clear hk0 hb0 hs0 hw0 h hx hl hm hp
  go_enter Tryz.func78, Tryz.ntmps78
  go_wp2
  rw [← HZ.out, HW.out]
  go_loopw [7, 8] (fun v iv wr => ∃ k : Nat, iv = .int .i64 ((p + k : Nat) : Int) ∧ k ≤ m ∧ Hid (wr.ownsRow w0.heap.size 5 1 v k (il .u8 ((zs.drop p).take k))) ∧ Hid (Below w0.heap.size w0 wr)) (fun _ iv _ => p + m - (intOf iv).toNat)
  case atStart => exact ⟨0, rfl, by omega, Lib.hid (World.ownsRow_nil _ _ _ _), Lib.hid (Below.refl _ _)⟩
  case round =>
    obtain ⟨k, rfl, hk, HO, HB⟩ := hrel
    obtain ⟨q, hq⟩ : ∃ q : Nat, p + k = q := ⟨_, rfl⟩
    rw [hq]
    by_cases hlt : k < m
    · have h1 : (q : Int) < (p : Int) + 52 := by omega
      have h2 : (q : Int) < (len : Int) := by omega
      obtain ⟨b, off, cp, e, _, _, hcell⟩ := (HR.out.keep HB.out).open_ (by omega)
      simp only [Value.slice.injEq, true_and] at e
      obtain ⟨rfl, rfl⟩ := e
      have hc1 := hcell q (by omega)
      obtain ⟨z, hz⟩ : ∃ z, zs.getD q 0 = z := ⟨_, rfl⟩
      rw [hz] at hc1
      have HT := Lib.hid (show (zs.drop p).take (k + 1) = (zs.drop p).take k ++ [z] from by
        have hzl := HL.out
        rw [← hz, List.take_add_one, List.getElem?_drop, hq, List.getElem?_eq_getElem (by omega)]
        simp [List.getD, List.getElem?_eq_getElem (show q < zs.length by omega)])
      have HQ := Lib.hid hq
      clear hz hcell hq
      go_wp2_with (first
        | (at_builtin; refine wpl_app1 rfl (.tmp 24) (.tmp 29) 43 rfl 5 .u8 1 Tryz.underlying43 Tryz.info_u8 w0.heap.size _ k ((zs.drop p).take k) rfl (HO.out.alloc _) ⟨wr.heap.size, 0, none⟩ z rfl (by simp) (by omega) (by omega) w0.heap.size w0 (HB.out.alloc HB.out.size _) (Nat.le_refl _) (by have := HB.out.size; simp; omega) ?_; intro v' w3 HO3 HB3))
      go_roundw
      case rel => exact ⟨k + 1, by rw [← Nat.add_assoc, HQ.out]; go_num, by omega, Lib.hid (by rw [HT.out]; exact HO3.out), HB3⟩
      case measure => simp [intOf]; have := HQ.out; omega
    · obtain rfl : k = m := by omega
      have HRP := Lib.hid (HPT.out ▸ RI.own HO.out)
      have HK1 := Lib.hid (HK0.out.keep HB.out)
      have HB1 := Lib.hid (bch HB0.out HB.out)
      by_cases h1 : (q : Int) < (p : Int) + 52
      · have h2 : ¬ (q : Int) < (len : Int) := by have := HM.out; omega
        go_wp2_with (first
          | (go_at_call 104; (refine (HSE.out _ _ _ HRP.out).mono ?_); rintro e w4 ⟨rfl, hb⟩; have HK4 := Lib.hid (HK1.out.keep hb); have HB4 := Lib.hid (bch HB1.out hb); clear hb)
          | (refine wpList_store_row rfl 60 _ _ rfl w.heap.size (sv l) rfl rfl _ (sv z64) HK4.out.1 (sv_info _ HLL.out) (by rw [sv_size, sv_size, HLL.out, z64_length]) (sv_one _) ?_))
        exact bodyPost_ret_by (v := .agg (sv l)) (results_cell_row rfl _ _ w.heap.size _ (sv l) (0, 0) _ rfl (HK4.out.row HLL.out).1 Tryz.underlying60 rfl (sv_info _ HLL.out)) rfl ⟨rfl, below_row HB4.out (Nat.le_refl _) _⟩
      · go_wp2_with (first
          | (go_at_call 104; (refine (HSE.out _ _ _ HRP.out).mono ?_); rintro e w4 ⟨rfl, hb⟩; have HK4 := Lib.hid (HK1.out.keep hb); have HB4 := Lib.hid (bch HB1.out hb); clear hb)
          | (refine wpList_store_row rfl 60 _ _ rfl w.heap.size (sv l) rfl rfl _ (sv z64) HK4.out.1 (sv_info _ HLL.out) (by rw [sv_size, sv_size, HLL.out, z64_length]) (sv_one _) ?_))
        exact bodyPost_ret_by (v := .agg (sv l)) (results_cell_row rfl _ _ w.heap.size _ (sv l) (0, 0) _ rfl (HK4.out.row HLL.out).1 Tryz.underlying60 rfl (sv_info _ HLL.out)) rfl ⟨rfl, below_row HB4.out (Nat.le_refl _) _⟩
end Go.Proofs.YtgegbpnmfpjdmaaGreatDoor
namespace Go.Proofs.YtgegbpnmfpjdmaaGreatDoor
open Go.RowKit
set_option maxRecDepth 8000 in
set_option maxHeartbeats 1000000 in
theorem rwhole_own (x : Int) (hx : U64 x) (v : Value) (len : Nat) (zs : List Int) (hlen : len ≤ 1000000) (t : Int) (ht : I63 t) (w : World) (h : RI .u8 w v len zs) :
    Calls Tryz.prog 43 #[.int .u64 x, v, .int .i64 t] w fun e w' => ∃ v', e = .returned v' ∧ w'.ownsRow w.heap.size 60 64 v' 16 (il .u8 (wholeK x zs (touchN 0 (nr t)).2 16)) ∧ Below w.heap.size w w' := by
  have h00 : nr 0 = 0 := by decide
  have HT : Hid (∀ w : World, Calls Tryz.prog 77 #[.int .i64 0, .int .i64 t] w fun e w' => e = .returned (.tuple #[.int .i64 ((touchN 0 (nr t)).1 : Int), .int .i64 ((touchN 0 (nr t)).2 : Int)]) ∧ w' = w) := fun w => by
    have := rtouch_any 0 t (by unfold I63; omega) ht w
    rwa [h00] at this
  obtain ⟨_, hb16, _⟩ := touch_le 0 (nr t) (nr_le t)
  generalize (touchN 0 (nr t)).2 = b at *
  generalize (touchN 0 (nr t)).1 = a at *
  have HR := Lib.hid h
  have HX := Lib.hid hx
  have HZ := Lib.hid z64_cells
  clear h hx ht h00
  go_enter Tryz.func43, Tryz.ntmps43
  go_wp2_with (first
    | (go_at_call 77; (with_reducible refine (HT.out _).mono ?_); rintro e w1 ⟨rfl, hw⟩; obtain rfl := hw.symm))
  go_loopw [9, 10] (fun v iv wr => ∃ k : Nat, iv = .int .i64 (k : Int) ∧ k ≤ 16 ∧ Hid (wr.ownsRow w.heap.size 60 64 v k (il .u8 (wholeK x zs b k))) ∧ Hid (Below w.heap.size w wr)) (fun _ iv _ => 16 - (intOf iv).toNat)
  case atStart => exact ⟨0, rfl, by omega, Lib.hid (World.ownsRow_nil _ _ _ _), Lib.hid (Below.refl _ _)⟩
  case round =>
    obtain ⟨k, rfl, hk, HO, HB⟩ := hrel
    by_cases hlt : (k : Int) < 16
    · by_cases hkb : (k : Int) < (b : Int)
      · obtain ⟨l, hl⟩ : ∃ l, sealed x (k : Int) (partB zs k) = l := ⟨_, rfl⟩
        have HLL := Lib.hid (show l.length = 64 from by rw [← hl]; exact sealed_length _ _ _)
        have HNX := Lib.hid (show wholeK x zs b k ++ l = wholeK x zs b (k + 1) from by rw [wholeK, hl, if_pos (by omega)])
        have HS : Hid (∀ (w : World), RI .u8 w v len zs → Calls Tryz.prog 78 #[.int .u64 x, v, .int .i64 (k : Int)] w fun e w' => e = .returned (.agg (sv l)) ∧ Below w.heap.size w w') := fun w h => by
          rw [← hl]; exact rsector_any x HX.out v len zs hlen k (by omega) w h
        have HR1 := Lib.hid (HR.out.keep HB.out)
        clear hl
        go_wp2_with (first
          | (go_at_call 78; (with_reducible refine (HS.out _ HR1.out).mono ?_); rintro e w3 ⟨rfl, hb⟩; have HO3 := Lib.hid (own_keep HO.out hb); have HB3 := Lib.hid (bch HB.out hb); clear hb)
          | (refine wpl_build_sec rfl _ rfl l HLL.out rfl ?_)
          | (at_builtin; refine wpl_app_sec rfl (.tmp 23) (.tmp 28) rfl w.heap.size _ k _ rfl (HO3.out.alloc _) w3.heap.size l rfl (Blk.new w3 l HLL.out) (by omega) w.heap.size w (HB3.out.alloc HB3.out.size _) (Nat.le_refl _) (by have := HB3.out.size; simp; omega) ?_; intro v' w4 HO4 HB4; have HO4 := Lib.hid (HNX.out ▸ HO4.out)))
        go_roundw
        case rel => exact ⟨k + 1, by go_num, by omega, HO4, HB4⟩
        case measure => simp [intOf]; omega
      · have HNX := Lib.hid (show wholeK x zs b k ++ z64 = wholeK x zs b (k + 1) from by rw [wholeK, if_neg (by omega)])
        go_wp2_with (first
          | (rw [← HZ.out]; refine wpl_build_sec rfl _ rfl z64 z64_length rfl ?_)
          | (refine wpl_build_sec rfl _ rfl z64 z64_length (by rw [HZ.out]; rfl) ?_)
          | (at_builtin; refine wpl_app_sec rfl (.tmp 30) (.tmp 32) rfl w.heap.size _ k _ rfl (HO.out.alloc _) wr.heap.size z64 rfl (Blk.new wr z64 z64_length) (by omega) w.heap.size w (HB.out.alloc HB.out.size _) (Nat.le_refl _) (by have := HB.out.size; simp; omega) ?_; intro v' w4 HO4 HB4; have HO4 := Lib.hid (HNX.out ▸ HO4.out)))
        go_roundw
        case rel => exact ⟨k + 1, by go_num, by omega, HO4, HB4⟩
        case measure => simp [intOf]; omega
    · obtain rfl : k = 16 := by omega
      go_wp2
      go_ret
      exact ⟨_, rfl, HO.out, HB.out⟩
end Go.Proofs.YtgegbpnmfpjdmaaGreatDoor
namespace Go.Proofs.YtgegbpnmfpjdmaaGreatDoor
open Go.RowKit
def SecF (w : World) (ls : List (List Int)) (ep : Int) (e : Ending) (w' : World) : Prop :=
  (fitsF ls = true ∧ ∃ v, e = .returned (.tuple #[v, .bool true]) ∧ FS w' v 16 (wholeK ep (bodyF (ep % 4294967296) ls) (touchN 0 (endF ls)).2 16) ∧ Below w.heap.size w w') ∨
  (fitsF ls = false ∧ e = .returned (.tuple #[.slice none 0 0, .bool false]) ∧ Below w.heap.size w w')
def SecO (w : World) (ls : List (List Int)) (ep : Int) (e : Ending) (w' : World) : Prop :=
  (fitsF ls = true ∧ ∃ v, e = .returned (.tuple #[v, .bool true]) ∧ w'.ownsRow w.heap.size 60 64 v 16 (il .u8 (wholeK ep (bodyF (ep % 4294967296) ls) (touchN 0 (endF ls)).2 16)) ∧ Below w.heap.size w w') ∨
  (fitsF ls = false ∧ e = .returned (.tuple #[.slice none 0 0, .bool false]) ∧ Below w.heap.size w w')
theorem SecO.f {w w' : World} {ls : List (List Int)} {ep : Int} {e : Ending} (h : SecO w ls ep e w') : SecF w ls ep e w' :=
  h.imp (fun ⟨h1, v, h2, h3, h4⟩ => ⟨h1, v, h2, FS.own h3, h4⟩) id
end Go.Proofs.YtgegbpnmfpjdmaaGreatDoor
namespace Go.Proofs.YtgegbpnmfpjdmaaGreatDoor
open Go.RowKit
theorem Tryz.info_i64 : (Tryz.prog.info? 3).map (fun i => (i.zero, i.size, i.bytes)) = some (some (.int .i64 0), 1, 8) := by kernel_rfl
theorem results_tmp4 {fn : Func} {t u v x : Tmp} (h : fn.results = #[.tmp t, .tmp u, .tmp v, .tmp x]) (tmps : Array Value) (P : Program) (w : World) :
    (results fn tmps).run P w = .ok (.tuple #[tmps.getD t undef, tmps.getD u undef, tmps.getD v undef, tmps.getD x undef]) w := by
  simp [results, h]
theorem YB.ne_own {w : World} {g : Nat} {zs : List Int} (h : YB w g zs) {base n : Nat} {u : Value} {xs : List Value} (ho : w.ownsRow base 3 1 u n xs) : u.ownBlock ≠ some g := by
  intro hq
  rcases ho.2 with ⟨rfl, _⟩ | ⟨q, cap, cur, rfl, _, hcur, _⟩
  · simp [Value.ownBlock] at hq
  · simp only [Value.ownBlock, Option.some.injEq] at hq
    subst hq
    unfold YB at h
    rw [h] at hcur
    simp only [Option.some.injEq, Obj.cells.injEq] at hcur
    exact absurd hcur.2.1 (by decide)
theorem YB.grown {w w' : World} {g : Nat} {zs : List Int} (h : YB w g zs) {base n : Nat} {u : Value} {xs : List Value} (ho : w.ownsRow base 3 1 u n xs) (hg : w.grownBy w' u.ownBlock) : YB w' g zs :=
  (hg.block g h.lt (fun e => h.ne_own ho e.symm)).trans h
theorem ri_new1 (w : World) (x : Int) : RI .i64 (w.alloc (.cells #[.int .i64 x] 3)) (.slice (some ⟨w.heap.size, 0, none⟩) 1 1) 1 [x] := by
  refine ⟨_, 1, rfl, rfl, Nat.le_refl _, by omega, fun h => by simp at h, fun _ => ⟨w.heap.size, 0, rfl, fun j hj => ?_⟩⟩
  obtain rfl : j = 0 := by omega
  rw [Nat.zero_add, cell_of_row _ w.heap.size 0 _ _ _ (heap_alloc_last w _)]
  rfl
theorem good_few {ls : List (List Int)} : ∀ {k : Nat}, GoodF ls k → k ≤ ls.length → k ≤ endF (ls.take k)
  | 0, _, _ => Nat.zero_le _
  | k + 1, h, hk => by
    have ih := good_few (k := k) (fun j hj => h j (by omega)) (by omega)
    have h1 := (end_gt (h k (by omega))).1
    rw [nr_nat _ (endF_le _)] at h1
    rw [endF_next ls k (by omega)]
    omega
def LayF (w : World) (ls : List (List Int)) (e32 : Int) (N : Nat) (e : Ending) (w' : World) : Prop :=
  (fitsF ls = true ∧ ∃ g pa pc, e = .returned (.tuple #[.slice (some ⟨g, 0, none⟩) 832 832, .slice pa N pc, .int .i64 (endF ls : Nat), .bool true]) ∧ YB w' g (bodyF e32 ls) ∧ w'.ownsRow w.heap.size 3 1 (.slice pa N pc) N (il .i64 (placesF ls)) ∧ Below w.heap.size w w') ∨
  (fitsF ls = false ∧ e = .returned (.tuple #[.slice none 0 0, .slice none 0 0, .int .i64 0, .bool false]) ∧ Below w.heap.size w w')
set_option maxRecDepth 8000 in
set_option maxHeartbeats 8000000 in
theorem rlay_any (ep : Int) (hep : U64 ep) (lv : Value) (N : Nat) (ls : List (List Int)) (hN : (N : Int) ≤ 9223372036854775807) (hlb : ∀ l ∈ ls, isB l) (w : World) (hrl : RL .u8 w lv N ls) :
    Calls Tryz.prog 42 #[.int .u64 ep, lv] w (LayF w ls (ep % 4294967296) N) := by
  have hll := hrl.length
  obtain ⟨la, lc, rfl, _⟩ := hrl.form
  obtain ⟨e32, he⟩ : ∃ e32, ep % 4294967296 = e32 := ⟨_, rfl⟩
  rw [he]
  have HAF : Hid (∀ (a : Nat) (b : List Int) (bv dv : Value) (n : Nat) (zs : List Int) (w : World), a ≤ 832 → isB zs → b.length = 832 → RI .u8 w bv 832 b → RI .u8 w dv n zs → fitI (a : Nat) n = true → Calls Tryz.prog 76 #[.int .u64 ep, bv, .int .i64 (a : Nat), dv] w fun e w' => ∃ g, e = .returned (.tuple #[.slice (some ⟨g, 0, none⟩) 832 832, .int .i64 (endI (a : Nat) n : Nat), .bool true]) ∧
      YB w' g (layR e32 b (a : Nat) zs) ∧ w.heap.size ≤ g ∧ Below w.heap.size w w') := Lib.hid fun a b bv dv n zs w h1 h2 h3 h4 h5 h6 => by
    have := radd_fit ep (a : Nat) (by unfold I63; omega) hep bv 832 b dv n zs h2 w h4 h5 h6
    rwa [he, pad8_full h3] at this
  have HLL := Lib.hid hll
  have HLB := Lib.hid hlb
  have HRL := Lib.hid hrl
  have HBG : Hid (∀ (a : Nat) (w : World), a ≤ 832 → Calls Tryz.prog 33 #[.int .i64 (a : Nat)] w fun e w' => e = .returned (.int .i64 (beginN a : Int)) ∧ w = w') := Lib.hid fun a w h => (rbegin_any a (by unfold I63; omega) w).mono fun e w' ⟨h1, h2⟩ => ⟨by rw [h1, nr_nat _ h], h2.symm⟩
  clear hep hll hlb hrl he
  go_enter Tryz.func42, Tryz.ntmps42
  go_wp2_with (first
    | (refine wpl_mk_yb rfl _ _ rfl 832 rfl rfl (by omega) ?_; intro g0 w1 HY1 HG1 HB1))
  go_loopw [8, 9, 10, 11, 12] (fun bv pv ev kv iv wr => ∃ (i g : Nat) (pa : Option Addr) (pc a : Nat), iv = .int .i64 (i : Int) ∧ kv = .bool true ∧ bv = .slice (some ⟨g, 0, none⟩) 832 832 ∧ pv = .slice pa i pc ∧ ev = .int .i64 (a : Int) ∧ i ≤ N ∧ a ≤ 832 ∧ Hid (endF (ls.take i) = a) ∧ Hid (GoodF ls i) ∧ Hid (YB wr g (bodyF e32 (ls.take i))) ∧ Hid (wr.ownsRow w.heap.size 3 1 (.slice pa i pc) i (il .i64 (placesF (ls.take i)))) ∧ Hid (Below w.heap.size w wr)) (fun _ _ _ _ iv _ => N - (intOf iv).toNat)
  case atStart => exact ⟨0, g0, none, 0, 0, rfl, rfl, rfl, rfl, rfl, by omega, by omega, Lib.hid (by simp [endF_nil]), Lib.hid (GoodF.zero ls), Lib.hid (by rw [List.take_zero, bodyF_nil]; exact HY1.out), Lib.hid (World.ownsRow_nil _ _ _ _), HB1⟩
  case round =>
    obtain ⟨i, g, pa, pc, a, rfl, rfl, rfl, rfl, rfl, hi, ha, HA, HGD, HY, HO, HB⟩ := hrel
    have hi8 : i ≤ 832 := by have h1 := good_few HGD.out (by rw [HLL.out]; exact hi); rw [HA.out] at h1; omega
    by_cases hlt : (i : Int) < (N : Int)
    · obtain ⟨b, off, rfl, hat⟩ := HRL.out.at_ (by omega)
      obtain ⟨x, c, hc, hr⟩ := hat i (by omega)
      obtain ⟨zs, hzs⟩ : ∃ zs, ls.getD i [] = zs := ⟨_, rfl⟩
      rw [hzs] at hc hr
      obtain ⟨n, hn⟩ : ∃ n, zs.length = n := ⟨_, rfl⟩
      rw [hn] at hc hr
      have hzb : isB zs := HLB.out zs (by rw [← hzs]; simp [List.getD, show i < ls.length by rw [HLL.out]; omega])
      have HPN := Lib.hid (placesF_next ls i (by rw [HLL.out]; omega))
      have HBN := Lib.hid (bodyF_next e32 ls i (by rw [HLL.out]; omega))
      have HEN := Lib.hid (endF_next ls i (by rw [HLL.out]; omega))
      rw [HA.out] at HPN HBN HEN
      rw [hzs] at HBN HEN
      rw [hn] at HEN
      obtain ⟨bg, hbg⟩ : ∃ bg, beginN a = bg := ⟨_, rfl⟩
      have H1 := HBG.out a
      rw [hbg] at H1 HPN
      have H1 := Lib.hid H1
      have HC := Lib.hid hc
      have HR := Lib.hid hr
      have HZB := Lib.hid hzb
      have HBL := Lib.hid (bodyF_at e32 ls i (by rw [HLL.out]; omega))
      have HIN : Hid (i + 1 ≤ ls.length) := Lib.hid (by rw [HLL.out]; omega)
      have HFT : Hid (fitI (endF (ls.take i) : Nat) (ls.getD i []).length = fitI (a : Nat) n) := Lib.hid (by rw [HA.out, hzs, hn])
      obtain ⟨a9, ha9⟩ : ∃ a9, endI (a : Nat) n = a9 := ⟨_, rfl⟩
      have ha98 : a9 ≤ 832 := by rw [← ha9]; exact end_le _ _
      rw [ha9] at HEN
      have HA1 : ∀ (bv dv : Value) (w : World), RI .u8 w bv 832 (bodyF e32 (ls.take i)) → RI .u8 w dv n zs → fitI (a : Nat) n = true → Calls Tryz.prog 76 #[.int .u64 ep, bv, .int .i64 (a : Nat), dv] w fun e w' => ∃ g, e = .returned (.tuple #[.slice (some ⟨g, 0, none⟩) 832 832, .int .i64 (a9 : Nat), .bool true]) ∧ YB w' g (bodyF e32 (ls.take (i + 1))) ∧ w.heap.size ≤ g ∧ Below w.heap.size w w' := fun bv dv w h1 h2 h3 => by
        rw [HBN.out, ← ha9]; exact HAF.out a _ bv dv n zs w ha HZB.out HBL.out h1 h2 h3
      have HA1 := Lib.hid HA1
      have HA0 : ∀ (bv : Value) (w : World), fitI (a : Nat) n = false → Calls Tryz.prog 76 #[.int .u64 ep, bv, .int .i64 (a : Nat), .slice x n c] w fun e w' => e = .returned (.tuple #[.slice none 0 0, .int .i64 0, .bool false]) ∧ Below w.heap.size w w' := fun bv w h => radd_no ep (a : Nat) (by unfold I63; omega) bv x n c (by have := HR.out.le; omega) w h
      have HA0 := Lib.hid HA0
      clear hc hr hzb hat hzs hn ha9 hbg
      cases hf : fitI (a : Nat) n with
      | true =>
        have HA2 : Hid (∀ (bv dv : Value) (w : World), RI .u8 w bv 832 (bodyF e32 (ls.take i)) → RI .u8 w dv n zs → Calls Tryz.prog 76 #[.int .u64 ep, bv, .int .i64 (a : Nat), dv] w fun e w' => ∃ g, e = .returned (.tuple #[.slice (some ⟨g, 0, none⟩) 832 832, .int .i64 (a9 : Nat), .bool true]) ∧ YB w' g (bodyF e32 (ls.take (i + 1))) ∧ w.heap.size ≤ g ∧ Below w.heap.size w w') := Lib.hid fun bv dv w h1 h2 => HA1.out bv dv w h1 h2 hf
        have HGN : Hid (GoodF ls (i + 1)) := Lib.hid (HGD.out.next (by rw [HFT.out]; exact hf))
        clear HA1 HA0 hf
        go_wp2_with (first
          | (go_at_call 33; (with_reducible refine (H1.out _ ha).mono ?_); rintro e w' ⟨rfl, rfl⟩)
          | (at_builtin; refine wpl_appw rfl (.tmp 20) (.tmp 23) 36 rfl 3 .i64 8 Tryz.underlying36 Tryz.info_i64 w.heap.size _ i _ rfl (HO.out.alloc _) _ 1 [(bg : Int)] rfl (ri_new1 wr bg) (by omega) (by omega) (by have := HB.out.size; simp; omega) ?_; intro v2 w2 HO2 HG2 _; rw [← HPN.out] at HO2; obtain ⟨a2, c2, rfl⟩ := own_form HO2.out; have HY2 := Lib.hid ((HY.out.keep (balloc wr _)).grown (HO.out.alloc _) HG2.out); have HB2 : Hid (Below w.heap.size w w2) := Lib.hid ((HB.out.alloc HB.out.size _).grown HG2.out (by have := HB.out.size; simp; omega) (fun q hq => (HO.out.lt q hq).1)); have hc2 := cell_keep HB2.out HC.out)
          | (go_at_call 76; (with_reducible refine (HA2.out _ _ _ (HY2.out.ri HBL.out (by omega)) (HR.out.keep HB2.out)).mono ?_); rintro e w3 ⟨g3, rfl, hy, _, hb⟩; have HY3 := Lib.hid hy; have HO3 := Lib.hid (own_keep HO2.out hb); have HB3 := Lib.hid (bch HB2.out hb); clear hy hb))
        go_roundw
        case rel => exact ⟨i + 1, g3, a2, c2, a9, by go_num, rfl, rfl, rfl, rfl, by omega, ha98, HEN, HGN, HY3, HO3, HB3⟩
        case measure => simp [intOf]; omega
      | false =>
        have HA2 : Hid (∀ (bv : Value) (w : World), Calls Tryz.prog 76 #[.int .u64 ep, bv, .int .i64 (a : Nat), .slice x n c] w fun e w' => e = .returned (.tuple #[.slice none 0 0, .int .i64 0, .bool false]) ∧ Below w.heap.size w w') := Lib.hid fun bv w => HA0.out bv w hf
        have HNO : Hid (fitsF ls = false) := Lib.hid (fitsF_bad ⟨i, HIN.out, by rw [HFT.out]; exact hf⟩)
        clear HA1 HA0 hf
        go_wp2_with (first
          | (go_at_call 33; (with_reducible refine (H1.out _ ha).mono ?_); rintro e w' ⟨rfl, rfl⟩)
          | (at_builtin; refine wpl_appw rfl (.tmp 20) (.tmp 23) 36 rfl 3 .i64 8 Tryz.underlying36 Tryz.info_i64 w.heap.size _ i _ rfl (HO.out.alloc _) _ 1 [(bg : Int)] rfl (ri_new1 wr bg) (by omega) (by omega) (by have := HB.out.size; simp; omega) ?_; intro v2 w2 HO2 HG2 _; rw [← HPN.out] at HO2; obtain ⟨a2, c2, rfl⟩ := own_form HO2.out; have HY2 := Lib.hid ((HY.out.keep (balloc wr _)).grown (HO.out.alloc _) HG2.out); have HB2 : Hid (Below w.heap.size w w2) := Lib.hid ((HB.out.alloc HB.out.size _).grown HG2.out (by have := HB.out.size; simp; omega) (fun q hq => (HO.out.lt q hq).1)); have hc2 := cell_keep HB2.out HC.out)
          | (go_at_call 76; (with_reducible refine (HA2.out _ _).mono ?_); rintro e w3 ⟨rfl, hb⟩; have HB3 := Lib.hid (bch HB2.out hb); clear hb))
        (try simp only [Exit.inBlock, Exit.then]); refine bodyPost_ret (results_tmp4 rfl _ _ _) rfl ?_
        exact .inr ⟨HNO.out, rfl, HB3.out⟩
    · obtain rfl : i = N := by omega
      have HFT : Hid (fitsF ls = true) := Lib.hid (fitsF_good (by rw [HLL.out]; exact HGD.out))
      have HTK : Hid (ls.take i = ls) := Lib.hid (List.take_of_length_le (by rw [HLL.out]; omega))
      rw [HTK.out] at HA HY HO
      go_wp2
      (try simp only [Exit.inBlock, Exit.then]); refine bodyPost_ret (results_tmp4 rfl _ _ _) rfl ?_
      exact .inl ⟨HFT.out, g, pa, pc, by rw [HA.out]; rfl, HY.out, HO.out, HB.out⟩
theorem lay_yes {w : World} {ls : List (List Int)} {e32 : Int} {N : Nat} {fn : Nat} {args : Array Value} (h : Calls Tryz.prog fn args w (LayF w ls e32 N)) (hf : fitsF ls = true) :
    Calls Tryz.prog fn args w fun e w' => ∃ g pa pc, e = .returned (.tuple #[.slice (some ⟨g, 0, none⟩) 832 832, .slice pa N pc, .int .i64 (endF ls : Nat), .bool true]) ∧ YB w' g (bodyF e32 ls) ∧ w'.ownsRow w.heap.size 3 1 (.slice pa N pc) N (il .i64 (placesF ls)) ∧ Below w.heap.size w w' :=
  h.mono fun e w' h => by
    rcases h with ⟨_, h⟩ | ⟨h, _⟩
    · exact h
    · rw [hf] at h; cases h
theorem lay_not {w : World} {ls : List (List Int)} {e32 : Int} {N : Nat} {fn : Nat} {args : Array Value} (h : Calls Tryz.prog fn args w (LayF w ls e32 N)) (hf : fitsF ls = false) :
    Calls Tryz.prog fn args w fun e w' => e = .returned (.tuple #[.slice none 0 0, .slice none 0 0, .int .i64 0, .bool false]) ∧ Below w.heap.size w w' :=
  h.mono fun e w' h => by
    rcases h with ⟨h, _⟩ | ⟨_, h⟩
    · rw [hf] at h; cases h
    · exact h
set_option maxRecDepth 8000 in
set_option maxHeartbeats 2000000 in
theorem rsectors_own (ep : Int) (hep : U64 ep) (lv : Value) (N : Nat) (ls : List (List Int)) (hN : (N : Int) ≤ 9223372036854775807) (hlb : ∀ l ∈ ls, isB l) (w : World) (hrl : RL .u8 w lv N ls) :
    Calls Tryz.prog 19 #[.int .u64 ep, lv] w (SecO w ls ep) := by
  have HL : Hid (∀ w, RL .u8 w lv N ls → Calls Tryz.prog 42 #[.int .u64 ep, lv] w (LayF w ls (ep % 4294967296) N)) := Lib.hid fun w h => rlay_any ep hep lv N ls hN hlb w h
  have HEP := Lib.hid hep
  have HRL := Lib.hid hrl
  have HBL := Lib.hid (bodyF_len (ep % 4294967296) ls)
  have HEL := endF_le ls
  unfold SecO
  cases hf : fitsF ls with
  | true =>
    have HL2 : Hid (∀ w, RL .u8 w lv N ls → Calls Tryz.prog 42 #[.int .u64 ep, lv] w fun e w' => ∃ g pa pc, e = .returned (.tuple #[.slice (some ⟨g, 0, none⟩) 832 832, .slice pa N pc, .int .i64 (endF ls : Nat), .bool true]) ∧ YB w' g (bodyF (ep % 4294967296) ls) ∧ w'.ownsRow w.heap.size 3 1 (.slice pa N pc) N (il .i64 (placesF ls)) ∧ Below w.heap.size w w') := Lib.hid fun w h => lay_yes (HL.out w h) hf
    generalize bodyF (ep % 4294967296) ls = bd at *
    generalize endF ls = en at *
    have HW : Hid (∀ (v : Value) (w : World), RI .u8 w v 832 bd → Calls Tryz.prog 43 #[.int .u64 ep, v, .int .i64 (en : Nat)] w fun e w' => ∃ v', e = .returned v' ∧ w'.ownsRow w.heap.size 60 64 v' 16 (il .u8 (wholeK ep bd (touchN 0 en).2 16)) ∧ Below w.heap.size w w') := Lib.hid fun v w h => by
      have := rwhole_own ep hep v 832 bd (by omega) (en : Nat) (by unfold I63; omega) w h
      rwa [nr_nat _ HEL] at this
    clear hep hlb hrl HL hf
    go_enter Tryz.func19, Tryz.ntmps19
    go_wp2_with (first
      | (go_at_call 42; (with_reducible refine (HL2.out _ HRL.out).mono ?_); rintro e w1 ⟨g1, pa, pc, rfl, hy, _, hb⟩; have HY1 := Lib.hid hy; have HB1 := Lib.hid hb; clear hy hb)
      | (go_at_call 43; (with_reducible refine (HW.out _ _ (HY1.out.ri HBL.out (by omega))).mono ?_); rintro e w2 ⟨v2, rfl, hs, hb⟩; have HS2 := Lib.hid hs; have HB2 := Lib.hid (bch HB1.out hb); clear hs hb))
    go_ret2
    exact .inl ⟨trivial, _, rfl, own_mono HS2.out HB1.out.size, HB2.out⟩
  | false =>
    have HL2 : Hid (∀ w, RL .u8 w lv N ls → Calls Tryz.prog 42 #[.int .u64 ep, lv] w fun e w' => e = .returned (.tuple #[.slice none 0 0, .slice none 0 0, .int .i64 0, .bool false]) ∧ Below w.heap.size w w') := Lib.hid fun w h => lay_not (HL.out w h) hf
    clear hep hlb hrl HL hf HEL
    go_enter Tryz.func19, Tryz.ntmps19
    go_wp2_with (first
      | (go_at_call 42; (with_reducible refine (HL2.out _ HRL.out).mono ?_); rintro e w1 ⟨rfl, hb⟩; have HB1 := Lib.hid hb; clear hb))
    go_ret2
    exact .inr ⟨trivial, rfl, HB1.out⟩
theorem rsectors_any (ep : Int) (hep : U64 ep) (lv : Value) (N : Nat) (ls : List (List Int)) (hN : (N : Int) ≤ 9223372036854775807) (hlb : ∀ l ∈ ls, isB l) (w : World) (hrl : RL .u8 w lv N ls) :
    Calls Tryz.prog 19 #[.int .u64 ep, lv] w (SecF w ls ep) := (rsectors_own ep hep lv N ls hN hlb w hrl).mono fun _ _ h => h.f
end Go.Proofs.YtgegbpnmfpjdmaaGreatDoor
namespace Go.Proofs.YtgegbpnmfpjdmaaGreatDoor
open Go.RowKit
theorem wp_appv {P : Program} {w : World} {o : Oper} {a : Act} {K : Act → World → Prop} {Q : Exit → Act → World → Prop} (s x : Operand) (t : TypeId) (ho : o.op = .call { callee := .builtin .append, args := #[s, x], argTypes := #[t, t] })
    (e : TypeId) (z : Value) (bytes : Nat) (ht : P.underlying t = some (.slice e)) (hinfo : (P.info? e).map (fun i => (i.zero, i.size, i.bytes)) = some (some z, 1, bytes)) (hz : z.cells.size = 1)
    (base : Nat) (v : Value) (n : Nat) (es : List Value) (hs : a.eval s = v) (hown : w.ownsRow base e 1 v n es)
    (v2 : Value) (m : Nat) (fs : List Value) (hx : a.eval x = v2) (hrv : RV w v2 m fs) (hone : ∀ u ∈ fs, u.oneCell' = true) (hbytes : ((n + m) + (n + m) / 4 + 192) * bytes ≤ 281474976710656) (h63 : n + m ≤ 9223372036854775807) (hbase : base ≤ w.heap.size)
    (h : ∀ v' w', Hid (w'.ownsRow base e 1 v' (n + m) (es ++ fs)) → Hid (w.grownBy w' v.ownBlock) → K (a.put o.dst v') w') : o.wp P a w K Q := by
  obtain ⟨i, hi, hz0, hz1, hz2⟩ := info_parts hinfo
  obtain ⟨ad, cap, rfl, hl, hlc, _, hnil, hc⟩ := hrv
  cases ad with
  | none =>
    obtain rfl : cap = 0 := hnil rfl
    obtain rfl : m = 0 := by omega
    obtain rfl : fs = [] := List.length_eq_zero_iff.1 hl
    have hrun := run_append_owned_none (P := P) (w := w) base t o.type e i 1 ht hi v n _ hown
    unfold Oper.wp
    simp [execOp, ho, resolve, invoke, builtin, hs, hx, hrun, Result.andThen]
    exact h v w (by rw [List.append_nil]; exact hown) ⟨rfl, rfl, rfl, Nat.le_refl _, fun _ _ _ => rfl⟩
  | some ad =>
    refine wp_append_own_wide w s x t ho base e i z 1 bytes ht hi hz0 hz1 hz2 hz (by omega) v n es hs hown ad m cap fs hx (by omega) ?_ hone (by unfold maxLen; omega) hbytes hbase ?_
    · intro j u hj
      have hjl := (List.getElem?_eq_some_iff.1 hj).1
      obtain ⟨b, off, e1, hcell⟩ := hc (by omega)
      obtain rfl := Option.some.inj e1
      have := hcell j (by omega)
      rw [hj] at this
      have e2 : (⟨b, off, none⟩ : Addr).add j = ⟨b, off + j, none⟩ := by unfold Addr.add; split <;> simp_all
      rw [e2]; exact this
    · intro v' w' h1 h2 _
      exact h v' w' h1 h2
theorem ri_one {k : IntKind} {w : World} {e : Value} {n : Nat} {l : List Int} (h : RI k w e n l) : e.oneCell' = true := by
  obtain ⟨a, c, rfl, _⟩ := h; rfl
theorem Tryz.info_sl : (Tryz.prog.info? 43).map (fun i => (i.zero, i.size, i.bytes)) = some (some (.slice none 0 0), 1, 24) := by kernel_rfl
theorem own_none {w : World} {e : TypeId} {base b : Nat} (hb : w.heap.size = b) (h : base ≤ b) : (w.alloc (.cells #[] e)).ownsRow base e 1 (.slice (some ⟨b, 0, none⟩) 0 0) 0 [] := by
  subst hb
  exact World.ownsRow_lit w #[] 0 h (by unfold maxLen; omega) rfl
end Go.Proofs.YtgegbpnmfpjdmaaGreatDoor
