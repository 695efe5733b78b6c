/-
  LAYER 17 (image): what the reference's Add answers, of any bytes that lie somewhere.
-/
import Derived.Test.YtjlnceldnbpapaaDoorImgAdd
import Derived.Test.YtjlnceldnbpapaaDoorCutRef
namespace Go.Proofs.YtjlnceldnbpapaaDoor
open Go.RowKit
theorem pad_next (bs : List Int) (i : Nat) (h8 : i < 832) (hb : i < bs.length) : (splice z832 0 (bs.take i)).set i (bs.getD i 0) = splice z832 0 (bs.take (i + 1)) := by
  have h := splice_set z832 (bs.take 832) 0 i (by rw [List.length_take]; omega) (by rw [z832_len, List.length_take]; omega)
  rw [Nat.zero_add, List.take_take, List.take_take, Nat.min_eq_left (by omega), Nat.min_eq_left (by omega)] at h
  rw [← h]
  congr 1
  simp [List.getD, h8]
theorem pad_len (bs : List Int) (i : Nat) (h8 : i ≤ 832) : (splice z832 0 (bs.take i)).length = 832 := by
  rw [splice_len _ _ _ (by rw [z832_len, List.length_take]; omega), z832_len]
theorem pad_end (bs : List Int) (i : Nat) (hb : i ≤ bs.length) (h : i = 832 ∨ (i ≤ 832 ∧ i = bs.length)) : splice z832 0 (bs.take i) = pad8 bs := by
  unfold pad8
  rcases h with rfl | ⟨h1, h2⟩
  · rfl
  · rw [List.take_of_length_le (by omega), List.take_of_length_le (by omega)]
set_option maxRecDepth 8000 in
set_option maxHeartbeats 2000000 in
theorem radd_no (ep x : Int) (hx : I63 x) (bv : Value) (da : Option Addr) (n dc : Nat) (hn : (n : Int) ≤ 9223372036854775807) (w : World) (hfit : fitI x n = false) :
    Calls Tryd.prog 15 #[.int .u64 ep, bv, .int .i64 x, .slice da n dc] w fun e w' => e = .returned (.tuple #[.slice none 0 0, .int .i64 0, .bool false]) ∧ Below w.heap.size w w' := by
  have HC : Hid (∀ w, Calls Tryd.prog 22 #[.int .i64 x, .int .i64 (n : Int)] w fun e w' => ∃ v, e = .returned (.tuple #[v, .int .i64 0, .bool false]) ∧ Below w.heap.size w w') := Lib.hid fun w =>
    (rcut_any x n hx (by unfold I63; omega) w).mono fun e w' ⟨v, he, _, hb⟩ => by
      rw [(told_no hfit).2, hfit] at he
      exact ⟨v, he, hb⟩
  clear hx hfit
  go_enter Tryd.func15, Tryd.ntmps15
  go_wp2_with (first
    | (go_at_call 22; (with_reducible refine (HC.out _).mono ?_); rintro e w1 ⟨v1, rfl, hb⟩; have HB1 := Lib.hid hb; clear hb))
  go_ret3
  exact ⟨rfl, HB1.out⟩
set_option maxRecDepth 8000 in
set_option maxHeartbeats 8000000 in
theorem radd_fit (ep x : Int) (hx : I63 x) (hep : U64 ep) (bv : Value) (bn : Nat) (bs : List Int) (dv : Value) (n : Nat) (zs : List Int) (hzb : isB zs) (w : World) (hbr : RI .u8 w bv bn bs) (hri : RI .u8 w dv n zs) (hfit : fitI x n = true) :
    Calls Tryd.prog 15 #[.int .u64 ep, bv, .int .i64 x, dv] w fun e w' => ∃ g, e = .returned (.tuple #[.slice (some ⟨g, 0, none⟩) 832 832, .int .i64 (endI x n : Nat), .bool true]) ∧
      YB w' g (layR (ep % 4294967296) (pad8 bs) x zs) ∧ w.heap.size ≤ g ∧ Below w.heap.size w w' := by
  have hzl := hri.length
  have hbl := hbr.length
  have hnl := hri.le
  have hbnl := hbr.le
  obtain ⟨da, dc, rfl, _, hdc, hdm, _⟩ := id hri
  obtain ⟨ba, bc, rfl, _⟩ := id hbr
  have HC : Hid (∀ w, Calls Tryd.prog 22 #[.int .i64 x, .int .i64 (n : Int)] w fun e w' => ∃ v, e = .returned (.tuple #[v, .int .i64 (endI x n : Int), .bool true]) ∧ w'.ownsRow w.heap.size 60 4 v (pcsI x n).length (pF (pcsI x n)) ∧ Below w.heap.size w w') := Lib.hid fun w => by
    have := rcut_any x n hx (by unfold I63; omega) w
    rwa [hfit] at this
  obtain ⟨e32, he⟩ : ∃ e32, ep % 4294967296 = e32 := ⟨_, rfl⟩
  have he0 : 0 ≤ e32 ∧ e32 ≤ 4294967295 := by omega
  have hw32 : IntKind.u32.wrap e32 = e32 := by rw [u32_wrap]; omega
  have hep2 : 0 ≤ ep ∧ ep ≤ 18446744073709551615 := hep
  have htm : ep.tmod 4294967296 = e32 := by rw [Int.tmod_eq_emod_of_nonneg hep2.1]; exact he
  have HPF : Hid (∀ (i : Nat) (c : PC), (pcsI x n)[i]? = some c → ∃ q l k, PcFit (nr x) n c q l k) := Lib.hid fun i c h => by
    obtain ⟨m, q, l, k, hm, hf⟩ := pc_fit h
    obtain rfl : n = m := by omega
    exact ⟨q, l, k, hf⟩
  have HLN : Hid (∀ i, (layP e32 zs (pad8 bs) ((pcsI x n).take i)).length = 832) := Lib.hid fun i => by rw [← hzl]; exact layP_len (pad8_len bs) i
  have HLR : Hid (layP e32 zs (pad8 bs) (pcsI x n) = layR e32 (pad8 bs) x zs) := Lib.hid (by unfold layR; rw [hzl])
  rw [he]
  generalize layR e32 (pad8 bs) x zs = out at *
  have hpl := pcs_len x n
  generalize pcsI x n = ps at *
  generalize endI x n = en at *
  obtain ⟨m, hm⟩ : ∃ m, ps.length = m := ⟨_, rfl⟩
  rw [hm] at HC hpl
  have HM := Lib.hid hm
  have HZB := Lib.hid hzb
  have HZL := Lib.hid hzl
  have HBL := Lib.hid hbl
  have HRI := Lib.hid hri
  have HBR := Lib.hid hbr
  have HDC := Lib.hid hdc
  clear hx hep hzb hbr hri hfit hzl hbl hm hdc
  go_enter Tryd.func15, Tryd.ntmps15
  go_wp2_with (first
    | (go_at_call 22; (with_reducible refine (HC.out _).mono ?_); rintro e w1 ⟨v1, rfl, ho, hb⟩; obtain ⟨a1, c1, rfl⟩ := own_form ho; have HO1 := Lib.hid ho; have HB1 := Lib.hid hb; clear ho hb)
    | (refine wpl_mk_yb rfl _ _ rfl 832 rfl rfl (by omega) ?_; intro g w2 HY2 HG2 HB2; have HO2 := Lib.hid (own_keep HO1.out HB2.out); have HB2 := Lib.hid (bch HB1.out HB2.out)))
  have HGW : Hid (w.heap.size ≤ g ∧ w1.heap.size ≤ g) := Lib.hid (by have := HG2.out; have := HB1.out.size; omega)
  have HBW : Hid (∀ w', w2.grownBy w' (some g) → Below w.heap.size w w') := Lib.hid fun w' h => below_grown HB2.out h HGW.out.1 HB2.out.size
  have HPS : Hid (∀ w', w2.grownBy w' (some g) → PS w' (.slice a1 m c1) ps) := Lib.hid fun w' h => PS.over (by rw [HM.out]; exact HO2.out) h (fun q hq e => by have := (HO1.out.lt q hq).2; have := HGW.out.2; omega)
  clear HC HO1 HB1 HO2 HB2 HG2
  go_wp2
  go_loopw [15] (fun iv wr => ∃ i : Nat, iv = .int .i64 (i : Int) ∧ i ≤ 832 ∧ i ≤ bn ∧ Hid (w2.grownBy wr (some g)) ∧ Hid (YB wr g (splice z832 0 (bs.take i)))) (fun iv _ => 832 - (intOf iv).toNat)
  case atStart => exact ⟨0, rfl, by omega, by omega, Lib.hid (grown_refl _ _), Lib.hid (by simpa [splice, z832] using HY2.out)⟩
  case round =>
    obtain ⟨i, rfl, hi8, hib, HG, HY⟩ := hrel
    by_cases hlt : (i : Int) < 832 ∧ (i : Int) < (bn : Int)
    · obtain ⟨hl1, hl2⟩ := hlt
      have HSP := Lib.hid (pad_next bs i (by omega) (by rw [HBL.out]; omega))
      have HPL := Lib.hid (pad_len bs i (by omega))
      obtain ⟨b, off, rfl, hcell⟩ := (HBR.out.keep (HBW.out wr HG.out)).at_ (by omega)
      have hc := hcell i (by omega)
      clear hcell
      go_wp2_with (first
        | (refine wpl_put_yb rfl _ _ rfl g i _ (bs.getD i 0) HY.out (by rw [HPL.out]; omega) rfl rfl ?_; intro w3 HY3 HG3; rw [HSP.out] at HY3; have HG3 := Lib.hid (grown_trans HG.out HG3.out)))
      go_roundw
      case rel => exact ⟨i + 1, by go_num, by omega, by omega, HG3, HY3⟩
      case measure => simp [intOf]; omega
    · have HY3 : Hid (YB wr g (pad8 bs)) := Lib.hid (by rw [← pad_end bs i (by rw [HBL.out]; exact hib) (by rw [HBL.out]; omega)]; exact HY.out)
      rcases (by omega : ¬ ((i : Int) < 832) ∨ ((i : Int) < 832 ∧ ¬ (i : Int) < (bn : Int))) with h1 | ⟨h1, h2⟩
      all_goals
        clear hlt HY
        go_wp2
        go_loopw [16] (fun iv wr => ∃ i : Nat, iv = .int .i64 (i : Int) ∧ i ≤ m ∧ Hid (w2.grownBy wr (some g)) ∧ Hid (YB wr g (layP e32 zs (pad8 bs) (ps.take i)))) (fun iv _ => m - (intOf iv).toNat)
        case atStart => exact ⟨0, rfl, by omega, HG, HY3⟩
        case round =>
          rename World => wo
          clear HY3 HG
          obtain ⟨i, rfl, him, HG, HY⟩ := hrel
          by_cases hlt : (i : Int) < (m : Int)
          · obtain ⟨c, hc⟩ : ∃ c, ps[i]? = some c := ⟨ps[i]'(by have := HM.out; omega), List.getElem?_eq_getElem _⟩
            obtain ⟨q, l, k, hpf⟩ := HPF.out i c hc
            obtain ⟨b2, o2, e2, r2⟩ := (HPS.out wo HG.out).at_ i c hc
            obtain rfl := e2
            have HC2 : Hid (∀ w', w2.grownBy w' (some g) → w'.cell? ⟨b2, o2 + i * 4, none⟩ = some (.int .i64 (q : Int)) ∧ w'.cell? ⟨b2, o2 + i * 4 + 1, none⟩ = some (.int .i64 c.kind) ∧ w'.cell? ⟨b2, o2 + i * 4 + 2, none⟩ = some (.int .i64 (l : Int)) ∧ w'.cell? ⟨b2, o2 + i * 4 + 3, none⟩ = some (.int .i64 ((l + k : Nat) : Int))) := Lib.hid fun w' hg => by
              obtain ⟨b3, o3, e3, r3⟩ := (HPS.out w' hg).at_ i c hc
              obtain ⟨rfl, rfl⟩ : b2 = b3 ∧ o2 = o3 := by simpa using e3
              obtain ⟨y0, y1, y2, y3⟩ := pc_cells r3
              rw [hpf.at_] at y0; rw [hpf.from_] at y2; rw [hpf.to] at y3
              exact ⟨y0, y1, y2, y3⟩
            obtain ⟨kd, hkd⟩ : ∃ kd, c.kind = kd := ⟨_, rfl⟩
            rw [hkd] at HC2
            have hdl : ((zs.drop l).take k).length = k := by rw [List.length_take, List.length_drop]; have := hpf.upto; have := HZL.out; omega
            have HPB : Hid (fragB kd e32 ((zs.drop l).take k) = pcB e32 zs c) := Lib.hid (by unfold pcB; rw [hpf.data, hkd])
            have HPL : Hid ((pcB e32 zs c).length = 11 + k) := Lib.hid (hpf.len e32 zs HZL.out)
            have HNX := Lib.hid (layP_next e32 zs (pad8 bs) ps i c hc)
            rw [hpf.at_, Int.toNat_natCast] at HNX
            have hok : fragOk kd k = true := decide_eq_true ⟨hkd ▸ hpf.k1, hkd ▸ hpf.k4, hpf.most⟩
            have hq : (q : Int) ≤ 821 := by have := hpf.room; omega
            have HQ : Hid (q + 11 + k ≤ 832) := Lib.hid hpf.room
            obtain ⟨h, hh⟩ : ∃ h, l + k = h := ⟨_, rfl⟩
            have HH := Lib.hid hh
            rw [hh] at HC2
            have hlu := hpf.upto
            rw [hh] at hlu
            have hln : (l : Int) ≤ h := by omega
            have hkl : (k : Int) ≤ 197 := by have := hpf.most; omega
            obtain ⟨dq, qc, hsl⟩ := sliced_form da l k dc 1
            have HRC : ∀ w', w2.grownBy w' (some g) → RI .u8 w' (.slice dq k qc) k ((zs.drop l).take k) := fun w' hg => by
              have := (HRI.out.keep (HBW.out w' hg)).cut l k dc (by omega) (by have := HDC.out; omega) (Nat.le_refl _)
              rwa [hsl] at this
            have HSL := Lib.hid hsl
            have HDC2 : Hid (l + k ≤ dc) := Lib.hid (by have := HDC.out; omega)
            have HE : Hid (∀ w', w2.grownBy w' (some g) → Calls Tryd.prog 23 #[.agg (fA kd e32 (.slice dq k qc))] w' fun r w'' => ∃ a c2, r = .returned (.slice a (11 + k) c2) ∧ w''.ownsRow w'.heap.size 5 1 (.slice a (11 + k) c2) (11 + k) (il .u8 (pcB e32 zs c)) ∧ Below w'.heap.size w' w'') := Lib.hid fun w' hg => by
              rw [← HPB.out]; exact rfbytes_any kd e32 (.slice dq k qc) k _ w' hok he0 (HRC w' hg) ((HZB.out.drop _).take _)
            clear hc hpf r2 hkd hdl HPB hok hh hsl HRC hlu
            go_wp2_with fail
            refine wp_region_held_drew (S := (fun w' => w2.grownBy w' (some g))) (by kernel_rfl) (grown_drew HG.out) (fun hS => ?_)
            refine wpAnyH_take (i := 0) (oi := ({ dst := some 53, op := Op.move (Operand.tmp 11), type := 46, pos := "ref.go:23", after := #[], guard := none } : Oper)) (v := ?_) rfl (by kernel_rfl) (by kernel_rfl) (by kernel_rfl) (fun _ _ _ h => h) (Or.inl ⟨by rfl, ?_⟩) hS ?_
            rotate_left
            · (intro w hSw; (try dsimp only at hSw); go_simp; try with_reducible rfl)
            (try simp only [Act.put, List.setIfInBounds_toArray, List.set_cons_zero, List.set_cons_succ])
            refine wpAnyH_take (i := 1) (oi := ({ dst := some 54, op := Op.move (Operand.tmp 16), type := 3, pos := "ref.go:23", after := #[], guard := none } : Oper)) (v := ?_) rfl (by kernel_rfl) (by kernel_rfl) (by kernel_rfl) (fun _ _ _ h => h) (Or.inl ⟨by rfl, ?_⟩) hS ?_
            rotate_left
            · (intro w hSw; (try dsimp only at hSw); go_simp; try with_reducible rfl)
            (try simp only [Act.put, List.setIfInBounds_toArray, List.set_cons_zero, List.set_cons_succ])
            refine wpAnyH_take (i := 2) (oi := ({ dst := some 55, op := Op.indexAddr 46 (Operand.tmp 53) (Operand.tmp 54), type := 0, pos := "ref.go:23", after := #[{ on := 0, ground := Ground.data }, { on := 1, ground := Ground.data }], guard := none } : Oper)) (v := ?_) rfl (by kernel_rfl) (by kernel_rfl) (by kernel_rfl) (fun _ _ _ h => h) (Or.inl ⟨by rfl, ?_⟩) hS ?_
            rotate_left
            · (intro w hSw; (try dsimp only at hSw); go_simp; try with_reducible rfl)
            (try simp only [Act.put, List.setIfInBounds_toArray, List.set_cons_zero, List.set_cons_succ])
            refine wpAnyH_take (i := 3) (oi := ({ dst := some 56, op := Op.fieldAddr 60 (Operand.tmp 55) 1, type := 0, pos := "ref.go:23", after := #[{ on := 2, ground := Ground.data }], guard := none } : Oper)) (v := ?_) rfl (by kernel_rfl) (by kernel_rfl) (by kernel_rfl) (fun _ _ _ h => h) (Or.inl ⟨by rfl, ?_⟩) hS ?_
            rotate_left
            · (intro w hSw; (try dsimp only at hSw); go_simp; try with_reducible rfl)
            (try simp only [Act.put, List.setIfInBounds_toArray, List.set_cons_zero, List.set_cons_succ])
            refine wpAnyH_take (i := 4) (oi := ({ dst := some 57, op := Op.load 3 (Operand.tmp 56), type := 3, pos := "ref.go:23", after := #[{ on := 3, ground := Ground.data }], guard := none } : Oper)) (v := ?_) rfl (by kernel_rfl) (by kernel_rfl) (by kernel_rfl) (fun _ _ _ h => h) (Or.inl ⟨by rfl, ?_⟩) hS ?_
            rotate_left
            · (intro w hSw; (try dsimp only at hSw); have z := (HC2.out w hSw).2.1; go_simp; try with_reducible rfl)
            (try simp only [Act.put, List.setIfInBounds_toArray, List.set_cons_zero, List.set_cons_succ])
            refine wpAnyH_take (i := 5) (oi := ({ dst := some 58, op := Op.move (Operand.tmp 0), type := 22, pos := "ref.go:23", after := #[], guard := none } : Oper)) (v := ?_) rfl (by kernel_rfl) (by kernel_rfl) (by kernel_rfl) (fun _ _ _ h => h) (Or.inl ⟨by rfl, ?_⟩) hS ?_
            rotate_left
            · (intro w hSw; (try dsimp only at hSw); go_simp; try with_reducible rfl)
            (try simp only [Act.put, List.setIfInBounds_toArray, List.set_cons_zero, List.set_cons_succ])
            refine wpAnyH_take (i := 6) (oi := ({ dst := some 59, op := Op.binOp BinOp.rem 22 (Operand.tmp 58) (Operand.const (Value.int IntKind.u64 4294967296)) 22, type := 22, pos := "ref.go:23", after := #[{ on := 5, ground := Ground.data }], guard := none } : Oper)) (v := ?_) rfl (by kernel_rfl) (by kernel_rfl) (by kernel_rfl) (fun _ _ _ h => h) (Or.inl ⟨by rfl, ?_⟩) hS ?_
            rotate_left
            · (intro w hSw; (try dsimp only at hSw); go_simp; try with_reducible rfl)
            (try simp only [Act.put, List.setIfInBounds_toArray, List.set_cons_zero, List.set_cons_succ])
            refine wpAnyH_take (i := 7) (oi := ({ dst := some 60, op := Op.convert 22 61 (Operand.tmp 59), type := 61, pos := "ref.go:23", after := #[{ on := 6, ground := Ground.data }], guard := none } : Oper)) (v := ?_) rfl (by kernel_rfl) (by kernel_rfl) (by kernel_rfl) (fun _ _ _ h => h) (Or.inl ⟨by rfl, ?_⟩) hS ?_
            rotate_left
            · (intro w hSw; (try dsimp only at hSw); go_simp; try with_reducible rfl)
            (try simp only [Act.put, List.setIfInBounds_toArray, List.set_cons_zero, List.set_cons_succ])
            refine wpAnyH_take (i := 8) (oi := ({ dst := some 61, op := Op.move (Operand.tmp 3), type := 26, pos := "ref.go:23", after := #[], guard := none } : Oper)) (v := ?_) rfl (by kernel_rfl) (by kernel_rfl) (by kernel_rfl) (fun _ _ _ h => h) (Or.inl ⟨by rfl, ?_⟩) hS ?_
            rotate_left
            · (intro w hSw; (try dsimp only at hSw); go_simp; try with_reducible rfl)
            (try simp only [Act.put, List.setIfInBounds_toArray, List.set_cons_zero, List.set_cons_succ])
            refine wpAnyH_take (i := 9) (oi := ({ dst := some 62, op := Op.move (Operand.tmp 11), type := 46, pos := "ref.go:23", after := #[], guard := none } : Oper)) (v := ?_) rfl (by kernel_rfl) (by kernel_rfl) (by kernel_rfl) (fun _ _ _ h => h) (Or.inl ⟨by rfl, ?_⟩) hS ?_
            rotate_left
            · (intro w hSw; (try dsimp only at hSw); go_simp; try with_reducible rfl)
            (try simp only [Act.put, List.setIfInBounds_toArray, List.set_cons_zero, List.set_cons_succ])
            refine wpAnyH_take (i := 10) (oi := ({ dst := some 63, op := Op.move (Operand.tmp 16), type := 3, pos := "ref.go:23", after := #[], guard := none } : Oper)) (v := ?_) rfl (by kernel_rfl) (by kernel_rfl) (by kernel_rfl) (fun _ _ _ h => h) (Or.inl ⟨by rfl, ?_⟩) hS ?_
            rotate_left
            · (intro w hSw; (try dsimp only at hSw); go_simp; try with_reducible rfl)
            (try simp only [Act.put, List.setIfInBounds_toArray, List.set_cons_zero, List.set_cons_succ])
            refine wpAnyH_take (i := 11) (oi := ({ dst := some 64, op := Op.indexAddr 46 (Operand.tmp 62) (Operand.tmp 63), type := 0, pos := "ref.go:23", after := #[{ on := 9, ground := Ground.data }, { on := 10, ground := Ground.data }], guard := none } : Oper)) (v := ?_) rfl (by kernel_rfl) (by kernel_rfl) (by kernel_rfl) (fun _ _ _ h => h) (Or.inl ⟨by rfl, ?_⟩) hS ?_
            rotate_left
            · (intro w hSw; (try dsimp only at hSw); go_simp; try with_reducible rfl)
            (try simp only [Act.put, List.setIfInBounds_toArray, List.set_cons_zero, List.set_cons_succ])
            refine wpAnyH_take (i := 12) (oi := ({ dst := some 65, op := Op.fieldAddr 60 (Operand.tmp 64) 2, type := 0, pos := "ref.go:23", after := #[{ on := 11, ground := Ground.data }], guard := none } : Oper)) (v := ?_) rfl (by kernel_rfl) (by kernel_rfl) (by kernel_rfl) (fun _ _ _ h => h) (Or.inl ⟨by rfl, ?_⟩) hS ?_
            rotate_left
            · (intro w hSw; (try dsimp only at hSw); go_simp; try with_reducible rfl)
            (try simp only [Act.put, List.setIfInBounds_toArray, List.set_cons_zero, List.set_cons_succ])
            refine wpAnyH_take (i := 13) (oi := ({ dst := some 66, op := Op.load 3 (Operand.tmp 65), type := 3, pos := "ref.go:23", after := #[{ on := 12, ground := Ground.data }], guard := none } : Oper)) (v := ?_) rfl (by kernel_rfl) (by kernel_rfl) (by kernel_rfl) (fun _ _ _ h => h) (Or.inl ⟨by rfl, ?_⟩) hS ?_
            rotate_left
            · (intro w hSw; (try dsimp only at hSw); have z := (HC2.out w hSw).2.2.1; go_simp; try with_reducible rfl)
            (try simp only [Act.put, List.setIfInBounds_toArray, List.set_cons_zero, List.set_cons_succ])
            refine wpAnyH_take (i := 14) (oi := ({ dst := some 67, op := Op.move (Operand.tmp 11), type := 46, pos := "ref.go:23", after := #[], guard := none } : Oper)) (v := ?_) rfl (by kernel_rfl) (by kernel_rfl) (by kernel_rfl) (fun _ _ _ h => h) (Or.inl ⟨by rfl, ?_⟩) hS ?_
            rotate_left
            · (intro w hSw; (try dsimp only at hSw); go_simp; try with_reducible rfl)
            (try simp only [Act.put, List.setIfInBounds_toArray, List.set_cons_zero, List.set_cons_succ])
            refine wpAnyH_take (i := 15) (oi := ({ dst := some 68, op := Op.move (Operand.tmp 16), type := 3, pos := "ref.go:23", after := #[], guard := none } : Oper)) (v := ?_) rfl (by kernel_rfl) (by kernel_rfl) (by kernel_rfl) (fun _ _ _ h => h) (Or.inl ⟨by rfl, ?_⟩) hS ?_
            rotate_left
            · (intro w hSw; (try dsimp only at hSw); go_simp; try with_reducible rfl)
            (try simp only [Act.put, List.setIfInBounds_toArray, List.set_cons_zero, List.set_cons_succ])
            refine wpAnyH_take (i := 16) (oi := ({ dst := some 69, op := Op.indexAddr 46 (Operand.tmp 67) (Operand.tmp 68), type := 0, pos := "ref.go:23", after := #[{ on := 14, ground := Ground.data }, { on := 15, ground := Ground.data }], guard := none } : Oper)) (v := ?_) rfl (by kernel_rfl) (by kernel_rfl) (by kernel_rfl) (fun _ _ _ h => h) (Or.inl ⟨by rfl, ?_⟩) hS ?_
            rotate_left
            · (intro w hSw; (try dsimp only at hSw); go_simp; try with_reducible rfl)
            (try simp only [Act.put, List.setIfInBounds_toArray, List.set_cons_zero, List.set_cons_succ])
            refine wpAnyH_take (i := 17) (oi := ({ dst := some 70, op := Op.fieldAddr 60 (Operand.tmp 69) 3, type := 0, pos := "ref.go:23", after := #[{ on := 16, ground := Ground.data }], guard := none } : Oper)) (v := ?_) rfl (by kernel_rfl) (by kernel_rfl) (by kernel_rfl) (fun _ _ _ h => h) (Or.inl ⟨by rfl, ?_⟩) hS ?_
            rotate_left
            · (intro w hSw; (try dsimp only at hSw); go_simp; try with_reducible rfl)
            (try simp only [Act.put, List.setIfInBounds_toArray, List.set_cons_zero, List.set_cons_succ])
            refine wpAnyH_take (i := 18) (oi := ({ dst := some 71, op := Op.load 3 (Operand.tmp 70), type := 3, pos := "ref.go:23", after := #[{ on := 17, ground := Ground.data }], guard := none } : Oper)) (v := ?_) rfl (by kernel_rfl) (by kernel_rfl) (by kernel_rfl) (fun _ _ _ h => h) (Or.inl ⟨by rfl, ?_⟩) hS ?_
            rotate_left
            · (intro w hSw; (try dsimp only at hSw); have z := (HC2.out w hSw).2.2.2; go_simp; try with_reducible rfl)
            (try simp only [Act.put, List.setIfInBounds_toArray, List.set_cons_zero, List.set_cons_succ])
            refine wpAnyH_take (i := 19) (oi := ({ dst := some 72, op := Op.slice 26 (Operand.tmp 61) (some (Operand.tmp 66)) (some (Operand.tmp 71)) none, type := 26, pos := "ref.go:23", after := #[{ on := 8, ground := Ground.data }, { on := 13, ground := Ground.data }, { on := 18, ground := Ground.data }], guard := none } : Oper)) (v := .slice dq k qc) rfl (by kernel_rfl) (by kernel_rfl) (by kernel_rfl) (fun _ _ _ h => h) (Or.inl ⟨by rfl, ?_⟩) hS ?_
            · (intro w hSw; (try dsimp only at hSw); exact (exec_cut_lh (.tmp 61) (.tmp 66) (.tmp 71) rfl da n dc l k rfl rfl (by rw [HH.out]; rfl) HDC2.out).trans (by rw [HSL.out]))
            (try simp only [Act.put, List.setIfInBounds_toArray, List.set_cons_zero, List.set_cons_succ])
            refine wpAnyH_take (i := 20) (oi := ({ dst := some 73, op := Op.build 63 #[(0, Operand.tmp 57), (1, Operand.tmp 60), (2, Operand.tmp 72)], type := 63, pos := "ref.go:23", after := #[{ on := 4, ground := Ground.data }, { on := 7, ground := Ground.data }, { on := 19, ground := Ground.data }], guard := none } : Oper)) (v := .agg #[.int .i64 kd, .int .u32 e32, .slice dq k qc]) rfl (by kernel_rfl) (by kernel_rfl) (by kernel_rfl) (fun _ _ _ h => h) (Or.inl ⟨by rfl, ?_⟩) hS ?_
            · (intro w hSw; (try dsimp only at hSw); go_simp)
            (try simp only [Act.put, List.setIfInBounds_toArray, List.set_cons_zero, List.set_cons_succ])
            refine rg_one 21 ({ dst := some 74, op := Op.call { callee := Callee.value (Operand.func 23), args := #[Operand.tmp 73], argTypes := #[63] }, type := 26, pos := "ref.go:23", after := #[{ on := 20, ground := Ground.data }], guard := none } : Oper) (by kernel_rfl) rfl (fun K hK => ?_)
            go_simp
            (go_at_call 23; (with_reducible refine (HE.out _ hS).mono ?_); rintro r w6 ⟨a6, c6, rfl, ho6, hb6⟩; have HO6 := Lib.hid ho6; have hN := grown_chain hS hb6; have HG6 := Lib.hid hN; have HY6 := Lib.hid ((HY.out.keep (Below.refl _ _).drew).keep hb6); clear ho6 hb6)
            refine hK.out _ _ ?_ (fun hS1 => ?_)
            · (exact hN)
            clear hK K hS; have hS := hS1; clear hS1
            (try simp only [Act.put, List.setIfInBounds_toArray, List.set_cons_zero, List.set_cons_succ])
            refine wpAnyH_take (i := 22) (oi := ({ dst := some 17, op := Op.assign (Operand.tmp 74), type := 26, pos := "ref.go:23", after := #[{ on := 21, ground := Ground.data }, { on := 21, ground := Ground.chain }, { on := 0, ground := Ground.phase }, { on := 1, ground := Ground.phase }, { on := 2, ground := Ground.phase }, { on := 3, ground := Ground.phase }, { on := 4, ground := Ground.phase }, { on := 5, ground := Ground.phase }, { on := 6, ground := Ground.phase }, { on := 7, ground := Ground.phase }, { on := 8, ground := Ground.phase }, { on := 9, ground := Ground.phase }, { on := 10, ground := Ground.phase }, { on := 11, ground := Ground.phase }, { on := 12, ground := Ground.phase }, { on := 13, ground := Ground.phase }, { on := 14, ground := Ground.phase }, { on := 15, ground := Ground.phase }, { on := 16, ground := Ground.phase }, { on := 17, ground := Ground.phase }, { on := 18, ground := Ground.phase }, { on := 19, ground := Ground.phase }, { on := 20, ground := Ground.phase }, { on := 21, ground := Ground.phase }], guard := none } : Oper)) (v := ?_) rfl (by kernel_rfl) (by kernel_rfl) (by kernel_rfl) (fun _ _ _ h => h) (Or.inl ⟨by rfl, ?_⟩) hS ?_
            rotate_left
            · (intro w hSw; (try dsimp only at hSw); go_simp; try with_reducible rfl)
            (try simp only [Act.put, List.setIfInBounds_toArray, List.set_cons_zero, List.set_cons_succ])
            refine wpAnyH_done (by kernel_rfl) ?_ _
            have HGB : Hid (g < wo.heap.size) := Lib.hid HY.out.lt
            have HOB : Hid (∀ w', w6.grownBy w' (some g) → RI .u8 w' (.slice a6 (11 + k) c6) (11 + k) (pcB e32 zs c)) := Lib.hid fun w' hg => RI.own (own_over HO6.out hg (fun q hq e => by have := (HO6.out.lt q hq).1; have := Option.some.inj e; have := HGB.out; simp at *; omega))
            have HC6 : Hid (∀ w', w6.grownBy w' (some g) → w'.cell? ⟨b2, o2 + i * 4, none⟩ = some (.int .i64 (q : Int))) := Lib.hid fun w' hg => (HC2.out w' (grown_trans HG6.out hg)).1
            clear hS hN HO6 HE HC2
            go_wp2
            go_loopw [18] (fun jv wr => ∃ j : Nat, jv = .int .i64 (j : Int) ∧ j ≤ 11 + k ∧ Hid (w6.grownBy wr (some g)) ∧ Hid (YB wr g (splice (layP e32 zs (pad8 bs) (ps.take i)) q ((pcB e32 zs c).take j)))) (fun jv _ => 11 + k - (intOf jv).toNat)
            case atStart => exact ⟨0, rfl, by omega, Lib.hid (grown_refl _ _), Lib.hid (by simpa [splice] using HY6.out)⟩
            case round =>
              rename World => wi
              obtain ⟨j, rfl, hjk, HGI, HYI⟩ := hrel
              by_cases hlj : (j : Int) < ((11 + k : Nat) : Int)
              · have HSP := Lib.hid (splice_set (layP e32 zs (pad8 bs) (ps.take i)) (pcB e32 zs c) q j (by rw [HPL.out]; omega) (by rw [HPL.out, HLN.out]; have := HQ.out; omega))
                have HLS : Hid ((splice (layP e32 zs (pad8 bs) (ps.take i)) q ((pcB e32 zs c).take j)).length = 832) := Lib.hid (by rw [splice_len _ _ _ (by rw [HLN.out, List.length_take, HPL.out]; have := HQ.out; omega), HLN.out])
                obtain ⟨b3, o3, rfl, hcell⟩ := (HOB.out wi HGI.out).at_ (by omega)
                have HCB : Hid (∀ w', w6.grownBy w' (some g) → w'.cell? ⟨b3, o3 + j, none⟩ = some (.int .u8 ((pcB e32 zs c).getD j 0))) := Lib.hid fun w' hg => by
                  obtain ⟨b4, o4, e4, hc4⟩ := (HOB.out w' hg).at_ (by omega)
                  obtain ⟨rfl, rfl⟩ : b3 = b4 ∧ o3 = o4 := by simpa using e4
                  exact hc4 j (by omega)
                clear hcell
                obtain ⟨p, hp⟩ : ∃ p, q + j = p := ⟨_, rfl⟩
                rw [hp] at HSP
                have hp8 : (p : Int) < 832 := by have := HQ.out; omega
                have hwr : IntKind.i64.wrap ((q : Int) + (j : Int)) = (p : Int) := by rw [← hp]; exact IntWalk.i64_in _ (by have := HQ.out; omega)
                clear hp
                go_wp2_with fail
                refine wp_region_held_drew (S := (fun w' => w6.grownBy w' (some g))) (by kernel_rfl) (grown_drew HGI.out) (fun hS => ?_)
                refine wpAnyH_take (i := 0) (oi := ({ dst := some 81, op := Op.move (Operand.tmp 14), type := 26, pos := "ref.go:25", after := #[], guard := none } : Oper)) (v := ?_) rfl (by kernel_rfl) (by kernel_rfl) (by kernel_rfl) (fun _ _ _ h => h) (Or.inl ⟨by rfl, ?_⟩) hS ?_
                rotate_left
                · (intro w hSw; (try dsimp only at hSw); go_simp; try with_reducible rfl)
                (try simp only [Act.put, List.setIfInBounds_toArray, List.set_cons_zero, List.set_cons_succ])
                refine wpAnyH_take (i := 1) (oi := ({ dst := some 82, op := Op.move (Operand.tmp 11), type := 46, pos := "ref.go:25", after := #[], guard := none } : Oper)) (v := ?_) rfl (by kernel_rfl) (by kernel_rfl) (by kernel_rfl) (fun _ _ _ h => h) (Or.inl ⟨by rfl, ?_⟩) hS ?_
                rotate_left
                · (intro w hSw; (try dsimp only at hSw); go_simp; try with_reducible rfl)
                (try simp only [Act.put, List.setIfInBounds_toArray, List.set_cons_zero, List.set_cons_succ])
                refine wpAnyH_take (i := 2) (oi := ({ dst := some 83, op := Op.move (Operand.tmp 16), type := 3, pos := "ref.go:25", after := #[], guard := none } : Oper)) (v := ?_) rfl (by kernel_rfl) (by kernel_rfl) (by kernel_rfl) (fun _ _ _ h => h) (Or.inl ⟨by rfl, ?_⟩) hS ?_
                rotate_left
                · (intro w hSw; (try dsimp only at hSw); go_simp; try with_reducible rfl)
                (try simp only [Act.put, List.setIfInBounds_toArray, List.set_cons_zero, List.set_cons_succ])
                refine wpAnyH_take (i := 3) (oi := ({ dst := some 84, op := Op.indexAddr 46 (Operand.tmp 82) (Operand.tmp 83), type := 0, pos := "ref.go:25", after := #[{ on := 1, ground := Ground.data }, { on := 2, ground := Ground.data }], guard := none } : Oper)) (v := ?_) rfl (by kernel_rfl) (by kernel_rfl) (by kernel_rfl) (fun _ _ _ h => h) (Or.inl ⟨by rfl, ?_⟩) hS ?_
                rotate_left
                · (intro w hSw; (try dsimp only at hSw); go_simp; try with_reducible rfl)
                (try simp only [Act.put, List.setIfInBounds_toArray, List.set_cons_zero, List.set_cons_succ])
                refine wpAnyH_take (i := 4) (oi := ({ dst := some 85, op := Op.fieldAddr 60 (Operand.tmp 84) 0, type := 0, pos := "ref.go:25", after := #[{ on := 3, ground := Ground.data }], guard := none } : Oper)) (v := ?_) rfl (by kernel_rfl) (by kernel_rfl) (by kernel_rfl) (fun _ _ _ h => h) (Or.inl ⟨by rfl, ?_⟩) hS ?_
                rotate_left
                · (intro w hSw; (try dsimp only at hSw); go_simp; try with_reducible rfl)
                (try simp only [Act.put, List.setIfInBounds_toArray, List.set_cons_zero, List.set_cons_succ])
                refine wpAnyH_take (i := 5) (oi := ({ dst := some 86, op := Op.load 3 (Operand.tmp 85), type := 3, pos := "ref.go:25", after := #[{ on := 4, ground := Ground.data }], guard := none } : Oper)) (v := ?_) rfl (by kernel_rfl) (by kernel_rfl) (by kernel_rfl) (fun _ _ _ h => h) (Or.inl ⟨by rfl, ?_⟩) hS ?_
                rotate_left
                · (intro w hSw; (try dsimp only at hSw); have z := HC6.out w hSw; go_simp; try with_reducible rfl)
                (try simp only [Act.put, List.setIfInBounds_toArray, List.set_cons_zero, List.set_cons_succ])
                refine wpAnyH_take (i := 6) (oi := ({ dst := some 87, op := Op.move (Operand.tmp 18), type := 3, pos := "ref.go:25", after := #[], guard := none } : Oper)) (v := ?_) rfl (by kernel_rfl) (by kernel_rfl) (by kernel_rfl) (fun _ _ _ h => h) (Or.inl ⟨by rfl, ?_⟩) hS ?_
                rotate_left
                · (intro w hSw; (try dsimp only at hSw); go_simp; try with_reducible rfl)
                (try simp only [Act.put, List.setIfInBounds_toArray, List.set_cons_zero, List.set_cons_succ])
                refine wpAnyH_take (i := 7) (oi := ({ dst := some 88, op := Op.binOp BinOp.add 3 (Operand.tmp 86) (Operand.tmp 87) 3, type := 3, pos := "ref.go:25", after := #[{ on := 5, ground := Ground.data }, { on := 6, ground := Ground.data }], guard := none } : Oper)) (v := ?_) rfl (by kernel_rfl) (by kernel_rfl) (by kernel_rfl) (fun _ _ _ h => h) (Or.inl ⟨by rfl, ?_⟩) hS ?_
                rotate_left
                · (intro w hSw; (try dsimp only at hSw); go_simp; try with_reducible rfl)
                (try simp only [Act.put, List.setIfInBounds_toArray, List.set_cons_zero, List.set_cons_succ])
                refine wpAnyH_take (i := 8) (oi := ({ dst := some 89, op := Op.move (Operand.tmp 17), type := 26, pos := "ref.go:25", after := #[], guard := none } : Oper)) (v := ?_) rfl (by kernel_rfl) (by kernel_rfl) (by kernel_rfl) (fun _ _ _ h => h) (Or.inl ⟨by rfl, ?_⟩) hS ?_
                rotate_left
                · (intro w hSw; (try dsimp only at hSw); go_simp; try with_reducible rfl)
                (try simp only [Act.put, List.setIfInBounds_toArray, List.set_cons_zero, List.set_cons_succ])
                refine wpAnyH_take (i := 9) (oi := ({ dst := some 90, op := Op.move (Operand.tmp 18), type := 3, pos := "ref.go:25", after := #[], guard := none } : Oper)) (v := ?_) rfl (by kernel_rfl) (by kernel_rfl) (by kernel_rfl) (fun _ _ _ h => h) (Or.inl ⟨by rfl, ?_⟩) hS ?_
                rotate_left
                · (intro w hSw; (try dsimp only at hSw); go_simp; try with_reducible rfl)
                (try simp only [Act.put, List.setIfInBounds_toArray, List.set_cons_zero, List.set_cons_succ])
                refine wpAnyH_take (i := 10) (oi := ({ dst := some 91, op := Op.indexAddr 26 (Operand.tmp 89) (Operand.tmp 90), type := 0, pos := "ref.go:25", after := #[{ on := 8, ground := Ground.data }, { on := 9, ground := Ground.data }], guard := none } : Oper)) (v := ?_) rfl (by kernel_rfl) (by kernel_rfl) (by kernel_rfl) (fun _ _ _ h => h) (Or.inl ⟨by rfl, ?_⟩) hS ?_
                rotate_left
                · (intro w hSw; (try dsimp only at hSw); go_simp; try with_reducible rfl)
                (try simp only [Act.put, List.setIfInBounds_toArray, List.set_cons_zero, List.set_cons_succ])
                refine wpAnyH_take (i := 11) (oi := ({ dst := some 92, op := Op.load 5 (Operand.tmp 91), type := 5, pos := "ref.go:25", after := #[{ on := 10, ground := Ground.data }], guard := none } : Oper)) (v := ?_) rfl (by kernel_rfl) (by kernel_rfl) (by kernel_rfl) (fun _ _ _ h => h) (Or.inl ⟨by rfl, ?_⟩) hS ?_
                rotate_left
                · (intro w hSw; (try dsimp only at hSw); have z := HCB.out w hSw; go_simp; try with_reducible rfl)
                (try simp only [Act.put, List.setIfInBounds_toArray, List.set_cons_zero, List.set_cons_succ])
                refine wpAnyH_take (i := 12) (oi := ({ dst := some 93, op := Op.indexAddr 26 (Operand.tmp 81) (Operand.tmp 88), type := 0, pos := "ref.go:25", after := #[{ on := 0, ground := Ground.data }, { on := 7, ground := Ground.data }, { on := 0, ground := Ground.phase }, { on := 1, ground := Ground.phase }, { on := 2, ground := Ground.phase }, { on := 3, ground := Ground.phase }, { on := 4, ground := Ground.phase }, { on := 5, ground := Ground.phase }, { on := 6, ground := Ground.phase }, { on := 7, ground := Ground.phase }, { on := 8, ground := Ground.phase }, { on := 9, ground := Ground.phase }, { on := 10, ground := Ground.phase }, { on := 11, ground := Ground.phase }], guard := none } : Oper)) (v := ?_) rfl (by kernel_rfl) (by kernel_rfl) (by kernel_rfl) (fun _ _ _ h => h) (Or.inl ⟨by rfl, ?_⟩) hS ?_
                rotate_left
                · (intro w hSw; (try dsimp only at hSw); go_simp; try with_reducible rfl)
                (try simp only [Act.put, List.setIfInBounds_toArray, List.set_cons_zero, List.set_cons_succ])
                refine rg_one 13 ({ dst := none, op := Op.store 5 (Operand.tmp 93) (Operand.tmp 92), type := 0, pos := "ref.go:25", after := #[{ on := 12, ground := Ground.data }, { on := 11, ground := Ground.data }, { on := 0, ground := Ground.phase }, { on := 1, ground := Ground.phase }, { on := 2, ground := Ground.phase }, { on := 3, ground := Ground.phase }, { on := 4, ground := Ground.phase }, { on := 5, ground := Ground.phase }, { on := 6, ground := Ground.phase }, { on := 7, ground := Ground.phase }, { on := 8, ground := Ground.phase }, { on := 9, ground := Ground.phase }, { on := 10, ground := Ground.phase }, { on := 11, ground := Ground.phase }], guard := none } : Oper) (by kernel_rfl) rfl (fun K hK => ?_)
                rw [if_pos (by rfl)]; refine wp_put_yb _ _ rfl g p _ ((pcB e32 zs c).getD j 0) (HYI.out.keep (Below.refl _ _).drew) (by rw [HLS.out]; omega) rfl rfl ?_; intro w7 HY7 HG7; rw [HSP.out] at HY7; have hN := grown_trans (grown_drew HGI.out) HG7.out; have HG7 := Lib.hid hN
                refine hK.out _ _ ?_ (fun hS1 => ?_)
                · (exact hN)
                clear hK K hS; have hS := hS1; clear hS1
                (try simp only [Act.put])
                refine wpAnyH_done (by kernel_rfl) ?_ _
                go_wp2
                go_roundw
                case rel => exact ⟨j + 1, by go_num, by omega, HG7, HY7⟩
                case measure => simp [intOf]; omega
              · obtain rfl : j = 11 + k := by omega
                have HYE : Hid (YB wi g (layP e32 zs (pad8 bs) (ps.take (i + 1)))) := Lib.hid (by have := HYI.out; rw [List.take_of_length_le (l := pcB e32 zs c) (by rw [HPL.out]; omega), ← HNX.out] at this; exact this)
                have HGE := Lib.hid (grown_trans HG6.out HGI.out)
                go_wp2
                go_roundw
                case rel => exact ⟨i + 1, by go_num, by omega, HGE, HYE⟩
                case measure => simp [intOf]; omega
          · obtain rfl : i = m := by omega
            have HE : Hid (YB wo g out) := Lib.hid (by have := HY.out; rw [List.take_of_length_le (by rw [HM.out]; omega), HLR.out] at this; exact this)
            go_wp2
            go_ret3
            exact ⟨g, rfl, HE.out, HGW.out.1, HBW.out _ HG.out⟩
end Go.Proofs.YtjlnceldnbpapaaDoor
