/-
  THE WALK OF THE LAW PlanBack: whatever epoch, body and end come in: the call returns true and changes nothing that was there.
-/
import Derived.Test.YtedjebccclocnaaPlanB
namespace Go.Proofs.Ytedjebccclocnaa
open Go.RowKit
set_option maxRecDepth 8000 in
set_option maxHeartbeats 1000000 in
theorem back_walk (x : Int) (hx : U64 x) (v : Value) (len : Nat) (zs : List Int) (hzb : Bytes zs) (m : Int) (hm : I63 m) (W : World) (h : RI .u8 W v len zs) :
    Calls Try.prog 5 #[.int .u64 x, v, .int .i64 m] W fun e w' => e = .returned (.bool true) ∧ Below W.heap.size W w' := by
  have HR0 := Lib.hid h
  have HZL := Lib.hid h.length
  have hrl := h.le
  obtain ⟨ad, cap, rfl, _⟩ := id h
  by_cases hl : (len : Int) > 2000
  · clear h
    go_enter Try.func5, Try.ntmps5
    go_wp2_with (first
      | (go_at_call 6; (with_reducible refine (awake_any _).mono ?_); rintro e w1 ⟨rfl, hb⟩; have HB1 := Lib.hid hb; clear hb))
    go_ret
    exact ⟨rfl, HB1.out⟩
  by_cases h0 : x = 0
  · subst h0
    clear h
    go_enter Try.func5, Try.ntmps5
    go_wp2_with (first
      | (go_at_call 6; (with_reducible refine (awake_any _).mono ?_); rintro e w1 ⟨rfl, hb⟩; have HB1 := Lib.hid hb; clear hb))
    go_ret
    exact ⟨rfl, HB1.out⟩
  have hl2 : len ≤ 1000000 := by omega
  have h00 : nr 0 = 0 := by decide
  have hb16 := (touch_le 0 (nr m) (nr_le m)).2.1
  have HT : Hid (∀ w : World, Calls Try.prog 16 #[.int .i64 0, .int .i64 m] w fun e w' => e = .returned (.tuple #[.int .i64 ((touchN 0 (nr m)).1 : Int), .int .i64 ((touchN 0 (nr m)).2 : Int)]) ∧ w' = w) := fun w => by
    have := rtouch_any 0 m (by unfold I63; omega) hm w
    rwa [h00] at this
  have HWH : Hid (∀ w, RI .u8 w (.slice ad len cap) len zs → Calls Try.prog 14 #[.int .u64 x, .slice ad len cap, .int .i64 m] w fun e w' => ∃ v', e = .returned v' ∧ FS w' v' 16 (wholeK x zs (touchN 0 (nr m)).2 16) ∧ Below w.heap.size w w') := fun w h => whole_any x hx _ len zs hl2 m hm w h
  generalize (touchN 0 (nr m)).2 = n at *
  generalize (touchN 0 (nr m)).1 = n1 at *
  have HBG := Lib.hid (fun j hj => back_get x hx h0 zs n j hj)
  have HOK : Hid (∀ i, i < 16 → (flatK x 16 (wholeK x zs n 16) 16).getD i false = decide (i < n)) := fun i hi => by
    rw [flatK_get _ _ _ _ _ hi, okAt_whole x hx h0 zs n i hi]
  have HFL : Hid (∀ v w, FS w v 16 (wholeK x zs n 16) → Calls Try.prog 7 #[.int .u64 x, v] w fun e w' => ∃ g1 g2, e = .returned (.tuple #[.slice (some ⟨g1, 0, none⟩) 832 832, .slice (some ⟨g2, 0, none⟩) 16 16]) ∧
      RI .u8 w' (.slice (some ⟨g1, 0, none⟩) 832 832) 832 (flatB x 16 (wholeK x zs n 16) 16) ∧ BS w' (.slice (some ⟨g2, 0, none⟩) 16 16) 16 (flatK x 16 (wholeK x zs n 16) 16) ∧ Below w.heap.size w w') := fun v w h => flat_any x hx v 16 _ (wholeK_bytes x zs n hzb 16) w h
  generalize flatB x 16 (wholeK x zs n 16) 16 = B at *
  generalize flatK x 16 (wholeK x zs n 16) 16 = K at *
  generalize wholeK x zs n 16 = F at *
  clear h h00
  go_enter Try.func5, Try.ntmps5
  go_wp2_with (first
    | (go_at_call 14; (with_reducible refine (HWH.out _ HR0.out).mono ?_); rintro e w1 ⟨v1, rfl, hf, hb⟩; have HF1 := Lib.hid hf; have HR1 := Lib.hid (HR0.out.keep hb); have HB1 := Lib.hid hb; clear hf hb)
    | (go_at_call 7; (with_reducible refine (HFL.out _ _ HF1.out).mono ?_); rintro e w2 ⟨g1, g2, rfl, hr, hk, hb⟩; have HY2 := Lib.hid hr; have HK2 := Lib.hid hk; have HR2 := Lib.hid (HR1.out.keep hb); have HB2 := Lib.hid (bch HB1.out hb); clear hr hk hb)
    | (go_at_call 16; (with_reducible refine (HT.out _).mono ?_); rintro e w3 ⟨rfl, hw⟩; obtain rfl := hw.symm))
  go_loopw [11] (fun iv wr => ∃ j : Nat, iv = .int .i64 (j : Int) ∧ j ≤ 832 ∧ Hid (Below w2.heap.size w2 wr)) (fun iv _ => 832 - (intOf iv).toNat)
  case atStart => exact ⟨0, rfl, by omega, Lib.hid (Below.refl _ _)⟩
  case round =>
    obtain ⟨j, rfl, hj, HB⟩ := hrel
    by_cases hlt : (j : Int) < 832
    · have hp := HY2.out.cellAt j (by omega)
      have hbg := HBG.out j (by omega)
      rw [HZL.out] at hbg
      have HYW := Lib.hid (cell_keep HB.out hp)
      clear hp
      by_cases c1 : (j : Int) < 52 * (n : Int)
      · by_cases c2 : (j : Int) < (len : Int)
        · rw [if_pos ⟨by omega, by omega⟩] at hbg
          obtain ⟨b, off, cp, e, _, _, hcell⟩ := HR2.out.open_ (by omega)
          simp only [Value.slice.injEq, true_and] at e
          obtain ⟨rfl, rfl⟩ := e
          have hc1 := hcell j (by omega)
          obtain ⟨z, hz⟩ : ∃ z, zs.getD j 0 = z := ⟨_, rfl⟩
          rw [hz] at hc1 hbg
          have HZW := Lib.hid (cell_keep HB.out hc1)
          have hp := HYW.out
          rw [hbg] at hp
          have hq := HZW.out
          clear hz hc1 hcell hbg
          go_wp2
          go_roundw
          case rel => exact ⟨j + 1, by go_num, by omega, HB⟩
          case measure => simp [intOf]; omega
        · rw [if_neg (by omega)] at hbg
          have hp := HYW.out
          rw [hbg] at hp
          clear hbg
          go_wp2
          go_roundw
          case rel => exact ⟨j + 1, by go_num, by omega, HB⟩
          case measure => simp [intOf]; omega
      · rw [if_neg (by omega)] at hbg
        have hp := HYW.out
        rw [hbg] at hp
        clear hbg
        go_wp2
        go_roundw
        case rel => exact ⟨j + 1, by go_num, by omega, HB⟩
        case measure => simp [intOf]; omega
    · have HB3 := Lib.hid (bch HB2.out HB.out)
      have HK3 := Lib.hid (HK2.out.kin (Kin.below HB.out))
      rename World => wa
      go_wp2
      go_loopw [13] (fun iv wr => ∃ i : Nat, iv = .int .i64 (i : Int) ∧ i ≤ 16 ∧ Hid (Below wa.heap.size wa wr)) (fun iv _ => 16 - (intOf iv).toNat)
      case atStart => exact ⟨0, rfl, by omega, Lib.hid (Below.refl _ _)⟩
      case round =>
        obtain ⟨i, rfl, hi, HBI⟩ := hrel
        by_cases hli : (i : Int) < 16
        · have hp := cell_keep HBI.out (HK3.out.cellAt i (by omega))
          rw [HOK.out i (by omega)] at hp
          by_cases c3 : (i : Int) < (n : Int)
          · rw [decide_eq_true (show i < n by omega)] at hp
            go_wp2
            go_roundw
            case rel => exact ⟨i + 1, by go_num, by omega, HBI⟩
            case measure => simp [intOf]; omega
          · rw [decide_eq_false (show ¬ i < n by omega)] at hp
            go_wp2
            go_roundw
            case rel => exact ⟨i + 1, by go_num, by omega, HBI⟩
            case measure => simp [intOf]; omega
        · have HB4 := Lib.hid (bch HB3.out HBI.out)
          go_wp2_with (first
            | (go_at_call 6; (with_reducible refine (awake_any _).mono ?_); rintro e w5 ⟨rfl, hb⟩; have HB5 := Lib.hid (bch HB4.out hb); clear hb))
          go_ret
          exact ⟨rfl, HB5.out⟩
end Go.Proofs.Ytedjebccclocnaa
