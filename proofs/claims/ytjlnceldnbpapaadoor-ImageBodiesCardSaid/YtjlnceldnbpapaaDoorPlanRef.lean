/-
  LAYER 16 (plan): what the reference's Sector, Write, Whole answer. No condition.
-/
import Derived.Test.YtjlnceldnbpapaaDoorJPlan
import Derived.Test.YtjlnceldnbpapaaDoorBelow
import Derived.Test.YtjlnceldnbpapaaDoorJStamp
import Derived.Test.YtjlnceldnbpapaaDoorSecsB
import Derived.Test.YtjlnceldnbpapaaDoorSlices
namespace Go.Proofs.YtjlnceldnbpapaaDoor
open Go.RowKit
set_option maxRecDepth 8000 in
set_option maxHeartbeats 1000000 in
theorem rsector_any (x : Int) (hx : U64 x) (v : Value) (len : Nat) (zs : List Int) (hlen : len ≤ 1000000) (i : Nat) (hi : i ≤ 1000) (w : World) (h : RI .u8 w v len zs) :
    Calls Tryd.prog 31 #[.int .u64 x, v, .int .i64 (i : Int)] w fun e w' => e = .returned (.agg (sv (sealed x (i : Int) (partB zs i)))) ∧ Below w.heap.size w w' := by
  obtain ⟨w0, hw0⟩ : ∃ w0, w.alloc (.cells (sv z64) 53) = w0 := ⟨_, rfl⟩
  have hb0 := below_alloc w (.cells (sv z64) 53)
  have hs0 := alloc_size w (.cells (sv z64) 53)
  have hk0 := Blk.new w z64 z64_length
  rw [hw0] at hb0 hs0 hk0
  have HK0 := Lib.hid hk0
  have HB0 := Lib.hid hb0
  have HS0 := Lib.hid hs0
  have HW := Lib.hid hw0
  have HZ := Lib.hid z64_cells
  have HR := Lib.hid (h.keep hb0)
  have HL := Lib.hid h.length
  obtain ⟨a, cap, rfl, _⟩ := id h
  obtain ⟨p, hp⟩ : ∃ p : Nat, 52 * i = p := ⟨_, rfl⟩
  obtain ⟨m, hm⟩ : ∃ m : Nat, min 52 (len - p) = m := ⟨_, rfl⟩
  have hpi : 52 * (i : Int) = (p : Int) := by omega
  obtain ⟨l, hl⟩ : ∃ l, sealed x (i : Int) (partB zs i) = l := ⟨_, rfl⟩
  have HPT : Hid ((zs.drop p).take m = partB zs i) := Lib.hid (by
    have hzl := HL.out
    unfold partB; rw [hp, ← hm]
    by_cases h1 : 52 ≤ len - p
    · rw [Nat.min_eq_left h1]
    · rw [Nat.min_eq_right (by omega), List.take_of_length_le (by simp; omega), List.take_of_length_le (by simp; omega)])
  have HSE : Hid (∀ (v : Value) (n : Nat) (w : World), RI .u8 w v n (partB zs i) → Calls Tryd.prog 46 #[.int .u64 x, .int .i64 (i : Int), v] w fun e w' => e = .returned (.agg (sv l)) ∧ Below w.heap.size w w') := fun v n w h => by
    rw [← hl]; exact rseal_any x i hx (by unfold I63; omega) v n _ w h
  have HLL := Lib.hid (show l.length = 64 from by rw [← hl]; exact sealed_length _ _ _)
  have hp2 : p ≤ 52000 := by omega
  have hm52 : m ≤ 52 := by omega
  have hml : m ≤ len - p := by omega
  have HM := Lib.hid hm
  rw [hl]
  clear hk0 hb0 hs0 hw0 h hx hl hm hp
  go_enter Tryd.func31, Tryd.ntmps31
  go_wp2
  rw [← HZ.out, HW.out]
  go_loopw [7, 8] (fun v iv wr => ∃ k : Nat, iv = .int .i64 ((p + k : Nat) : Int) ∧ k ≤ m ∧ Hid (wr.ownsRow w0.heap.size 5 1 v k (il .u8 ((zs.drop p).take k))) ∧ Hid (Below w0.heap.size w0 wr)) (fun _ iv _ => p + m - (intOf iv).toNat)
  case atStart => exact ⟨0, rfl, by omega, Lib.hid (World.ownsRow_nil _ _ _ _), Lib.hid (Below.refl _ _)⟩
  case round =>
    obtain ⟨k, rfl, hk, HO, HB⟩ := hrel
    obtain ⟨q, hq⟩ : ∃ q : Nat, p + k = q := ⟨_, rfl⟩
    rw [hq]
    by_cases hlt : k < m
    · have h1 : (q : Int) < (p : Int) + 52 := by omega
      have h2 : (q : Int) < (len : Int) := by omega
      obtain ⟨b, off, cp, e, _, _, hcell⟩ := (HR.out.keep HB.out).open_ (by omega)
      simp only [Value.slice.injEq, true_and] at e
      obtain ⟨rfl, rfl⟩ := e
      have hc1 := hcell q (by omega)
      obtain ⟨z, hz⟩ : ∃ z, zs.getD q 0 = z := ⟨_, rfl⟩
      rw [hz] at hc1
      have HT := Lib.hid (show (zs.drop p).take (k + 1) = (zs.drop p).take k ++ [z] from by
        have hzl := HL.out
        rw [← hz, List.take_add_one, List.getElem?_drop, hq, List.getElem?_eq_getElem (by omega)]
        simp [List.getD, List.getElem?_eq_getElem (show q < zs.length by omega)])
      have HQ := Lib.hid hq
      clear hz hcell hq
      go_wp2_with (first
        | (at_builtin; refine wpl_app1 rfl (.tmp 24) (.tmp 29) 26 rfl 5 .u8 1 Tryd.underlying26 Tryd.info_u8 w0.heap.size _ k ((zs.drop p).take k) rfl (HO.out.alloc _) ⟨wr.heap.size, 0, none⟩ z rfl (by simp) (by omega) (by omega) w0.heap.size w0 (HB.out.alloc HB.out.size _) (Nat.le_refl _) (by have := HB.out.size; simp; omega) ?_; intro v' w3 HO3 HB3))
      go_roundw
      case rel => exact ⟨k + 1, by rw [← Nat.add_assoc, HQ.out]; go_num, by omega, Lib.hid (by rw [HT.out]; exact HO3.out), HB3⟩
      case measure => simp [intOf]; have := HQ.out; omega
    · obtain rfl : k = m := by omega
      have HRP := Lib.hid (HPT.out ▸ RI.own HO.out)
      have HK1 := Lib.hid (HK0.out.keep HB.out)
      have HB1 := Lib.hid (bch HB0.out HB.out)
      by_cases h1 : (q : Int) < (p : Int) + 52
      · have h2 : ¬ (q : Int) < (len : Int) := by have := HM.out; omega
        go_wp2_with (first
          | (go_at_call 46; (refine (HSE.out _ _ _ HRP.out).mono ?_); rintro e w4 ⟨rfl, hb⟩; have HK4 := Lib.hid (HK1.out.keep hb); have HB4 := Lib.hid (bch HB1.out hb); clear hb)
          | (refine wpList_store_row rfl 53 _ _ rfl w.heap.size (sv l) rfl rfl _ (sv z64) HK4.out.1 (sv_info _ HLL.out) (by rw [sv_size, sv_size, HLL.out, z64_length]) (sv_one _) ?_))
        exact bodyPost_ret_by (v := .agg (sv l)) (results_cell_row rfl _ _ w.heap.size _ (sv l) (0, 0) _ rfl (HK4.out.row HLL.out).1 Tryd.underlying53 rfl (sv_info _ HLL.out)) rfl ⟨rfl, below_row HB4.out (Nat.le_refl _) _⟩
      · go_wp2_with (first
          | (go_at_call 46; (refine (HSE.out _ _ _ HRP.out).mono ?_); rintro e w4 ⟨rfl, hb⟩; have HK4 := Lib.hid (HK1.out.keep hb); have HB4 := Lib.hid (bch HB1.out hb); clear hb)
          | (refine wpList_store_row rfl 53 _ _ rfl w.heap.size (sv l) rfl rfl _ (sv z64) HK4.out.1 (sv_info _ HLL.out) (by rw [sv_size, sv_size, HLL.out, z64_length]) (sv_one _) ?_))
        exact bodyPost_ret_by (v := .agg (sv l)) (results_cell_row rfl _ _ w.heap.size _ (sv l) (0, 0) _ rfl (HK4.out.row HLL.out).1 Tryd.underlying53 rfl (sv_info _ HLL.out)) rfl ⟨rfl, below_row HB4.out (Nat.le_refl _) _⟩
end Go.Proofs.YtjlnceldnbpapaaDoor
