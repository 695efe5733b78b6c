/-
  WHAT THE DOCUMENT'S ANSWERS OF LAYER 6 (stamp) ANSWER: the reference's Room.
-/
import Derived.Test.YthickhfbllddjaaDoorJ9
namespace Go.Proofs.YthickhfbllddjaaDoor
open Go.RowKit
set_option maxRecDepth 8000 in
set_option maxHeartbeats 1000000 in
theorem rroom_any (l : List Int) (hl : l.length = 64) (w : World) :
    Calls Tryd.prog 55 #[.agg (sv l)] w fun e w' => ∃ v, e = .returned v ∧ RI .u8 w' v 52 (l.drop 12) ∧ Below w.heap.size w w' := by
  obtain ⟨w0, hw0⟩ : ∃ w0, w.alloc (.cells (sv l) 74) = w0 := ⟨_, rfl⟩
  have hb0 := below_alloc w (.cells (sv l) 74)
  have hs0 := alloc_size w (.cells (sv l) 74)
  have hk0 := Blk.new w l hl
  rw [hw0] at hb0 hs0 hk0
  have HK0 := Lib.hid hk0
  have HB0 := Lib.hid hb0
  have HS0 := Lib.hid hs0
  have HL := Lib.hid hl
  have HW := Lib.hid hw0
  clear hk0 hb0 hs0 hl hw0
  go_enter Tryd.func55, Tryd.ntmps55
  go_wp2
  rw [HW.out]
  go_loopw [3, 4] (fun v iv wr => ∃ k : Nat, iv = .int .i64 ((12 + k : Nat) : Int) ∧ k ≤ 52 ∧ Hid (wr.ownsRow w0.heap.size 5 1 v k (il .u8 ((l.drop 12).take k))) ∧ Hid (Below w0.heap.size w0 wr)) (fun _ iv _ => 64 - (intOf iv).toNat)
  case atStart => exact ⟨0, rfl, by omega, Lib.hid (World.ownsRow_nil _ _ _ _), Lib.hid (Below.refl _ _)⟩
  case round =>
    obtain ⟨k, rfl, hk, HO, HB⟩ := hrel
    by_cases hlt : ((12 + k : Nat) : Int) < 64
    · have hk2 : k < 52 := by omega
      have hk3 : 12 + k < 64 := by omega
      obtain ⟨z, hz⟩ : ∃ z, l.getD (12 + k) 0 = z := ⟨_, rfl⟩
      have hcell := (HK0.out.keep HB.out).cell (12 + k) hk3
      rw [hz] at hcell
      have HT := Lib.hid (show (l.drop 12).take (k + 1) = (l.drop 12).take k ++ [z] from by
        rw [← hz, List.take_add_one, List.getElem?_drop, List.getElem?_eq_getElem (by rw [HL.out]; omega)]
        simp [List.getD, HL.out, hk3])
      clear hz
      go_wp2_with (first
        | (at_builtin; refine wpl_app1 rfl (.tmp 9) (.tmp 13) 38 rfl 5 .u8 1 Tryd.underlying38 Tryd.info_u8 w0.heap.size _ k ((l.drop 12).take k) rfl (HO.out.alloc _) ⟨wr.heap.size, 0, none⟩ z rfl (by simp) (by omega) (by omega) w0.heap.size w0 (HB.out.alloc HB.out.size _) (Nat.le_refl _) (by have := HB.out.size; simp; omega) ?_; intro v' w3 HO3 HB3))
      go_roundw
      case rel => exact ⟨k + 1, by go_num, by omega, Lib.hid (by rw [HT.out]; exact HO3.out), HB3⟩
      case measure => simp [intOf]; omega
    · have hk2 : k = 52 := by omega
      subst hk2
      go_wp2
      go_ret
      refine ⟨_, rfl, ?_, chain HB0.out HB.out⟩
      have h1 := RI.own HO.out
      rwa [List.take_of_length_le (by simp [HL.out])] at h1
end Go.Proofs.YthickhfbllddjaaDoor
