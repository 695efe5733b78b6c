/-
  'awake' OF LAYER 6 (stamp).
-/
import Derived.Test.YthomcemnkkbjoaaStampCode
import Derived.Lib.SlBytesConst
namespace Go.Proofs.Ythomcemnkkbjoaa
open Go.RowKit
theorem sealed_31 : ¬ sealed 3 1 [120] = z64 := by
  intro h
  have : (sealed 3 1 [120]).getD 0 0 = z64.getD 0 0 := by rw [h]
  rw [sealed_get1 _ _ _ _ (by omega)] at this
  revert this; decide
/-- the bytes of a constant text, as they lie behind the conversion -/
theorem ri_x (w : World) : RI .u8 (w.alloc (.cells #[.int .u8 120] 5 (1, 2))) (.slice (some ⟨w.heap.size, 0, none⟩) 1 1) 1 [120] := by
  refine ⟨_, 1, rfl, rfl, Nat.le_refl _, by omega, fun h => by simp at h, fun _ => ⟨w.heap.size, 0, rfl, fun j hj => ?_⟩⟩
  obtain rfl : j = 0 := by omega
  have hg : (w.alloc (.cells #[.int .u8 120] 5 (1, 2))).heap[w.heap.size]? = some (.cells #[.int .u8 120] 5 (1, 2)) := by
    show (w.heap.push _)[w.heap.size]? = _
    simp
  rw [cell_of_row _ w.heap.size _ _ _ _ hg]
  rfl
set_option maxRecDepth 8000 in
set_option maxHeartbeats 1000000 in
theorem awake_any (w : World) : Calls Try.prog 10 #[] w fun e w' => e = .returned (.bool true) ∧ Below w.heap.size w w' := by
  obtain ⟨L, hL⟩ : ∃ L, sealed 3 1 [120] = L := ⟨_, rfl⟩
  have hl : L.length = 64 := by rw [← hL]; exact sealed_length _ _ _
  have hd : L.drop 12 = room [120] := by rw [← hL]; exact sealed_room _ _ _
  have HY := Lib.hid (show decide (sealed 3 1 (L.drop 12) = L) = true from decide_eq_true (by rw [← hL]; exact sealed_own _ _ _))
  have HE := Lib.hid (show decide (L = z64) = false from decide_eq_false (by rw [← hL]; exact sealed_31))
  have HL := Lib.hid hl
  have HBL := Lib.hid (show Bytes L from by rw [← hL]; exact sealed_bytes _ _ _ (bytes_of_mem fun z hz => by simp at hz; omega))
  have HD := Lib.hid hd
  have HS : Hid (∀ (v : Value) (w : World), RI .u8 w v 1 [120] → Calls Try.prog 6 #[.int .u64 3, .int .i64 1, v] w fun e w' => e = .returned (.agg (sv L)) ∧ Below w.heap.size w w') := fun v w h => by
    rw [← hL]; exact seal_any 3 1 (by unfold U64; omega) (by unfold I63; omega) v 1 [120] w h
  have HO : Hid (∀ w : World, Calls Try.prog 8 #[.agg (sv L), .int .u64 3, .int .i64 1] w fun e w' => ∃ b off cap, e = .returned (.tuple #[.slice (some ⟨b, off, none⟩) 52 cap, .bool true]) ∧ 52 ≤ cap ∧ w'.cell? ⟨b, off, none⟩ = some (.int .u8 120) ∧ Below w.heap.size w w') := fun w => by
    refine (open_any L HL.out HBL.out 3 1 (by unfold U64; omega) (by unfold I63; omega) w true HY.out).mono ?_
    rintro e w' ⟨v, rfl, hr, hb⟩
    obtain ⟨b, off, cap, rfl, hc, _, hcell⟩ := hr.open_ (by simp)
    refine ⟨b, off, cap, rfl, hc, ?_, hb⟩
    have := hcell 0 (by simp)
    simpa [hd, room] using this
  have HP : Hid (∀ w : World, Calls Try.prog 13 #[.agg (sv L)] w fun e w' => e = .returned (.bool false) ∧ Below w.heap.size w w') := fun w => by
    have := empty_any L HL.out w
    rwa [HE.out] at this
  have HZ := Lib.hid z64_cells
  clear hL hl hd
  have kc := fun (w : World) (C : Array Value) (n c : Nat) => Lib.run_convert_bytes_const (P := Try.prog) w 25 5 C n c Try.underlying25 Try.underlying5
  go_enter Try.func10, Try.ntmps10
  go_wp2_with (first
    | (go_at_call 6; (refine (HS.out _ _ (ri_x w)).mono ?_); rintro e w1 ⟨rfl, hb⟩; have HB1 := Lib.hid (chain (below_alloc w _) hb); clear hb)
    | (rw [← HZ.out]; refine wpl_store_new rfl _ _ rfl rfl w1.heap.size rfl L HL.out rfl rfl w HB1 ?_; intro w2 HK2 HB2 _)
    | (refine wpl_load_sec (by rfl) _ rfl w1.heap.size rfl L (by first | exact HK3.out | exact HK2.out) ?_)
    | (go_at_call 8; (with_reducible refine (HO.out _).mono ?_); rintro e w3 ⟨b, off, cap, rfl, hcap, hcell, hb⟩; have HB3 := Lib.hid (chain HB2.out hb); have HK3 := Lib.hid (HK2.out.keep hb); clear hb)
    | (go_at_call 13; (with_reducible refine (HP.out _).mono ?_); rintro e w4 ⟨rfl, hb⟩; have HB4 := Lib.hid (chain HB3.out hb); clear hb))
  go_ret
  exact ⟨rfl, HB4.out⟩
end Go.Proofs.Ythomcemnkkbjoaa
