/-
  LAYER 16 (plan): what the reference's Write and Whole answer. No condition.
-/
import Derived.Test.YtjlnceldnbpapaaDoorPlanRef
namespace Go.Proofs.YtjlnceldnbpapaaDoor
open Go.RowKit
set_option maxRecDepth 8000 in
set_option maxHeartbeats 1000000 in
theorem rwhole_any (x : Int) (hx : U64 x) (v : Value) (len : Nat) (zs : List Int) (hlen : len ≤ 1000000) (t : Int) (ht : I63 t) (w : World) (h : RI .u8 w v len zs) :
    Calls Tryd.prog 20 #[.int .u64 x, v, .int .i64 t] w fun e w' => ∃ v', e = .returned v' ∧ FS w' v' 16 (wholeK x zs (touchN 0 (nr t)).2 16) ∧ Below w.heap.size w w' := by
  have h00 : nr 0 = 0 := by decide
  have HT : Hid (∀ w : World, Calls Tryd.prog 30 #[.int .i64 0, .int .i64 t] w fun e w' => e = .returned (.tuple #[.int .i64 ((touchN 0 (nr t)).1 : Int), .int .i64 ((touchN 0 (nr t)).2 : Int)]) ∧ w' = w) := fun w => by
    have := rtouch_any 0 t (by unfold I63; omega) ht w
    rwa [h00] at this
  obtain ⟨_, hb16, _⟩ := touch_le 0 (nr t) (nr_le t)
  generalize (touchN 0 (nr t)).2 = b at *
  generalize (touchN 0 (nr t)).1 = a at *
  have HR := Lib.hid h
  have HX := Lib.hid hx
  have HZ := Lib.hid z64_cells
  clear h hx ht h00
  go_enter Tryd.func20, Tryd.ntmps20
  go_wp2_with (first
    | (go_at_call 30; (with_reducible refine (HT.out _).mono ?_); rintro e w1 ⟨rfl, hw⟩; obtain rfl := hw.symm))
  go_loopw [9, 10] (fun v iv wr => ∃ k : Nat, iv = .int .i64 (k : Int) ∧ k ≤ 16 ∧ Hid (wr.ownsRow w.heap.size 53 64 v k (il .u8 (wholeK x zs b k))) ∧ Hid (Below w.heap.size w wr)) (fun _ iv _ => 16 - (intOf iv).toNat)
  case atStart => exact ⟨0, rfl, by omega, Lib.hid (World.ownsRow_nil _ _ _ _), Lib.hid (Below.refl _ _)⟩
  case round =>
    obtain ⟨k, rfl, hk, HO, HB⟩ := hrel
    by_cases hlt : (k : Int) < 16
    · by_cases hkb : (k : Int) < (b : Int)
      · obtain ⟨l, hl⟩ : ∃ l, sealed x (k : Int) (partB zs k) = l := ⟨_, rfl⟩
        have HLL := Lib.hid (show l.length = 64 from by rw [← hl]; exact sealed_length _ _ _)
        have HNX := Lib.hid (show wholeK x zs b k ++ l = wholeK x zs b (k + 1) from by rw [wholeK, hl, if_pos (by omega)])
        have HS : Hid (∀ (w : World), RI .u8 w v len zs → Calls Tryd.prog 31 #[.int .u64 x, v, .int .i64 (k : Int)] w fun e w' => e = .returned (.agg (sv l)) ∧ Below w.heap.size w w') := fun w h => by
          rw [← hl]; exact rsector_any x HX.out v len zs hlen k (by omega) w h
        have HR1 := Lib.hid (HR.out.keep HB.out)
        clear hl
        go_wp2_with (first
          | (go_at_call 31; (with_reducible refine (HS.out _ HR1.out).mono ?_); rintro e w3 ⟨rfl, hb⟩; have HO3 := Lib.hid (own_keep HO.out hb); have HB3 := Lib.hid (bch HB.out hb); clear hb)
          | (refine wpl_build_sec rfl _ rfl l HLL.out rfl ?_)
          | (at_builtin; refine wpl_app_sec rfl (.tmp 23) (.tmp 28) rfl w.heap.size _ k _ rfl (HO3.out.alloc _) w3.heap.size l rfl (Blk.new w3 l HLL.out) (by omega) w.heap.size w (HB3.out.alloc HB3.out.size _) (Nat.le_refl _) (by have := HB3.out.size; simp; omega) ?_; intro v' w4 HO4 HB4; have HO4 := Lib.hid (HNX.out ▸ HO4.out)))
        go_roundw
        case rel => exact ⟨k + 1, by go_num, by omega, HO4, HB4⟩
        case measure => simp [intOf]; omega
      · have HNX := Lib.hid (show wholeK x zs b k ++ z64 = wholeK x zs b (k + 1) from by rw [wholeK, if_neg (by omega)])
        go_wp2_with (first
          | (rw [← HZ.out]; refine wpl_build_sec rfl _ rfl z64 z64_length rfl ?_)
          | (refine wpl_build_sec rfl _ rfl z64 z64_length (by rw [HZ.out]; rfl) ?_)
          | (at_builtin; refine wpl_app_sec rfl (.tmp 30) (.tmp 32) rfl w.heap.size _ k _ rfl (HO.out.alloc _) wr.heap.size z64 rfl (Blk.new wr z64 z64_length) (by omega) w.heap.size w (HB.out.alloc HB.out.size _) (Nat.le_refl _) (by have := HB.out.size; simp; omega) ?_; intro v' w4 HO4 HB4; have HO4 := Lib.hid (HNX.out ▸ HO4.out)))
        go_roundw
        case rel => exact ⟨k + 1, by go_num, by omega, HO4, HB4⟩
        case measure => simp [intOf]; omega
    · obtain rfl : k = 16 := by omega
      go_wp2
      go_ret
      exact ⟨_, rfl, FS.own HO.out, HB.out⟩
end Go.Proofs.YtjlnceldnbpapaaDoor
