/-
  LAYER 16 (plan): what the reference's Write and Whole answer. No condition.
-/
import Derived.Test.YtedjebccclocnaaPlanRef
namespace Go.Proofs.Ytedjebccclocnaa
open Go.RowKit
set_option maxRecDepth 8000 in
set_option maxHeartbeats 1000000 in
theorem rwrite_any (x : Int) (hx : U64 x) (v : Value) (len : Nat) (zs : List Int) (hlen : len ≤ 1000000) (f t : Int) (hf : I63 f) (ht : I63 t) (w : World) (h : RI .u8 w v len zs) (a d : Nat) (ha : (touchN (nr f) (nr t)).1 = a) (hd : (touchN (nr f) (nr t)).2 - a = d) :
    Calls Try.prog 12 #[.int .u64 x, v, .int .i64 f, .int .i64 t] w fun e w' => ∃ v', e = .returned (.tuple #[.int .i64 (a : Int), v']) ∧
      FS w' v' d (writeB x zs a d) ∧ Below w.heap.size w w' := by
  have HT : Hid (∀ w : World, Calls Try.prog 16 #[.int .i64 f, .int .i64 t] w fun e w' => e = .returned (.tuple #[.int .i64 ((touchN (nr f) (nr t)).1 : Int), .int .i64 ((touchN (nr f) (nr t)).2 : Int)]) ∧ w' = w) := fun w => rtouch_any f t hf ht w
  obtain ⟨hab, hb16, h0⟩ := touch_le (nr f) (nr t) (nr_le t)
  clear h0
  rw [ha] at HT hab
  generalize (touchN (nr f) (nr t)).2 = b at *
  clear ha
  obtain rfl : b = a + d := by omega
  have hd16 : d ≤ 16 := by omega
  have ha16 : a + d ≤ 16 := by omega
  have HR := Lib.hid h
  have HX := Lib.hid hx
  clear h hx hf ht hd hab hb16
  go_enter Try.func12, Try.ntmps12
  go_wp2_with (first
    | (go_at_call 16; (with_reducible refine (HT.out _).mono ?_); rintro e w1 ⟨rfl, hw⟩; obtain rfl := hw.symm))
  go_loopw [12, 13] (fun v iv wr => ∃ k : Nat, iv = .int .i64 ((a + k : Nat) : Int) ∧ k ≤ d ∧ Hid (wr.ownsRow w.heap.size 43 64 v k (il .u8 (writeB x zs a k))) ∧ Hid (Below w.heap.size w wr)) (fun _ iv _ => a + d - (intOf iv).toNat)
  case atStart => exact ⟨0, rfl, by omega, Lib.hid (World.ownsRow_nil _ _ _ _), Lib.hid (Below.refl _ _)⟩
  case round =>
    obtain ⟨k, rfl, hk, HO, HB⟩ := hrel
    by_cases hlt : k < d
    · obtain ⟨q, hq⟩ : ∃ q : Nat, a + k = q := ⟨_, rfl⟩
      rw [hq]
      have h1 : (q : Int) < (a : Int) + (d : Int) := by omega
      obtain ⟨l, hl⟩ : ∃ l, sealed x (q : Int) (partB zs q) = l := ⟨_, rfl⟩
      have HLL := Lib.hid (show l.length = 64 from by rw [← hl]; exact sealed_length _ _ _)
      have HNX := Lib.hid (show writeB x zs a k ++ l = writeB x zs a (k + 1) from by rw [writeB, hq, hl])
      have HS : Hid (∀ (w : World), RI .u8 w v len zs → Calls Try.prog 23 #[.int .u64 x, v, .int .i64 (q : Int)] w fun e w' => e = .returned (.agg (sv l)) ∧ Below w.heap.size w w') := fun w h => by
        rw [← hl]; exact rsector_any x HX.out v len zs hlen q (by omega) w h
      have HR1 := Lib.hid (HR.out.keep HB.out)
      have HQ := Lib.hid hq
      clear hl hq
      go_wp2_with (first
        | (go_at_call 23; (with_reducible refine (HS.out _ HR1.out).mono ?_); rintro e w3 ⟨rfl, hb⟩; have HO3 := Lib.hid (own_keep HO.out hb); have HB3 := Lib.hid (bch HB.out hb); clear hb)
        | (refine wpl_build_sec rfl _ rfl l HLL.out rfl ?_)
        | (at_builtin; refine wpl_app_sec rfl (.tmp 26) (.tmp 31) rfl w.heap.size _ k _ rfl (HO3.out.alloc _) w3.heap.size l rfl (Blk.new w3 l HLL.out) (by omega) w.heap.size w (HB3.out.alloc HB3.out.size _) (Nat.le_refl _) (by have := HB3.out.size; simp; omega) ?_; intro v' w4 HO4 HB4; have HO4 := Lib.hid (HNX.out ▸ HO4.out)))
      go_roundw
      case rel => exact ⟨k + 1, by rw [← Nat.add_assoc, HQ.out]; go_num, by omega, HO4, HB4⟩
      case measure => simp [intOf]; have := HQ.out; omega
    · obtain rfl : k = d := by omega
      have h1 : ¬ ((a + k : Nat) : Int) < (a : Int) + (k : Int) := by omega
      go_wp2
      go_ret2
      exact ⟨_, rfl, FS.own HO.out, HB.out⟩
set_option maxRecDepth 8000 in
set_option maxHeartbeats 1000000 in
theorem rwhole_any (x : Int) (hx : U64 x) (v : Value) (len : Nat) (zs : List Int) (hlen : len ≤ 1000000) (t : Int) (ht : I63 t) (w : World) (h : RI .u8 w v len zs) :
    Calls Try.prog 15 #[.int .u64 x, v, .int .i64 t] w fun e w' => ∃ v', e = .returned v' ∧ FS w' v' 16 (wholeK x zs (touchN 0 (nr t)).2 16) ∧ Below w.heap.size w w' := by
  have h00 : nr 0 = 0 := by decide
  have HT : Hid (∀ w : World, Calls Try.prog 16 #[.int .i64 0, .int .i64 t] w fun e w' => e = .returned (.tuple #[.int .i64 ((touchN 0 (nr t)).1 : Int), .int .i64 ((touchN 0 (nr t)).2 : Int)]) ∧ w' = w) := fun w => by
    have := rtouch_any 0 t (by unfold I63; omega) ht w
    rwa [h00] at this
  obtain ⟨_, hb16, _⟩ := touch_le 0 (nr t) (nr_le t)
  generalize (touchN 0 (nr t)).2 = b at *
  generalize (touchN 0 (nr t)).1 = a at *
  have HR := Lib.hid h
  have HX := Lib.hid hx
  have HZ := Lib.hid z64_cells
  clear h hx ht h00
  go_enter Try.func15, Try.ntmps15
  go_wp2_with (first
    | (go_at_call 16; (with_reducible refine (HT.out _).mono ?_); rintro e w1 ⟨rfl, hw⟩; obtain rfl := hw.symm))
  go_loopw [9, 10] (fun v iv wr => ∃ k : Nat, iv = .int .i64 (k : Int) ∧ k ≤ 16 ∧ Hid (wr.ownsRow w.heap.size 43 64 v k (il .u8 (wholeK x zs b k))) ∧ Hid (Below w.heap.size w wr)) (fun _ iv _ => 16 - (intOf iv).toNat)
  case atStart => exact ⟨0, rfl, by omega, Lib.hid (World.ownsRow_nil _ _ _ _), Lib.hid (Below.refl _ _)⟩
  case round =>
    obtain ⟨k, rfl, hk, HO, HB⟩ := hrel
    by_cases hlt : (k : Int) < 16
    · by_cases hkb : (k : Int) < (b : Int)
      · obtain ⟨l, hl⟩ : ∃ l, sealed x (k : Int) (partB zs k) = l := ⟨_, rfl⟩
        have HLL := Lib.hid (show l.length = 64 from by rw [← hl]; exact sealed_length _ _ _)
        have HNX := Lib.hid (show wholeK x zs b k ++ l = wholeK x zs b (k + 1) from by rw [wholeK, hl, if_pos (by omega)])
        have HS : Hid (∀ (w : World), RI .u8 w v len zs → Calls Try.prog 23 #[.int .u64 x, v, .int .i64 (k : Int)] w fun e w' => e = .returned (.agg (sv l)) ∧ Below w.heap.size w w') := fun w h => by
          rw [← hl]; exact rsector_any x HX.out v len zs hlen k (by omega) w h
        have HR1 := Lib.hid (HR.out.keep HB.out)
        clear hl
        go_wp2_with (first
          | (go_at_call 23; (with_reducible refine (HS.out _ HR1.out).mono ?_); rintro e w3 ⟨rfl, hb⟩; have HO3 := Lib.hid (own_keep HO.out hb); have HB3 := Lib.hid (bch HB.out hb); clear hb)
          | (refine wpl_build_sec rfl _ rfl l HLL.out rfl ?_)
          | (at_builtin; refine wpl_app_sec rfl (.tmp 23) (.tmp 28) rfl w.heap.size _ k _ rfl (HO3.out.alloc _) w3.heap.size l rfl (Blk.new w3 l HLL.out) (by omega) w.heap.size w (HB3.out.alloc HB3.out.size _) (Nat.le_refl _) (by have := HB3.out.size; simp; omega) ?_; intro v' w4 HO4 HB4; have HO4 := Lib.hid (HNX.out ▸ HO4.out)))
        go_roundw
        case rel => exact ⟨k + 1, by go_num, by omega, HO4, HB4⟩
        case measure => simp [intOf]; omega
      · have HNX := Lib.hid (show wholeK x zs b k ++ z64 = wholeK x zs b (k + 1) from by rw [wholeK, if_neg (by omega)])
        go_wp2_with (first
          | (rw [← HZ.out]; refine wpl_build_sec rfl _ rfl z64 z64_length rfl ?_)
          | (refine wpl_build_sec rfl _ rfl z64 z64_length (by rw [HZ.out]; rfl) ?_)
          | (at_builtin; refine wpl_app_sec rfl (.tmp 30) (.tmp 32) rfl w.heap.size _ k _ rfl (HO.out.alloc _) wr.heap.size z64 rfl (Blk.new wr z64 z64_length) (by omega) w.heap.size w (HB.out.alloc HB.out.size _) (Nat.le_refl _) (by have := HB.out.size; simp; omega) ?_; intro v' w4 HO4 HB4; have HO4 := Lib.hid (HNX.out ▸ HO4.out)))
        go_roundw
        case rel => exact ⟨k + 1, by go_num, by omega, HO4, HB4⟩
        case measure => simp [intOf]; omega
    · obtain rfl : k = 16 := by omega
      go_wp2
      go_ret
      exact ⟨_, rfl, FS.own HO.out, HB.out⟩
end Go.Proofs.Ytedjebccclocnaa
