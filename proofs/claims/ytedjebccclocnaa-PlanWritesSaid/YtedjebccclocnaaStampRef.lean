/-
  WHAT THE DOCUMENT'S ANSWERS OF LAYER 6 (stamp) ANSWER: the reference's Byte, Seal, Room, Open, Secs, Same. Bytes must lie where the slices say; sizes as the theorems say.
-/
import Derived.Test.YtedjebccclocnaaPut
import Derived.Test.YtedjebccclocnaaSecs
import Derived.Test.YtedjebccclocnaaStampMath
import Derived.Test.YtedjebccclocnaaRegion
namespace Go.Proofs.Ytedjebccclocnaa
open Go.RowKit
/-- the reference's Put, as a slice of bytes -/
theorem rput_ri (x : Int) (hx : U64 x) (n : Nat) (hn : n ≤ 8) (w : World) :
    Calls Try.prog 36 #[.int .u64 x, .int .i64 n] w fun e w' => ∃ v, e = .returned v ∧ RI .u8 w' v n (putL x n) ∧ Below w.heap.size w w' :=
  (rput_any x n n hx (by unfold I63; omega) (by unfold clampI; omega) w).mono fun _ _ ⟨v, he, ho, hb⟩ => ⟨v, he, RI.own ho, hb⟩
theorem u64_wrap (i : Int) : IntKind.u64.wrap i = i % 18446744073709551616 := by
  simp [IntKind.wrap, IntKind.signed, IntKind.bits]
set_option maxRecDepth 8000 in
set_option maxHeartbeats 400000 in
theorem byte_any (x i : Int) (hx : U64 x) (hi : I63 i) (v : Value) (len : Nat) (zs : List Int) (w : World) (hri : RI .u8 w v len zs) (j : Nat) (hj : j < 64) (z : Int) (hz : (sealed x i zs).getD j 0 = z) :
    Calls Try.prog 33 #[.int .u64 x, .int .i64 i, v, .int .i64 j] w fun e w' => e = .returned (.int .u8 z) ∧ Below w.heap.size w w' := by
  have HR := Lib.hid hri
  have hlr := hri.le
  have hzl := hri.length
  obtain ⟨a, cap, rfl, _⟩ := hri
  have hi' : -9223372036854775808 ≤ i ∧ i ≤ 9223372036854775807 := hi
  by_cases h8 : j < 8
  · have HG := Lib.hid (hz.symm.trans (sealed_get1 x i zs j h8))
    have h8' : (j : Int) < 8 := by omega
    clear hz
    go_enter Try.func33, Try.ntmps33
    go_wp2_with (first
      | (go_at_call 36; (refine (rput_ri x hx 8 (by omega) _).mono ?_); rintro e w1 ⟨v1, rfl, hr, hb⟩; obtain ⟨b, off, cp, rfl, hcp, hcp2, hcell⟩ := hr.open_ (by omega); have hc1 := hcell j (by omega); rw [← HG.out] at hc1; have HB := Lib.hid hb; clear hb hr hcell))
    go_ret
    exact ⟨rfl, HB.out⟩
  by_cases h12 : j < 12
  · have HG := Lib.hid (hz.symm.trans (sealed_get2 x i zs j (by omega) h12))
    have h8' : ¬ (j : Int) < 8 := by omega
    have h12' : (j : Int) < 12 := by omega
    have hjj : (j : Int) - 8 = ((j - 8 : Nat) : Int) := by omega
    have hj4 : ((j - 8 : Nat) : Int) < 4 := by omega
    obtain ⟨y, hy⟩ : ∃ y, IntKind.u64.wrap i = y := ⟨_, rfl⟩
    have hyu : U64 y := by rw [u64_wrap] at hy; unfold U64; omega
    have HY := Lib.hid (show putL y 4 = putL i 4 from by rw [← hy, u64_wrap]; exact putL_wrap i)
    clear hz
    go_enter Try.func33, Try.ntmps33
    go_wp2_with (first
      | (go_at_call 36; go_loud (refine (rput_ri y hyu 4 (by omega) _).mono ?_); rintro e w1 ⟨v1, rfl, hr, hb⟩; obtain ⟨b, off, cp, rfl, hcp, hcp2, hcell⟩ := hr.open_ (by omega); have hc1 := hcell (j - 8) (by omega); rw [HY.out, ← HG.out] at hc1; have HB := Lib.hid hb; clear hb hr hcell))
    go_ret
    exact ⟨rfl, HB.out⟩
  · have HG := Lib.hid (hz.symm.trans (sealed_get3 x i zs j (by omega) hj))
    have h8' : ¬ (j : Int) < 8 := by omega
    have h12' : ¬ (j : Int) < 12 := by omega
    have hjj : (j : Int) - 12 = ((j - 12 : Nat) : Int) := by omega
    by_cases hlt : j - 12 < len
    · obtain ⟨b, off, cp, e, hcp, hcp2, hcell⟩ := HR.out.open_ (by omega)
      simp only [Value.slice.injEq, true_and] at e
      obtain ⟨rfl, rfl⟩ := e
      have hc1 := hcell (j - 12) hlt
      rw [← HG.out] at hc1
      have hlt' : ((j - 12 : Nat) : Int) < (len : Int) := by omega
      clear hcell hz
      go_enter Try.func33, Try.ntmps33
      go_wp2_with fail
      go_ret
      exact ⟨rfl, Below.refl _ _⟩
    · have HZ := Lib.hid (show zs.getD (j - 12) 0 = 0 from by simp [List.getD, List.getElem?_eq_none (l := zs) (i := j - 12) (by omega)])
      have hlt' : ¬ ((j - 12 : Nat) : Int) < (len : Int) := by omega
      clear hz
      go_enter Try.func33, Try.ntmps33
      go_wp2_with fail
      go_ret
      exact ⟨ret_int (by rw [HG.out, HZ.out]), Below.refl _ _⟩
/-- where the reference's Seal stands: room for the result, and the sector that grows -/
structure TS (W : World) (l : List Int) (k : Nat) (w : World) : Prop where
  below : Below W.heap.size W w
  old : Blk w W.heap.size z64
  new : Blk w (W.heap.size + 1) (part l k)
theorem TS.keep {W w w' : World} {l : List Int} {k : Nat} (h : TS W l k w) (hb : Below w.heap.size w w') : TS W l k w' := ⟨chain h.below hb, h.old.keep hb, h.new.keep hb⟩
theorem TS.start (W : World) (l : List Int) : TS W l 0 ((W.alloc (.cells (sv z64) 43)).alloc (.cells (sv z64) 43)) := by
  have h0 := below_alloc W (.cells (sv z64) 43)
  have s0 := alloc_size W (.cells (sv z64) 43)
  have b0 := Blk.new W z64 z64_length
  generalize W.alloc (.cells (sv z64) 43) = w0 at *
  have h1 := below_alloc w0 (.cells (sv z64) 43)
  have b1 := Blk.new w0 z64 z64_length
  refine ⟨chain h0 h1, b0.keep h1, ?_⟩
  rw [s0] at b1
  rw [part_zero]; exact b1
theorem TS.stored {W w : World} {l : List Int} {k : Nat} (h : TS W l k w) (z : Int) (hz : l.getD k 0 = z) : TS W l (k + 1) (w.setCell ⟨W.heap.size + 1, k, none⟩ (.int .u8 z)) := by
  subst hz
  have hn := h.new.stored k (l.getD k 0)
  rw [part_set] at hn
  exact ⟨h.below.setCell (by show W.heap.size ≤ W.heap.size + 1; omega) _, h.old.apart (by omega) _ _, hn⟩
theorem TS.row0 {W w : World} {l : List Int} (h : TS W l 0 w) : TS W l 0 (w.setRow (W.heap.size + 1) (sv z64)) :=
  ⟨below_row h.below (by omega) _, h.old.row_apart (by omega) _, by rw [part_zero]; exact h.new.row z64_length⟩
theorem TS.last {W w : World} {l : List Int} (h : TS W l 64 w) (hl : l.length = 64) : Blk w (W.heap.size + 1) l := by
  have := h.new; rwa [part_all l hl] at this
set_option maxRecDepth 8000 in
set_option maxHeartbeats 1000000 in
theorem rseal_any (x i : Int) (hx : U64 x) (hi : I63 i) (v : Value) (len : Nat) (zs : List Int) (w : World) (hri : RI .u8 w v len zs) :
    Calls Try.prog 26 #[.int .u64 x, .int .i64 i, v] w fun e w' => e = .returned (.agg (sv (sealed x i zs))) ∧ Below w.heap.size w w' := by
  have HR := Lib.hid hri
  have HX := Lib.hid hx
  have HI := Lib.hid hi
  obtain ⟨l, hl⟩ : ∃ l, sealed x i zs = l := ⟨_, rfl⟩
  have HL := Lib.hid (show l.length = 64 from by rw [← hl]; exact sealed_length x i zs)
  have HE := Lib.hid hl
  rw [hl]
  have HS0 := Lib.hid (TS.start w l)
  have HZ := Lib.hid z64_cells
  clear hri hx hi hl
  go_enter Try.func26, Try.ntmps26
  go_wp2_with (first
    | (rw [← HZ.out]; refine wpList_store_row rfl 43 _ _ rfl (w.heap.size + 1) (sv z64) rfl rfl _ (sv z64) HS0.out.new.1 (sv_info _ z64_length) rfl (sv_one _) ?_))
  have HS1 := Lib.hid (TS.row0 HS0.out)
  go_loopw [8] (fun iv wr => ∃ k : Nat, iv = .int .i64 k ∧ k ≤ 64 ∧ Hid (TS w l k wr)) (fun iv _ => 64 - (intOf iv).toNat)
  case atStart => exact ⟨0, rfl, by omega, HS1⟩
  case round =>
    obtain ⟨k, rfl, hk, HS⟩ := hrel
    by_cases hlt : (k : Int) < 64
    · have hk2 : k < 64 := by omega
      obtain ⟨z, hz⟩ : ∃ z, l.getD k 0 = z := ⟨_, rfl⟩
      have HK := Lib.hid hz
      clear hz
      go_wp2_with (first
        | (go_at_call 33; (refine (byte_any x i HX.out HI.out v len zs _ (HR.out.keep HS.out.below) k hk2 z (by rw [HE.out]; exact HK.out)).mono ?_); rintro e w' ⟨rfl, hb⟩; have HS2 := Lib.hid (HS.out.keep hb); have hcell := HS2.out.new.cell k hk2; have hfr := HS2.out.new.frozen k; clear hb))
      go_roundw
      case rel => exact ⟨k + 1, by go_num, by omega, Lib.hid (HS2.out.stored z HK.out)⟩
      case measure => simp [intOf]; omega
    · have hk2 : k = 64 := by omega
      subst hk2
      have HS3 := Lib.hid (HS.out.last HL.out)
      go_wp2_with (first
        | (refine wpList_load_row rfl 43 _ rfl (w.heap.size + 1) rfl _ (sv l) (0, 0) _ HS3.out.1 Try.underlying43 rfl (sv_info _ HL.out) ?_)
        | (refine wpList_store_row rfl 43 _ _ rfl w.heap.size (sv l) rfl rfl _ (sv z64) HS.out.old.1 (sv_info _ HL.out) (by rw [sv_size, sv_size, HL.out, z64_length]) (sv_one _) ?_))
      refine bodyPost_ret_by (v := .agg (sv l)) (results_cell_row rfl _ _ w.heap.size _ (sv l) (0, 0) _ rfl (HS.out.old.row HL.out).1 Try.underlying43 rfl (sv_info _ HL.out)) rfl ⟨rfl, below_row HS.out.below (Nat.le_refl _) _⟩
set_option maxRecDepth 8000 in
set_option maxHeartbeats 1000000 in
theorem rroom_any (l : List Int) (hl : l.length = 64) (w : World) :
    Calls Try.prog 27 #[.agg (sv l)] w fun e w' => ∃ v, e = .returned v ∧ RI .u8 w' v 52 (l.drop 12) ∧ Below w.heap.size w w' := by
  obtain ⟨w0, hw0⟩ : ∃ w0, w.alloc (.cells (sv l) 43) = w0 := ⟨_, rfl⟩
  have hb0 := below_alloc w (.cells (sv l) 43)
  have hs0 := alloc_size w (.cells (sv l) 43)
  have hk0 := Blk.new w l hl
  rw [hw0] at hb0 hs0 hk0
  have HK0 := Lib.hid hk0
  have HB0 := Lib.hid hb0
  have HS0 := Lib.hid hs0
  have HL := Lib.hid hl
  have HW := Lib.hid hw0
  clear hk0 hb0 hs0 hl hw0
  go_enter Try.func27, Try.ntmps27
  go_wp2
  rw [HW.out]
  go_loopw [3, 4] (fun v iv wr => ∃ k : Nat, iv = .int .i64 ((12 + k : Nat) : Int) ∧ k ≤ 52 ∧ Hid (wr.ownsRow w0.heap.size 5 1 v k (il .u8 ((l.drop 12).take k))) ∧ Hid (Below w0.heap.size w0 wr)) (fun _ iv _ => 64 - (intOf iv).toNat)
  case atStart => exact ⟨0, rfl, by omega, Lib.hid (World.ownsRow_nil _ _ _ _), Lib.hid (Below.refl _ _)⟩
  case round =>
    obtain ⟨k, rfl, hk, HO, HB⟩ := hrel
    by_cases hlt : ((12 + k : Nat) : Int) < 64
    · have hk2 : k < 52 := by omega
      have hk3 : 12 + k < 64 := by omega
      obtain ⟨z, hz⟩ : ∃ z, l.getD (12 + k) 0 = z := ⟨_, rfl⟩
      have hcell := (HK0.out.keep HB.out).cell (12 + k) hk3
      rw [hz] at hcell
      have HT := Lib.hid (show (l.drop 12).take (k + 1) = (l.drop 12).take k ++ [z] from by
        rw [← hz, List.take_add_one, List.getElem?_drop, List.getElem?_eq_getElem (by rw [HL.out]; omega)]
        simp [List.getD, HL.out, hk3])
      clear hz
      go_wp2_with (first
        | (at_builtin; refine wpl_app1 rfl (.tmp 9) (.tmp 13) 26 rfl 5 .u8 1 Try.underlying26 Try.info_u8 w0.heap.size _ k ((l.drop 12).take k) rfl (HO.out.alloc _) ⟨wr.heap.size, 0, none⟩ z rfl (by simp) (by omega) (by omega) w0.heap.size w0 (HB.out.alloc HB.out.size _) (Nat.le_refl _) (by have := HB.out.size; simp; omega) ?_; intro v' w3 HO3 HB3))
      go_roundw
      case rel => exact ⟨k + 1, by go_num, by omega, Lib.hid (by rw [HT.out]; exact HO3.out), HB3⟩
      case measure => simp [intOf]; omega
    · have hk2 : k = 52 := by omega
      subst hk2
      go_wp2
      go_ret
      refine ⟨_, rfl, ?_, chain HB0.out HB.out⟩
      have h1 := RI.own HO.out
      rwa [List.take_of_length_le (by simp [HL.out])] at h1
end Go.Proofs.Ytedjebccclocnaa
