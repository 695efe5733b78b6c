/-
  TEXTS JOINED: StampRef, StampSeal, StampOpen, PlanFlat, SeqTold, SeqTill, KpI. Each one's own words stand at its head.
-/
import Derived.Test.YtnmplnemnfonfaaGreatDoorJ12
import Derived.Test.YtnmplnemnfonfaaGreatDoorJ0
import Derived.Test.YtnmplnemnfonfaaGreatDoorJ13
import Derived.Test.YtnmplnemnfonfaaGreatDoorJ3
import Derived.Lib.SliceRun
import Derived.Test.YtnmplnemnfonfaaGreatDoorJ1
import Derived.Test.YtnmplnemnfonfaaGreatDoorJ15
import Derived.RangeFuncNested
import Derived.RangeFuncBound
import Derived.RangeFuncCalls
import Derived.RangeFuncLeaves
import Derived.WalkKit
import Derived.OwnWalkIn
import Derived.TacticsInMore
import Derived.LoopNIn
import Derived.LoopIn
namespace Go.Proofs.YtnmplnemnfonfaaGreatDoor
open Go.RowKit
theorem rput_ri (x : Int) (hx : U64 x) (n : Nat) (hn : n ≤ 8) (w : World) :
    Calls Tryz.prog 81 #[.int .u64 x, .int .i64 n] w fun e w' => ∃ v, e = .returned v ∧ RI .u8 w' v n (putL x n) ∧ Below w.heap.size w w' :=
  (rput_any x n n hx (by unfold I63; omega) (by unfold clampI; omega) w).mono fun _ _ ⟨v, he, ho, hb⟩ => ⟨v, he, RI.own ho, hb⟩
theorem u64_wrap (i : Int) : IntKind.u64.wrap i = i % 18446744073709551616 := by
  simp [IntKind.wrap, IntKind.signed, IntKind.bits]
set_option maxRecDepth 8000 in
set_option maxHeartbeats 400000 in
theorem byte_any (x i : Int) (hx : U64 x) (hi : I63 i) (v : Value) (len : Nat) (zs : List Int) (w : World) (hri : RI .u8 w v len zs) (j : Nat) (hj : j < 64) (z : Int) (hz : (sealed x i zs).getD j 0 = z) :
    Calls Tryz.prog 84 #[.int .u64 x, .int .i64 i, v, .int .i64 j] w fun e w' => e = .returned (.int .u8 z) ∧ Below w.heap.size w w' := by
  have HR := Lib.hid hri
  have hlr := hri.le
  have hzl := hri.length
  obtain ⟨a, cap, rfl, _⟩ := hri
  have hi' : -9223372036854775808 ≤ i ∧ i ≤ 9223372036854775807 := hi
  by_cases h8 : j < 8
  · have HG := Lib.hid (hz.symm.trans (sealed_get1 x i zs j h8))
    have h8' : (j : Int) < 8 := by omega
    clear hz
    go_enter Tryz.func84, Tryz.ntmps84
    go_wp2_with (first
      | (go_at_call 81; (refine (rput_ri x hx 8 (by omega) _).mono ?_); rintro e w1 ⟨v1, rfl, hr, hb⟩; obtain ⟨b, off, cp, rfl, hcp, hcp2, hcell⟩ := hr.open_ (by omega); have hc1 := hcell j (by omega); rw [← HG.out] at hc1; have HB := Lib.hid hb; clear hb hr hcell))
    go_ret
    exact ⟨rfl, HB.out⟩
  by_cases h12 : j < 12
  · have HG := Lib.hid (hz.symm.trans (sealed_get2 x i zs j (by omega) h12))
    have h8' : ¬ (j : Int) < 8 := by omega
    have h12' : (j : Int) < 12 := by omega
    have hjj : (j : Int) - 8 = ((j - 8 : Nat) : Int) := by omega
    have hj4 : ((j - 8 : Nat) : Int) < 4 := by omega
    obtain ⟨y, hy⟩ : ∃ y, IntKind.u64.wrap i = y := ⟨_, rfl⟩
    have hyu : U64 y := by rw [u64_wrap] at hy; unfold U64; omega
    have HY := Lib.hid (show putL y 4 = putL i 4 from by rw [← hy, u64_wrap]; exact putL_wrap i)
    clear hz
    go_enter Tryz.func84, Tryz.ntmps84
    go_wp2_with (first
      | (go_at_call 81; go_loud (refine (rput_ri y hyu 4 (by omega) _).mono ?_); rintro e w1 ⟨v1, rfl, hr, hb⟩; obtain ⟨b, off, cp, rfl, hcp, hcp2, hcell⟩ := hr.open_ (by omega); have hc1 := hcell (j - 8) (by omega); rw [HY.out, ← HG.out] at hc1; have HB := Lib.hid hb; clear hb hr hcell))
    go_ret
    exact ⟨rfl, HB.out⟩
  · have HG := Lib.hid (hz.symm.trans (sealed_get3 x i zs j (by omega) hj))
    have h8' : ¬ (j : Int) < 8 := by omega
    have h12' : ¬ (j : Int) < 12 := by omega
    have hjj : (j : Int) - 12 = ((j - 12 : Nat) : Int) := by omega
    by_cases hlt : j - 12 < len
    · obtain ⟨b, off, cp, e, hcp, hcp2, hcell⟩ := HR.out.open_ (by omega)
      simp only [Value.slice.injEq, true_and] at e
      obtain ⟨rfl, rfl⟩ := e
      have hc1 := hcell (j - 12) hlt
      rw [← HG.out] at hc1
      have hlt' : ((j - 12 : Nat) : Int) < (len : Int) := by omega
      clear hcell hz
      go_enter Tryz.func84, Tryz.ntmps84
      go_wp2_with fail
      go_ret
      exact ⟨rfl, Below.refl _ _⟩
    · have HZ := Lib.hid (show zs.getD (j - 12) 0 = 0 from by simp [List.getD, List.getElem?_eq_none (l := zs) (i := j - 12) (by omega)])
      have hlt' : ¬ ((j - 12 : Nat) : Int) < (len : Int) := by omega
      clear hz
      go_enter Tryz.func84, Tryz.ntmps84
      go_wp2_with fail
      go_ret
      exact ⟨ret_int (by rw [HG.out, HZ.out]), Below.refl _ _⟩
structure TS (W : World) (l : List Int) (k : Nat) (w : World) : Prop where
  below : Below W.heap.size W w
  old : Blk w W.heap.size z64
  new : Blk w (W.heap.size + 1) (part l k)
theorem TS.keep {W w w' : World} {l : List Int} {k : Nat} (h : TS W l k w) (hb : Below w.heap.size w w') : TS W l k w' := ⟨chain h.below hb, h.old.keep hb, h.new.keep hb⟩
theorem TS.start (W : World) (l : List Int) : TS W l 0 ((W.alloc (.cells (sv z64) 92)).alloc (.cells (sv z64) 92)) := by
  have h0 := below_alloc W (.cells (sv z64) 92)
  have s0 := alloc_size W (.cells (sv z64) 92)
  have b0 := Blk.new W z64 z64_length
  generalize W.alloc (.cells (sv z64) 92) = w0 at *
  have h1 := below_alloc w0 (.cells (sv z64) 92)
  have b1 := Blk.new w0 z64 z64_length
  refine ⟨chain h0 h1, b0.keep h1, ?_⟩
  rw [s0] at b1
  rw [part_zero]; exact b1
theorem TS.stored {W w : World} {l : List Int} {k : Nat} (h : TS W l k w) (z : Int) (hz : l.getD k 0 = z) : TS W l (k + 1) (w.setCell ⟨W.heap.size + 1, k, none⟩ (.int .u8 z)) := by
  subst hz
  have hn := h.new.stored k (l.getD k 0)
  rw [part_set] at hn
  exact ⟨h.below.setCell (by show W.heap.size ≤ W.heap.size + 1; omega) _, h.old.apart (by omega) _ _, hn⟩
theorem TS.row0 {W w : World} {l : List Int} (h : TS W l 0 w) : TS W l 0 (w.setRow (W.heap.size + 1) (sv z64)) :=
  ⟨below_row h.below (by omega) _, h.old.row_apart (by omega) _, by rw [part_zero]; exact h.new.row z64_length⟩
theorem TS.last {W w : World} {l : List Int} (h : TS W l 64 w) (hl : l.length = 64) : Blk w (W.heap.size + 1) l := by
  have := h.new; rwa [part_all l hl] at this
set_option maxRecDepth 8000 in
set_option maxHeartbeats 1000000 in
theorem rseal_any (x i : Int) (hx : U64 x) (hi : I63 i) (v : Value) (len : Nat) (zs : List Int) (w : World) (hri : RI .u8 w v len zs) :
    Calls Tryz.prog 63 #[.int .u64 x, .int .i64 i, v] w fun e w' => e = .returned (.agg (sv (sealed x i zs))) ∧ Below w.heap.size w w' := by
  have HR := Lib.hid hri
  have HX := Lib.hid hx
  have HI := Lib.hid hi
  obtain ⟨l, hl⟩ : ∃ l, sealed x i zs = l := ⟨_, rfl⟩
  have HL := Lib.hid (show l.length = 64 from by rw [← hl]; exact sealed_length x i zs)
  have HE := Lib.hid hl
  rw [hl]
  have HS0 := Lib.hid (TS.start w l)
  have HZ := Lib.hid z64_cells
  clear hri hx hi hl
  go_enter Tryz.func63, Tryz.ntmps63
  go_wp2_with (first
    | (rw [← HZ.out]; refine wpList_store_row rfl 92 _ _ rfl (w.heap.size + 1) (sv z64) rfl rfl _ (sv z64) HS0.out.new.1 (sv_info _ z64_length) rfl (sv_one _) ?_))
  have HS1 := Lib.hid (TS.row0 HS0.out)
  go_loopw [8] (fun iv wr => ∃ k : Nat, iv = .int .i64 k ∧ k ≤ 64 ∧ Hid (TS w l k wr)) (fun iv _ => 64 - (intOf iv).toNat)
  case atStart => exact ⟨0, rfl, by omega, HS1⟩
  case round =>
    obtain ⟨k, rfl, hk, HS⟩ := hrel
    by_cases hlt : (k : Int) < 64
    · have hk2 : k < 64 := by omega
      obtain ⟨z, hz⟩ : ∃ z, l.getD k 0 = z := ⟨_, rfl⟩
      have HK := Lib.hid hz
      clear hz
      go_wp2_with (first
        | (go_at_call 84; (refine (byte_any x i HX.out HI.out v len zs _ (HR.out.keep HS.out.below) k hk2 z (by rw [HE.out]; exact HK.out)).mono ?_); rintro e w' ⟨rfl, hb⟩; have HS2 := Lib.hid (HS.out.keep hb); have hcell := HS2.out.new.cell k hk2; have hfr := HS2.out.new.frozen k; clear hb))
      go_roundw
      case rel => exact ⟨k + 1, by go_num, by omega, Lib.hid (HS2.out.stored z HK.out)⟩
      case measure => simp [intOf]; omega
    · have hk2 : k = 64 := by omega
      subst hk2
      have HS3 := Lib.hid (HS.out.last HL.out)
      go_wp2_with (first
        | (refine wpList_load_row rfl 92 _ rfl (w.heap.size + 1) rfl _ (sv l) (0, 0) _ HS3.out.1 Tryz.underlying92 rfl (sv_info _ HL.out) ?_)
        | (refine wpList_store_row rfl 92 _ _ rfl w.heap.size (sv l) rfl rfl _ (sv z64) HS.out.old.1 (sv_info _ HL.out) (by rw [sv_size, sv_size, HL.out, z64_length]) (sv_one _) ?_))
      refine bodyPost_ret_by (v := .agg (sv l)) (results_cell_row rfl _ _ w.heap.size _ (sv l) (0, 0) _ rfl (HS.out.old.row HL.out).1 Tryz.underlying92 rfl (sv_info _ HL.out)) rfl ⟨rfl, below_row HS.out.below (Nat.le_refl _) _⟩
end Go.Proofs.YtnmplnemnfonfaaGreatDoor
namespace Go.Proofs.YtnmplnemnfonfaaGreatDoor
open Go.RowKit
theorem put_ri (x : Int) (n : Nat) (hn : n ≤ 8) (w : World) :
    Calls Tryz.prog 93 #[.int .u64 x, .int .i64 n] w fun e w' => e = .returned (.slice (some ⟨w.heap.size, 0, none⟩) n n) ∧ RI .u8 w' (.slice (some ⟨w.heap.size, 0, none⟩) n n) n (putL x n) ∧ Below w.heap.size w w' :=
  (put_any x n n (by unfold I63; omega) (by unfold clampI; omega) w).mono fun _ _ ⟨he, ho, hb⟩ => ⟨he, RI.own ho, hb⟩
structure TE (W : World) (l : List Int) (rm : Value) (len : Nat) (zs : List Int) (w : World) : Prop where
  below : Below W.heap.size W w
  old : Blk w W.heap.size z64
  new : Blk w (W.heap.size + 1) l
  arg : RI .u8 w rm len zs
theorem TE.next {W w w' : World} {l : List Int} {rm : Value} {len : Nat} {zs : List Int} (h : TE W l rm len zs w) (hb : Below w.heap.size w w') : TE W l rm len zs w' := ⟨chain h.below hb, h.old.keep hb, h.new.keep hb, h.arg.keep hb⟩
theorem TE.copied {W w w' : World} {l l' : List Int} {rm : Value} {len : Nat} {zs : List Int} (h : TE W l rm len zs w) (hr : RI .u8 W rm len zs) (hk : Blk w' (W.heap.size + 1) l') (hb : Below (W.heap.size + 1) w w') : TE W l' rm len zs w' := by
  have h1 : Below W.heap.size W w' := h.below.trans (hb.mono (by omega))
  exact ⟨h1, h.old.keepB hb (by omega), hk, hr.keep h1⟩
set_option maxRecDepth 8000 in
set_option maxHeartbeats 1000000 in
theorem seal_any (x i : Int) (_hx : U64 x) (hi : I63 i) (v : Value) (len : Nat) (zs : List Int) (w : World) (hri : RI .u8 w v len zs) :
    Calls Tryz.prog 103 #[.int .u64 x, .int .i64 i, v] w fun e w' => e = .returned (.agg (sv (sealed x i zs))) ∧ Below w.heap.size w w' := by
  have HR := Lib.hid hri
  have hi' : -9223372036854775808 ≤ i ∧ i ≤ 9223372036854775807 := hi
  obtain ⟨a, c, rfl, hzl, _⟩ : ∃ a c, v = .slice a len c ∧ zs.length = len ∧ True := by obtain ⟨a, c, e, h, _⟩ := hri; exact ⟨a, c, e, h, trivial⟩
  obtain ⟨y, hy⟩ : ∃ y, IntKind.u64.wrap i = y := ⟨_, rfl⟩
  have HY := Lib.hid (show putL y 4 = putL i 4 from by rw [← hy, u64_wrap]; exact putL_wrap i)
  have HT0 : Hid (TE w z64 (.slice a len c) len zs ((w.alloc (.cells (sv z64) 92)).alloc (.cells (sv z64) 92))) := by
    have h := TS.start w (List.replicate 64 0)
    exact ⟨h.below, h.old, by have := h.new; rwa [part_zero] at this, hri.keep h.below⟩
  have HSP := Lib.hid (sealed_splice x i zs)
  have HSL := Lib.hid (sealed_length x i zs)
  rw [hzl] at HSP
  have HZ := Lib.hid z64_cells
  clear hri hzl
  go_enter Tryz.func103, Tryz.ntmps103
  go_wp2
  rw [← HZ.out]
  refine wp_region_held_drew (S := (fun w' => Below w.heap.size w w')) (by kernel_rfl) (HT0.out.below.drew) (fun hS => ?_)
  refine rgw 0 ⟨some 8, .slice 92 (.tmp 7) none (some (.const (.int .i64 8))) none, 49, _, _, none⟩ hS ?_
  refine rgw 1 ⟨some 9, .move (.tmp 0), 22, _, _, none⟩ hS ?_
  refine rg_one 2 ⟨some 10, .call { callee := .value (.func 93), args := #[.tmp 9, .const (.int .i64 8)], argTypes := #[22, 3] }, 49, _, _, none⟩ (by kernel_rfl) rfl (fun K hK => ?_)
  go_simp
  (go_at_call 93; (refine (put_ri x 8 (by omega) _).mono ?_); rintro e w2 ⟨rfl, hr2, hb⟩; have HT2 := Lib.hid ((HT0.out.next ((Below.refl _ _).drew)).next hb); have hN := HT2.out.below)
  refine hK.out _ _ ?_ (fun hS1 => ?_)
  · (exact hN)
  clear hK K hS; have hS := hS1; clear hS1
  (try simp only [rgp])
  refine rg_one 3 ⟨some 11, .call { callee := .builtin Builtin.copy, args := #[.tmp 8, .tmp 10], argTypes := #[49, 49] }, 3, _, _, none⟩ (by kernel_rfl) rfl (fun K hK => ?_)
  refine step_copy_sec rfl (.tmp 8) (.tmp 10) rfl (w.heap.size + 1) 0 8 64 z64 HT2.out.new rfl _ 8 (putL x 8) rfl hr2 (by omega) ?_; intro w3 HK3 hb3; rw [show (putL x 8).take (min 8 8) = putL x 8 from List.take_of_length_le (by rw [putL_length]; omega)] at HK3; have HT3 := Lib.hid (HT2.out.copied HR.out HK3.out hb3); clear hN; have hN := HT3.out.below
  refine hK.out _ _ ?_ (fun hS1 => ?_)
  · (exact hN)
  clear hK K hS; have hS := hS1; clear hS1
  (try simp only [rgp])
  refine wpAnyH_done (by kernel_rfl) ?_ _
  clear hS hb3 hb hr2 HT2 HK3 hN
  go_wp2
  refine wp_region_held_drew (S := (fun w' => Below w.heap.size w w')) (by kernel_rfl) (HT3.out.below.drew) (fun hS => ?_)
  refine rgw 0 ⟨some 12, .slice 92 (.tmp 7) (some (.const (.int .i64 8))) (some (.const (.int .i64 12))) none, 49, _, _, none⟩ hS ?_
  refine rgw 1 ⟨some 13, .move (.tmp 1), 3, _, _, none⟩ hS ?_
  refine rgw 2 ⟨some 14, .convert 3 22 (.tmp 13), 22, _, _, none⟩ hS ?_
  refine rg_one 3 ⟨some 15, .call { callee := .value (.func 93), args := #[.tmp 14, .const (.int .i64 4)], argTypes := #[22, 3] }, 49, _, _, none⟩ (by kernel_rfl) rfl (fun K hK => ?_)
  go_simp
  (go_at_call 93; (refine (put_ri y 4 (by omega) _).mono ?_); rintro e w4 ⟨rfl, hr4, hb⟩; rw [HY.out] at hr4; have HT4 := Lib.hid ((HT3.out.next ((Below.refl _ _).drew)).next hb); have hN := HT4.out.below)
  refine hK.out _ _ ?_ (fun hS1 => ?_)
  · (exact hN)
  clear hK K hS; have hS := hS1; clear hS1
  (try simp only [rgp])
  refine rg_one 4 ⟨some 16, .call { callee := .builtin Builtin.copy, args := #[.tmp 12, .tmp 15], argTypes := #[49, 49] }, 3, _, _, none⟩ (by kernel_rfl) rfl (fun K hK => ?_)
  refine step_copy_sec rfl (.tmp 12) (.tmp 15) rfl (w.heap.size + 1) 8 4 56 _ HT4.out.new rfl _ 4 (putL i 4) rfl hr4 (by omega) ?_; intro w5 HK5 hb5; rw [show (putL i 4).take (min 4 4) = putL i 4 from List.take_of_length_le (by rw [putL_length]; omega)] at HK5; have HT5 := Lib.hid (HT4.out.copied HR.out HK5.out hb5); clear hN; have hN := HT5.out.below
  refine hK.out _ _ ?_ (fun hS1 => ?_)
  · (exact hN)
  clear hK K hS; have hS := hS1; clear hS1
  (try simp only [rgp])
  refine wpAnyH_done (by kernel_rfl) ?_ _
  clear hS hb5 hb hr4 HT4 HK5 hN
  go_wp2_with (first
    | ((refine wpl_copy_sec rfl (.tmp 17) (.tmp 18) rfl (w.heap.size + 1) 12 52 52 _ HT5.out.new rfl _ len zs rfl HT5.out.arg (by omega) ?_; intro w6 HK6 hb6; rw [show z64 = List.replicate 64 0 from rfl, HSP.out] at HK6; have HT6 := Lib.hid (HT5.out.copied HR.out HK6.out hb6); clear hb6))
    | (refine wpList_load_row rfl 92 _ rfl (w.heap.size + 1) rfl _ (sv (sealed x i zs)) (0, 0) _ HT6.out.new.1 Tryz.underlying92 rfl (sv_info _ HSL.out) ?_)
    | (refine wpList_store_row rfl 92 _ _ rfl w.heap.size (sv (sealed x i zs)) rfl rfl _ (sv z64) HT6.out.old.1 (sv_info _ HSL.out) (by rw [sv_size, sv_size, HSL.out, z64_length]) (sv_one _) ?_))
  refine bodyPost_ret_by (v := .agg (sv (sealed x i zs))) (results_cell_row rfl _ _ w.heap.size _ (sv (sealed x i zs)) (0, 0) _ rfl (HT6.out.old.row HSL.out).1 Tryz.underlying92 rfl (sv_info _ HSL.out)) rfl ⟨rfl, below_row HT6.out.below (Nat.le_refl _) _⟩
end Go.Proofs.YtnmplnemnfonfaaGreatDoor
namespace Go.Proofs.YtnmplnemnfonfaaGreatDoor
open Go.RowKit
theorem get_ri (b off len cap : Nat) (zs : List Int) (w : World) (hr : RI .u8 w (.slice (some ⟨b, off, none⟩) len cap) len zs) (hz : Bytes zs) (h0 : 0 < len) :
    Calls Tryz.prog 118 #[.slice (some ⟨b, off, none⟩) len cap] w fun e w' => e = .returned (.int .u64 (getI zs (min len 8))) ∧ w = w' := by
  obtain ⟨b2, off2, c2, e, _, _, hcell⟩ := hr.open_ h0
  simp only [Value.slice.injEq, Option.some.injEq, Addr.mk.injEq, and_true, true_and] at e
  obtain ⟨⟨rfl, rfl⟩, rfl⟩ := e
  exact get_some b off len cap zs w hz h0 hr.le hcell
set_option maxRecDepth 8000 in
set_option maxHeartbeats 1000000 in
theorem read_any (l : List Int) (hl : l.length = 64) (hb : Bytes l) (w : World) :
    Calls Tryz.prog 102 #[.agg (sv l)] w fun e w' => ∃ x i v, e = .returned (.tuple #[.int .u64 x, .int .i64 i, v]) ∧ RI .u8 w' v 52 (l.drop 12) ∧ U64 x ∧ 0 ≤ i ∧ i ≤ 4294967295 ∧ sealed x i (l.drop 12) = l ∧ Below w.heap.size w w' := by
  have HK0 := Lib.hid (Blk.new w l hl)
  have HB := Lib.hid hb
  have HL := Lib.hid hl
  obtain ⟨x, hx⟩ : ∃ x, getI (l.take 8) 8 = x := ⟨_, rfl⟩
  obtain ⟨i, hi⟩ : ∃ i, getI ((l.drop 8).take 4) 4 = i := ⟨_, rfl⟩
  have hxb := getI_bd (l.take 8) (bytes_take hb 8) 8
  have hib := getI_bd ((l.drop 8).take 4) (bytes_take (bytes_drop hb 8) 4) 4
  have HSE := Lib.hid (sealed_read l hl hb)
  rw [hx, hi] at HSE
  rw [hx] at hxb
  rw [hi] at hib
  simp only [Nat.reduceMul, Int.reducePow] at hxb hib
  have HX := Lib.hid hx
  have HI := Lib.hid hi
  have hwr : IntKind.i64.wrap i = i := IntWalk.i64_in _ (by omega)
  clear hb hl hx hi
  go_enter Tryz.func102, Tryz.ntmps102
  go_wp2
  refine wp_region_held_drew (S := (fun w' => Blk w' w.heap.size l ∧ Below w.heap.size w w')) (by kernel_rfl) ⟨HK0.out, (below_alloc w _).drew⟩ (fun hS => ?_)
  refine rgw 0 ⟨some 7, .slice 92 (.tmp 1) none (some (.const (.int .i64 8))) none, 49, _, _, none⟩ hS ?_
  refine rgw 2 ⟨some 9, .slice 92 (.tmp 1) (some (.const (.int .i64 8))) (some (.const (.int .i64 12))) none, 49, _, _, none⟩ hS ?_
  refine rg_one 1 ⟨some 8, .call { callee := .value (.func 118), args := #[.tmp 7], argTypes := #[49] }, 22, _, _, none⟩ (by kernel_rfl) rfl (fun K hK => ?_)
  go_simp
  (go_at_call 118; (refine (get_ri w.heap.size 0 8 64 ((l.drop 0).take 8) _ (hS.1.ri 0 8 64 (by omega) (by omega) (by omega)) (bytes_take (bytes_drop HB.out 0) 8) (by omega)).mono ?_); rintro e w2 ⟨rfl, rfl⟩; rw [List.drop_zero, show min 8 8 = 8 from rfl, HX.out])
  refine hK.out _ _ ?_ (fun hS1 => ?_)
  · (first | exact hS | exact ⟨hS.1.keep hb, chain hS.2 hb⟩)
  clear hK K hS; have hS := hS1; clear hS1
  (try simp only [rgp])
  refine rg_one 3 ⟨some 10, .call { callee := .value (.func 118), args := #[.tmp 9], argTypes := #[49] }, 22, _, _, none⟩ (by kernel_rfl) rfl (fun K hK => ?_)
  go_simp
  (go_at_call 118; (refine (get_ri w.heap.size 8 4 56 ((l.drop 8).take 4) _ (hS.1.ri 8 4 56 (by omega) (by omega) (by omega)) (bytes_take (bytes_drop HB.out 8) 4) (by omega)).mono ?_); rintro e w3 ⟨rfl, rfl⟩; rw [show min 4 8 = 4 from rfl, HI.out])
  refine hK.out _ _ ?_ (fun hS1 => ?_)
  · (first | exact hS | exact ⟨hS.1.keep hb, chain hS.2 hb⟩)
  clear hK K hS; have hS := hS1; clear hS1
  (try simp only [rgp])
  refine rgw 4 ⟨some 5, .assign (.tmp 8), 22, _, _, none⟩ hS ?_
  refine rgw 5 ⟨some 6, .assign (.tmp 10), 22, _, _, none⟩ hS ?_
  refine wpAnyH_done (by kernel_rfl) ?_ _
  have hr0 := hS.1.ri 12 52 52 (by omega) (by omega) (by omega)
  rw [List.take_of_length_le (by simp [HL.out])] at hr0
  have HR0 := Lib.hid hr0
  have HS := Lib.hid hS.2
  clear hr0 hS
  go_wp2
  refine wp_region_held_drew (S := (fun w' => RI .u8 w' (.slice (some ⟨w.heap.size, 12, none⟩) 52 52) 52 (l.drop 12) ∧ Below w.heap.size w w')) (by kernel_rfl) ⟨HR0.out.keep (Below.refl _ _).drew, HS.out.drew⟩ (fun hS => ?_)
  refine rgw 0 ⟨some 11, .move (.tmp 5), 22, _, _, none⟩ hS ?_
  refine rgw 1 ⟨some 12, .move (.tmp 6), 22, _, _, none⟩ hS ?_
  refine rgw 2 ⟨some 13, .convert 22 3 (.tmp 12), 3, _, _, none⟩ hS ?_
  refine rgw 3 ⟨some 14, .slice 92 (.tmp 1) (some (.const (.int .i64 12))) none none, 49, _, _, none⟩ hS ?_
  refine rgw 4 ⟨some 2, .assign (.tmp 11), 22, _, _, none⟩ hS ?_
  refine rgw 5 ⟨some 3, .assign (.tmp 13), 3, _, _, none⟩ hS ?_
  refine rgw 6 ⟨some 4, .assign (.tmp 14), 49, _, _, none⟩ hS ?_
  refine wpAnyH_done (by kernel_rfl) ?_ _
  have HS2 := Lib.hid hS
  clear hS
  go_wp2
  go_ret3
  exact ⟨_, _, _, rfl, HS2.out.1, by unfold U64; omega, by omega, by omega, HSE.out, HS2.out.2⟩
set_option maxRecDepth 8000 in
set_option maxHeartbeats 1000000 in
theorem open_any (l : List Int) (hl : l.length = 64) (hbl : Bytes l) (x i : Int) (hx : U64 x) (hi : I63 i) (w : World) (y : Bool) (hy : decide (sealed x i (l.drop 12) = l) = y) :
    Calls Tryz.prog 85 #[.agg (sv l), .int .u64 x, .int .i64 i] w fun e w' => ∃ v, e = .returned (.tuple #[v, .bool y]) ∧ RI .u8 w' v (if y then 52 else 0) (if y then l.drop 12 else []) ∧ Below w.heap.size w w' := by
  have HK0 := Lib.hid (Blk.new w l hl)
  have HQ := Lib.hid (run_eq_sec (sealed x i (l.drop 12)) l (sealed_length _ _ _) hl)
  rw [hy] at HQ
  have HX := Lib.hid hx
  have HI := Lib.hid hi
  have HL := Lib.hid hl
  have HBL := Lib.hid hbl
  clear hl hx hi hy hbl
  go_enter Tryz.func85, Tryz.ntmps85
  go_wp2_with (first
    | (refine wpl_load_sec (by rfl) _ rfl w.heap.size rfl l HK0.out ?_)
    | (go_at_call 102; (refine (read_any l HL.out HBL.out _).mono ?_); rintro e w1 ⟨x1, i1, v1, rfl, hr, _, _, _, _, hb⟩; have HR1 := Lib.hid hr; have HK1 := Lib.hid (HK0.out.keep hb); have HB1 := Lib.hid (chain (below_alloc w _) hb); clear hr hb))
  refine wp_region_held_drew (S := (fun w' => Blk w' w.heap.size l ∧ RI .u8 w' v1 52 (l.drop 12) ∧ Below w.heap.size w w')) (by kernel_rfl) ⟨HK1.out, HR1.out.keep ((Below.refl _ _).drew), HB1.out.drew⟩ (fun hS => ?_)
  refine rgw 0 ⟨some 17, .move (.tmp 1), 22, _, _, none⟩ hS ?_
  refine rgw 1 ⟨some 18, .move (.tmp 2), 3, _, _, none⟩ hS ?_
  refine rgw 2 ⟨some 19, .move (.tmp 10), 49, _, _, none⟩ hS ?_
  refine rgw 4 ⟨some 21, .load 92 (.tmp 3), 92, _, _, none⟩ hS ?_ (hy := by intro w hSw; (try dsimp only at hSw); refine exec_load_sec (.tmp 3) ?_ ?_ hSw.1 <;> rfl)
  refine rg_one 3 ⟨some 20, .call { callee := .value (.func 103), args := #[.tmp 17, .tmp 18, .tmp 19], argTypes := #[22, 3, 49] }, 92, _, _, none⟩ (by kernel_rfl) rfl (fun K hK => ?_)
  go_simp
  (go_at_call 103; (with_reducible refine (seal_any x i HX.out HI.out v1 52 (l.drop 12) _ hS.2.1).mono ?_); rintro e w2 ⟨rfl, hb⟩)
  refine hK.out _ _ ?_ (fun hS1 => ?_)
  · (first | exact hS | exact ⟨hS.1.keep hb, hS.2.1.keep hb, chain hS.2.2 hb⟩)
  clear hK K hS; have hS := hS1; clear hS1
  (try simp only [rgp])
  refine rgw 5 ⟨some 22, .binOp .neq 92 (.tmp 20) (.tmp 21) 92, 4, _, _, none⟩ hS ?_ (hy := by intro w hSw; (try dsimp only at hSw); have hq := HQ.out w; go_simp; try with_reducible rfl)
  refine wpAnyH_done (by kernel_rfl) ?_ _
  have HS := Lib.hid hS
  cases y with
  | false =>
    go_wp2
    go_ret2
    exact ⟨_, rfl, RI.nil _ _, HS.out.2.2⟩
  | true =>
    go_wp2
    go_ret2
    exact ⟨_, rfl, HS.out.2.1, HS.out.2.2⟩
end Go.Proofs.YtnmplnemnfonfaaGreatDoor
namespace Go.Proofs.YtnmplnemnfonfaaGreatDoor
open Go.RowKit
theorem wp_make_yb {w : World} {o : Oper} {a : Act} {K : Act → World → Prop} {Q : Exit → Act → World → Prop} (x y : Operand) (ho : o.op = Op.makeSlice 49 x y) (n : Nat) (hx : a.eval x = .int .i64 (n : Int)) (hy : a.eval y = .int .i64 (n : Int)) (hn : n ≤ 1000000)
    (h : ∀ g w', Hid (YB w' g (List.replicate n 0)) → Hid (w.heap.size ≤ g) → Hid (Below w.heap.size w w') → K (a.put o.dst (.slice (some ⟨g, 0, none⟩) n n)) w') : o.wp Tryz.prog a w K Q := by
  have hrun := make_bytes_run n (by omega) w
  unfold Oper.wp
  simp [execOp, ho, hx, hy, hrun, Result.andThen]
  exact h _ _ (heap_alloc_last w _) (Nat.le_refl _) (below_alloc w _)
theorem wp_make_kb {w : World} {o : Oper} {a : Act} {K : Act → World → Prop} {Q : Exit → Act → World → Prop} (x y : Operand) (ho : o.op = Op.makeSlice 75 x y) (n : Nat) (hx : a.eval x = .int .i64 (n : Int)) (hy : a.eval y = .int .i64 (n : Int)) (hn : n ≤ 1000000)
    (h : ∀ g w', Hid (KB w' g (List.replicate n false)) → Hid (w.heap.size ≤ g) → Hid (Below w.heap.size w w') → K (a.put o.dst (.slice (some ⟨g, 0, none⟩) n n)) w') : o.wp Tryz.prog a w K Q := by
  have hrun := make_kbools_run n (by omega) w
  unfold Oper.wp
  simp [execOp, ho, hx, hy, hrun, Result.andThen]
  exact h _ _ (heap_alloc_last w _) (Nat.le_refl _) (below_alloc w _)
theorem part_own (g i : Nat) (hi : i < 16) (w : World) :
    Calls Tryz.prog 86 #[.slice (some ⟨g, 0, none⟩) 832 832, .int .i64 (i : Int)] w fun e w' => e = .returned (.slice (some ⟨g, 52 * i, none⟩) 52 52) ∧ w' = w := by
  refine (part_any (some ⟨g, 0, none⟩) 832 832 i (by omega) (by omega) (by omega) w).mono ?_
  rintro e w' ⟨rfl, rfl⟩
  refine ⟨?_, rfl⟩
  have h1 : qF 832 i = 52 * i := by unfold qF; omega
  have h2 : qN 832 i = 52 := by unfold qN; rw [h1]; omega
  rw [h1, h2]
  unfold sliced
  rw [if_neg (by omega), show 52 * i + 52 - 52 * i = 52 from by omega]
  simp [Addr.add_mid]
set_option maxRecDepth 8000 in
set_option maxHeartbeats 1000000 in
theorem flat_rows (x : Int) (hx : U64 x) (v : Value) (n : Nat) (fs : List Int) (hbf : Bytes fs) (w : World) (h : FS w v n fs) :
    Calls Tryz.prog 65 #[.int .u64 x, v] w fun e w' => ∃ g1 g2, e = .returned (.tuple #[.slice (some ⟨g1, 0, none⟩) 832 832, .slice (some ⟨g2, 0, none⟩) 16 16]) ∧
      YB w' g1 (flatB x n fs 16) ∧ KB w' g2 (flatK x n fs 16) ∧ w.heap.size ≤ g1 ∧ w.heap.size ≤ g2 ∧ Below w.heap.size w w' := by
  have hfl := h.length
  obtain ⟨ad, cap, rfl, _, hc1, hc2, _⟩ := id h
  have HH := Lib.hid h
  have HX := Lib.hid hx
  have HBF := Lib.hid hbf
  have HFL := Lib.hid hfl
  obtain ⟨m, hm⟩ : ∃ m, min n 16 = m := ⟨_, rfl⟩
  have hmn : m ≤ n := by omega
  have hm16 : m ≤ 16 := by omega
  have hmi : (if (16 : Int) < (n : Int) then (16 : Int) else (n : Int)) = (m : Int) := by split <;> omega
  have HM := Lib.hid hm
  clear h hx hbf hfl hm
  go_enter Tryz.func65, Tryz.ntmps65
  go_wp2_with fail
  refine wp_region_held_drew (S := (fun w' => Below w.heap.size w w')) (by kernel_rfl) (Below.refl _ _).drew (fun hS => ?_)
  refine rg_both 0 1 ⟨some 11, .makeSlice 49 (.const (.int .i64 832)) (.const (.int .i64 832)), 49, _, _, none⟩ ⟨some 12, .makeSlice 75 (.const (.int .i64 16)) (.const (.int .i64 16)), 75, _, _, none⟩ (by kernel_rfl) rfl rfl (fun K hK => ?_) (fun K hK => ?_)
  focus
    rw [if_pos (by rfl)]; refine wp_make_yb _ _ rfl 832 rfl rfl (by omega) ?_; intro g1 wa HY0 HG1 hb; have hN := hS.trans (hb.out.mono hS.size); have HG1 := Lib.hid (Nat.le_trans hS.size HG1.out)
    refine hK.out _ _ ?_ (fun hS1 => ?_)
    · (exact hN)
    clear hK K hS; have hS := hS1; clear hS1
    (try simp only [rgp])
    refine rgw 2 ⟨some 6, .assign (.tmp 11), 49, _, _, none⟩ hS ?_
    refine rg_one 1 ⟨some 12, .makeSlice 75 (.const (.int .i64 16)) (.const (.int .i64 16)), 75, _, _, none⟩ (by kernel_rfl) rfl (fun K hK => ?_)
    rw [if_pos (by rfl)]; refine wp_make_kb _ _ rfl 16 rfl rfl (by omega) ?_; intro g2 wb HK0 HG2 hb; have hN := hS.trans (hb.out.mono hS.size); have HG2 := Lib.hid (Nat.le_trans hS.size HG2.out); have HY0 := Lib.hid (HY0.out.keep hb.out)
    refine hK.out _ _ ?_ (fun hS1 => ?_)
    · (exact hN)
    clear hK K hS; have hS := hS1; clear hS1
    (try simp only [rgp])
  rotate_left
  focus
    rw [if_pos (by rfl)]; refine wp_make_kb _ _ rfl 16 rfl rfl (by omega) ?_; intro g2 wa HK0 HG2 hb; have hN := hS.trans (hb.out.mono hS.size); have HG2 := Lib.hid (Nat.le_trans hS.size HG2.out)
    refine hK.out _ _ ?_ (fun hS1 => ?_)
    · (exact hN)
    clear hK K hS; have hS := hS1; clear hS1
    (try simp only [rgp])
    refine rg_one 0 ⟨some 11, .makeSlice 49 (.const (.int .i64 832)) (.const (.int .i64 832)), 49, _, _, none⟩ (by kernel_rfl) rfl (fun K hK => ?_)
    rw [if_pos (by rfl)]; refine wp_make_yb _ _ rfl 832 rfl rfl (by omega) ?_; intro g1 wb HY0 HG1 hb; have hN := hS.trans (hb.out.mono hS.size); have HG1 := Lib.hid (Nat.le_trans hS.size HG1.out); have HK0 := Lib.hid (HK0.out.keep hb.out)
    refine hK.out _ _ ?_ (fun hS1 => ?_)
    · (exact hN)
    clear hK K hS; have hS := hS1; clear hS1
    (try simp only [rgp])
    refine rgw 2 ⟨some 6, .assign (.tmp 11), 49, _, _, none⟩ hS ?_
  rotate_left
  all_goals
    refine rgw 3 ⟨some 7, .assign (.tmp 12), 75, _, _, none⟩ hS ?_
    refine wpAnyH_done (by kernel_rfl) ?_ _
    have HB0 := Lib.hid hS
    clear hS
    have HYZ : Hid (YB wb g1 (bodyAt x n fs 0)) := Lib.hid (by rw [bodyAt_zero]; exact HY0.out)
    have HKZ : Hid (KB wb g2 (oksAt x n fs 0)) := Lib.hid (by rw [oksAt_zero]; exact HK0.out)
    clear HY0 HK0
    have HNE := Lib.hid (yk_ne HYZ.out HKZ.out)
    go_wp2
    go_loopw [16] (fun iv wr => ∃ k : Nat, iv = .int .i64 k ∧ k ≤ m ∧ Hid (YB wr g1 (bodyAt x n fs k)) ∧ Hid (KB wr g2 (oksAt x n fs k)) ∧ Hid (Below w.heap.size w wr)) (fun iv _ => m - (intOf iv).toNat)
    case atStart => exact ⟨0, rfl, by omega, HYZ, HKZ, HB0⟩
    case round =>
      obtain ⟨k, rfl, hk, HY, HK, HB⟩ := hrel
      by_cases hlt : (k : Int) < (m : Int)
      · obtain ⟨b, off, rfl, hat⟩ := (HH.out.keep HB.out).at_ k (by omega)
        obtain ⟨l, hsl⟩ : ∃ l, secOf fs k = l := ⟨_, rfl⟩
        have hat : At wr b (off + k * 64) l := by rw [← hsl]; exact hat
        have HAT := Lib.hid hat
        have HSL := Lib.hid (secOf_length fs n k HFL.out (by omega))
        have HSB := Lib.hid (show Bytes (secOf fs k) from bytes_take (bytes_drop HBF.out _) _)
        have HOK := Lib.hid (okAt_in x n fs k (by omega))
        have HNX := Lib.hid (oksAt_next x n fs k (by omega))
        have HKL := Lib.hid (oksAt_length x n fs k (by omega))
        have HYL := Lib.hid (bodyAt_length x n fs HFL.out k (by omega))
        obtain ⟨y, hy⟩ : ∃ y, okAt x n fs k = y := ⟨_, rfl⟩
        have HYN : Hid (splice (bodyAt x n fs k) (52 * k) (if y then (secOf fs k).drop 12 else []) = bodyAt x n fs (k + 1)) := Lib.hid (by
          cases y with
          | true => exact bodyAt_true x n fs HFL.out k (by omega) hy
          | false => simp only [Bool.false_eq_true, if_false]; rw [splice_nil]; exact bodyAt_false x n fs k (by omega) hy)
        rw [hy] at HOK HNX
        rw [hsl] at HSL HSB HOK HYN
        have HRL : Hid ((if y then 52 else 0) ≤ 52) := Lib.hid (by split <;> omega)
        clear hat hy hsl
        go_wp2_with (first
          | (refine wpl_load_at rfl _ rfl b _ rfl _ HAT.out ?_)
          | (go_at_call 85; (with_reducible refine (open_any l HSL.out HSB.out x k HX.out (by unfold I63; omega) _ y HOK.out.symm).mono ?_); rintro e w1 ⟨v1, rfl, hr, hb⟩; have HR := Lib.hid hr; have HY1 := Lib.hid (HY.out.keep hb); have HK1 := Lib.hid (HK.out.keep hb); have HB1 := Lib.hid (bch HB.out hb); clear hr hb)
          | (go_at_call 86; (with_reducible refine (part_own g1 k (by omega) _).mono ?_); rintro e w2 ⟨rfl, rfl⟩)
          | (refine wpl_copy_yb rfl _ _ rfl g1 (52 * k) 52 52 (bodyAt x n fs k) HY1.out rfl v1 _ _ rfl HR.out HRL.out (by have := HYL.out; omega) ?_; intro w3 HY3 hg3; have HY3 := Lib.hid (HYN.out ▸ HY3.out); have HK3 := Lib.hid (HK1.out.over hg3.out (Ne.symm HNE.out)); have HB3 := Lib.hid (below_grown HB1.out hg3.out HG1.out HB1.out.size); clear hg3)
          | (refine wpl_put_kb rfl _ _ rfl g2 k (oksAt x n fs k) y HK3.out (by have := HKL.out; omega) rfl rfl ?_; intro w4 HK4 hg4; have HK4 := Lib.hid (HNX.out ▸ HK4.out); have HY4 := Lib.hid (HY3.out.over hg4.out HNE.out); have HB4 := Lib.hid (below_grown HB3.out hg4.out HG2.out HB3.out.size); clear hg4))
        go_roundw
        case rel => exact ⟨k + 1, by simp, by omega, HY4, HK4, HB4⟩
        case measure => simp [intOf]; omega
      · obtain rfl : k = m := by omega
        go_wp2
        go_ret2
        refine ⟨g1, g2, rfl, ?_, ?_, HG1.out, HG2.out, HB.out⟩
        · have h1 := HY.out
          rw [← HM.out, bodyAt_end] at h1
          exact h1
        · have h1 := HK.out
          rw [← HM.out, oksAt_end] at h1
          exact h1
theorem flat_any (x : Int) (hx : U64 x) (v : Value) (n : Nat) (fs : List Int) (hbf : Bytes fs) (w : World) (h : FS w v n fs) :
    Calls Tryz.prog 65 #[.int .u64 x, v] w fun e w' => ∃ g1 g2, e = .returned (.tuple #[.slice (some ⟨g1, 0, none⟩) 832 832, .slice (some ⟨g2, 0, none⟩) 16 16]) ∧
      RI .u8 w' (.slice (some ⟨g1, 0, none⟩) 832 832) 832 (flatB x n fs 16) ∧ BS w' (.slice (some ⟨g2, 0, none⟩) 16 16) 16 (flatK x n fs 16) ∧ Below w.heap.size w w' := by
  have hfl := h.length
  refine (flat_rows x hx v n fs hbf w h).mono ?_
  rintro e w' ⟨g1, g2, rfl, h1, h2, _, _, hb⟩
  exact ⟨g1, g2, rfl, h1.ri (by rw [flatB_length x n fs hfl]) (by omega), h2.bs (flatK_length x n fs 16) (by omega), hb⟩
end Go.Proofs.YtnmplnemnfonfaaGreatDoor
namespace Go.Proofs.YtnmplnemnfonfaaGreatDoor
open Go.RowKit
def Free (b : Nat) (A B : World) : Prop := Below b A B ∧ ∀ (k : Nat) (o : Obj), A.heap[k]? = some o → o.isCells = true → B.heap[k]? = some o
theorem Free.refl (b : Nat) (A : World) : Free b A A := ⟨Below.refl _ _, fun _ _ h _ => h⟩
theorem Free.trans {b : Nat} {A B C : World} (h : Free b A B) (k : Free b B C) : Free b A C := ⟨h.1.trans k.1, fun i o hi ho => k.2 i o (h.2 i o hi ho) ho⟩
theorem Free.mono {b b' : Nat} {A B : World} (h : Free b A B) (hb : b' ≤ b) : Free b' A B := ⟨h.1.mono hb, h.2⟩
theorem Free.of {b : Nat} {A B : World} (h : Below A.heap.size A B) (hb : b ≤ A.heap.size) : Free b A B := ⟨h.mono hb, fun k _ hk _ => (h.block k (Array.getElem?_eq_some_iff.1 hk).1).trans hk⟩
theorem Free.put {b : Nat} {W : World} {l : Nat} {o : Obj} (o' : Obj) (hb : b ≤ l) (h : W.heap[l]? = some o) (ho : o.isCells = false) : Free b W (W.putObj l o') :=
  ⟨(Below.refl b W).grown (grownBy_putObj' W l o') (by have := (Array.getElem?_eq_some_iff.1 h).1; omega) (fun k e => by cases e; exact hb), fun k o2 hk ho2 => by
    by_cases e : k = l
    · subst e; rw [h] at hk; cases hk; rw [ho] at ho2; cases ho2
    · exact (World.putObj_heap_other e).trans hk⟩
variable {F : Fence} {n : Nat} {P : Program}
def NoC (W : World) (k : Nat) : Prop := ∃ o : Obj, W.heap[k]? = some o ∧ o.isCells = false
def RowsKeep (t : TypeId) (W W' : World) : Prop := ∀ (k : Nat) (cur : Array Value), W.heap[k]? = some (.cells cur t (0, 0)) → W'.heap[k]? = some (.cells cur t (0, 0))
theorem RowsKeep.of {t : TypeId} {W W' : World} (h : Below W.heap.size W W') : RowsKeep t W W' := fun k _ hk => (h.block k (Array.getElem?_eq_some_iff.1 hk).1).trans hk
theorem RowsKeep.trans {t : TypeId} {A B C : World} (h : RowsKeep t A B) (k : RowsKeep t B C) : RowsKeep t A C := fun i c hi => k i c (h i c hi)
theorem RowsKeep.put {t : TypeId} {W : World} {l : Nat} {o : Obj} (o' : Obj) (h : W.heap[l]? = some o) (ho : o.isCells = false) : RowsKeep t W (W.putObj l o') :=
  fun k _ hk => (Free.put (b := l) o' (Nat.le_refl _) h ho).2 k _ hk rfl
def KpE (t : TypeId) (f : Nat → Bool) (W : World) (f' : Nat → Bool) (W' : World) : Prop := Ext f W W' f' ∧ (Foot f W.heap.size → Foot f' W'.heap.size) ∧ RowsKeep t W W'
theorem KpE.trans {t : TypeId} {a A b B c C} (h : KpE t a A b B) (k : KpE t b B c C) : KpE t a A c C := ⟨h.1.trans k.1, fun hf => k.2.1 (h.2.1 hf), h.2.2.trans k.2.2⟩
theorem KpE.of {t : TypeId} {f : Nat → Bool} {W W' : World} (h : Below W.heap.size W W') : KpE t f W f W' := ⟨Ext.below h, fun hf => hf.mono h.size, RowsKeep.of h⟩
end Go.Proofs.YtnmplnemnfonfaaGreatDoor
namespace Go.Proofs.YtnmplnemnfonfaaGreatDoor
open Go.RowKit
variable {F : Fence} {n : Nat} {P : Program}
end Go.Proofs.YtnmplnemnfonfaaGreatDoor
namespace Go.Proofs.YtnmplnemnfonfaaGreatDoor
open Go.RowKit
structure KpI (n0 : Nat) (f : Nat → Bool) (W : World) (f' : Nat → Bool) (W' : World) : Prop where
  size : W.heap.size ≤ W'.heap.size
  below : n0 ≤ W.heap.size → Below n0 W W'
  cells : ∀ (k : Nat) (o : Obj), f k = false → W.heap[k]? = some o → o.isCells = true → W'.heap[k]? = some o
  foot : Foot f W.heap.size → Foot f' W'.heap.size
  old : ∀ k, k < W.heap.size → f' k = f k
theorem KpI.trans {n0 : Nat} {a A b B c C} (h : KpI n0 a A b B) (k : KpI n0 b B c C) : KpI n0 a A c C :=
  ⟨Nat.le_trans h.size k.size, fun hn => (h.below hn).trans (k.below (Nat.le_trans hn h.size)), fun i o hf ho hc => by
      have hlt := (Array.getElem?_eq_some_iff.1 ho).1
      exact k.cells i o (by rw [h.old i hlt]; exact hf) (h.cells i o hf ho hc) hc,
    fun hf => k.foot (h.foot hf), fun i hi => (k.old i (Nat.lt_of_lt_of_le hi h.size)).trans (h.old i hi)⟩
theorem KpI.of {n0 : Nat} {f : Nat → Bool} {W W' : World} (h : Below W.heap.size W W') : KpI n0 f W f W' :=
  ⟨h.size, fun hn => h.mono hn, fun k _ _ ho _ => (h.block k (Array.getElem?_eq_some_iff.1 ho).1).trans ho, fun hf => hf.mono h.size, fun _ _ => rfl⟩
theorem RI.free {k : IntKind} {A B : World} {b : Nat} {v : Value} {n : Nat} {zs : List Int} (h : RI k A v n zs) (hf : Free b A B) : RI k B v n zs := by
  obtain ⟨a, cap, rfl, h1, h2, h3, h4, hc⟩ := h
  refine ⟨a, cap, rfl, h1, h2, h3, h4, fun h0 => ?_⟩
  obtain ⟨b', off, rfl, hcell⟩ := hc h0
  refine ⟨b', off, rfl, fun j hj => ?_⟩
  have hcj := hcell j hj
  unfold World.cell? at hcj ⊢
  cases ho : A.heap[b']? with
  | none => simp [ho] at hcj
  | some o =>
    cases o with
    | cells cs t m => rw [hf.2 b' _ ho rfl]; rw [ho] at hcj; exact hcj
    | _ => simp [ho] at hcj
theorem own_free' {w w' : World} {b base : Nat} {e : TypeId} {size : Nat} {v : Value} {n : Nat} {xs : List Value} (h : w.ownsRow base e size v n xs) (hf : Free b w w') : w'.ownsRow base e size v n xs := by
  refine ⟨h.1, ?_⟩
  rcases h.2 with h2 | ⟨g, cap, cur, hv, hg, hcur, h3⟩
  · exact .inl h2
  · exact .inr ⟨g, cap, cur, hv, hg, hf.2 _ _ hcur rfl, h3⟩
end Go.Proofs.YtnmplnemnfonfaaGreatDoor
