/-
  TEXTS JOINED: HeadRight, HeadEnc, HeadRead, BytesEq, HeadDec, CrashRef, CutRef. Each one's own words stand at its head.
-/
import Derived.Test.YtgegbpnmfpjdmaaGreatDoorJ17
import Derived.Test.YtgegbpnmfpjdmaaGreatDoorJ18
import Derived.Test.YtgegbpnmfpjdmaaGreatDoorJ1
import Derived.Test.YtgegbpnmfpjdmaaGreatDoorJ5
import Derived.Test.YtgegbpnmfpjdmaaGreatDoorJ3
import Derived.Test.YtgegbpnmfpjdmaaGreatDoorJ13
import Derived.Deep.AppendLies
namespace Go.Proofs.YtgegbpnmfpjdmaaGreatDoor
open Go.RowKit
def btwn (n a b : Int) : Bool := decide (a ≤ n ∧ n ≤ b)
theorem within_any (n a b : Int) (w : World) : Calls Tryz.prog 51 #[.int .i64 n, .int .i64 a, .int .i64 b] w fun e w' => e = .returned (.bool (btwn n a b)) ∧ w = w' := by
  by_cases h1 : a ≤ n
  · by_cases h2 : n ≤ b
    · rw [show btwn n a b = true from by simp [btwn, h1, h2]]
      go_enter Tryz.func51, Tryz.ntmps51
      go_wp2
      go_ret
      exact ⟨rfl, rfl⟩
    · rw [show btwn n a b = false from by simp [btwn, h2]]
      go_enter Tryz.func51, Tryz.ntmps51
      go_wp2
      go_ret
      exact ⟨rfl, rfl⟩
  · rw [show btwn n a b = false from by simp [btwn, h1]]
    go_enter Tryz.func51, Tryz.ntmps51
    go_wp2
    go_ret
    exact ⟨rfl, rfl⟩
def bndF (f : Int) : Int := IntKind.i64.wrap (f - 1)
def okF (f : Int) (l : List Int) (i : Nat) : Prop := ∀ j, j < i → btwn (l.getD j 0) 0 (bndF f) = true
theorem right_false {h : Hdr} (ht : HdT h) {i : Nat} (hi : i < 4) (hb : btwn (h.l.getD i 0) 0 (bndF h.f) = false) : hdOk h = false := by
  cases hk : hdOk h
  · rfl
  · obtain ⟨_, _, h3, h4⟩ := hdOk_parts hk
    have := h4 (h.l.getD i 0) (getD_mem (by rw [ht.n]; exact hi))
    have hw : bndF h.f = h.f - 1 := IntWalk.i64_in _ (by omega)
    rw [hw] at hb
    unfold btwn at hb
    simp only [decide_eq_false_iff_not] at hb
    omega
theorem right_all {h : Hdr} (ht : HdT h) (hf : okF h.f h.l 4) : hdOk h = (decide (h.e ≠ 0) && (btwn h.s 1 2147483647 && btwn h.f 1 2147483647)) := by
  rw [Bool.eq_iff_iff]
  constructor
  · intro hk
    obtain ⟨h1, h2, h3, _⟩ := hdOk_parts hk
    simp [h1, btwn, h2, h3]
  · intro hk
    simp only [Bool.and_eq_true, decide_eq_true_eq, btwn] at hk
    obtain ⟨h1, h2, h3⟩ := hk
    refine hdOk_of h1 (by simp [lsn, h2]) (by simp [lsn, h3]) fun x hx => ?_
    obtain ⟨j, hj, rfl⟩ := List.getElem_of_mem hx
    have := hf j (by rw [ht.n] at hj; exact hj)
    have hw : bndF h.f = h.f - 1 := IntWalk.i64_in _ (by omega)
    rw [hw] at this
    simp only [btwn, decide_eq_true_eq, List.getD, hj, getElem?_pos, Option.getD_some] at this
    omega
set_option maxRecDepth 8000 in
set_option maxHeartbeats 1000000 in
theorem hright_any (h : Hdr) (ht : HdT h) (w : World) : Calls Tryz.prog 26 #[.agg (hv h)] w fun e w' => e = .returned (.bool (hdOk h)) ∧ Below w.heap.size w w' := by
  obtain ⟨w0, hw0⟩ : ∃ q, w.alloc (.cells (hv h) 30) = q := ⟨_, rfl⟩
  have HK := Lib.hid (show HB w0 w.heap.size h from by rw [← hw0]; exact HB.new w h ht.n)
  have HW := Lib.hid (show Below w.heap.size w w0 from by rw [← hw0]; exact balloc w _)
  have HTY := Lib.hid ht
  obtain ⟨z0, z1, z2⟩ := HK.out.cells
  have he : 0 ≤ h.e ∧ h.e ≤ 18446744073709551615 := ht.e
  obtain ⟨m, hm⟩ : ∃ m, bndF h.f = m := ⟨_, rfl⟩
  have hm2 : IntKind.i64.wrap (h.f - 1) = m := hm
  obtain ⟨y, hy⟩ : ∃ y, hdOk h = y := ⟨_, rfl⟩
  have HY := Lib.hid hy
  have HM := Lib.hid hm
  rw [hy]
  obtain ⟨e, s, f, l⟩ := h
  dsimp only at *
  clear ht hy hm
  go_enter Tryz.func26, Tryz.ntmps26
  go_wp2_with (first
    | (refine wpl_load_l4 rfl (.tmp 5) rfl rfl HK.out ?_))
  go_loopw [7] (fun v wr => ∃ i : Nat, v = .int .i64 i ∧ i ≤ 4 ∧ Hid (okF f l i) ∧ wr = w0) (fun v _ => 4 - (intOf v).toNat)
  case atStart => exact ⟨0, rfl, by omega, Lib.hid (fun j hj => absurd hj (by omega)), rfl⟩
  case round =>
    obtain ⟨i, rfl, hi, HO, rfl⟩ := hrel
    by_cases hlt : i < 4
    · have hix := index_l4 l HTY.out.n i hlt wr
      obtain ⟨x, hx⟩ : ∃ x, l.getD i 0 = x := ⟨_, rfl⟩
      rw [hx] at hix
      obtain ⟨b, hb⟩ : ∃ b, btwn x 0 m = b := ⟨_, rfl⟩
      have HX := Lib.hid hx
      have HBT := Lib.hid hb
      have HC := Lib.hid (within_any x 0 m wr)
      rw [hb] at HC
      have hlt2 : (i : Int) < 4 := by omega
      clear hx hb
      cases b with
      | false =>
        go_wp2_with (first
          | (go_at_call 51; (with_reducible refine (HC.out).mono ?_); rintro r w' ⟨rfl, rfl⟩))
        go_ret
        exact ⟨ret_bool (by rw [← HY.out]; exact (right_false HTY.out hlt (by dsimp only; rw [HX.out, HM.out]; exact HBT.out)).symm), HW.out⟩
      | true =>
        go_wp2_with (first
          | (go_at_call 51; (with_reducible refine (HC.out).mono ?_); rintro r w' ⟨rfl, rfl⟩))
        go_roundw
        case rel =>
          refine ⟨i + 1, by go_num, by omega, Lib.hid fun j hj => ?_, trivial⟩
          by_cases hji : j = i
          · subst hji; rw [HX.out, HM.out]; exact HBT.out
          · exact HO.out j (by omega)
        case measure => simp [intOf]; omega
    · obtain rfl : i = 4 := by omega
      have HA := Lib.hid (right_all HTY.out HO.out)
      rw [HY.out] at HA
      dsimp only at HA
      obtain ⟨b1, hb1⟩ : ∃ b, btwn s 1 2147483647 = b := ⟨_, rfl⟩
      obtain ⟨b2, hb2⟩ : ∃ b, btwn f 1 2147483647 = b := ⟨_, rfl⟩
      have HC1 := Lib.hid (within_any s 1 2147483647 wr)
      have HC2 := Lib.hid (within_any f 1 2147483647 wr)
      rw [hb1] at HC1
      rw [hb2] at HC2
      rw [hb1, hb2] at HA
      clear hb1 hb2
      have hi4 : ¬ ((4 : Nat) : Int) < 4 := by omega
      by_cases h0 : e = 0
      · subst h0
        go_wp2
        go_ret
        exact ⟨ret_bool (by rw [HA.out]; simp), HW.out⟩
      · cases b1 with
        | false =>
          go_wp2_with (first
            | (go_at_call 51; (with_reducible refine (HC1.out).mono ?_); rintro r w' ⟨rfl, rfl⟩))
          go_ret
          exact ⟨ret_bool (by rw [HA.out]; simp), HW.out⟩
        | true =>
          go_wp2_with (first
            | (go_at_call 51; first | ((with_reducible refine (HC1.out).mono ?_); rintro r w' ⟨rfl, rfl⟩) | ((with_reducible refine (HC2.out).mono ?_); rintro r w' ⟨rfl, rfl⟩)))
          go_ret
          exact ⟨ret_bool (by rw [HA.out]; simp [h0]), HW.out⟩
end Go.Proofs.YtgegbpnmfpjdmaaGreatDoor
namespace Go.Proofs.YtgegbpnmfpjdmaaGreatDoor
open Go.RowKit
set_option maxRecDepth 8000 in
set_option maxHeartbeats 2000000 in
theorem henc_ok (h : Hdr) (ht : HdT h) (hk : hdOk h = true) (w : World) (hT : Tab w) :
    Calls Tryz.prog 86 #[.agg (hv h)] w fun r w' => r = .returned (.tuple #[.agg (sv (secH h)), .int .i64 0]) ∧ Below w.heap.size w w' := by
  obtain ⟨w0, hw0⟩ : ∃ q, (w.alloc (.cells (hv h) 30)).alloc (.cells (sv z64) 60) = q := ⟨_, rfl⟩
  have hs1 : (w.alloc (.cells (hv h) 30)).heap.size = w.heap.size + 1 := alloc_size w _
  have HK := Lib.hid (show HB w0 w.heap.size h from by rw [← hw0]; exact (HB.new w h ht.n).keep (balloc _ _))
  have HO := Lib.hid (show Blk w0 (w.heap.size + 1) z64 from by rw [← hw0, ← hs1]; exact Blk.new _ z64 z64_length)
  have HW := Lib.hid (show Below w.heap.size w w0 from by rw [← hw0]; exact bch (balloc w _) (balloc _ _))
  have HR : Hid (∀ w, Calls Tryz.prog 26 #[.agg (hv h)] w fun r w' => r = .returned (.bool true) ∧ Below w.heap.size w w') := Lib.hid fun w => by rw [← hk]; exact hright_any h ht w
  have HY := Lib.hid (fun w => hlay_any h ht hk w)
  have HN := Lib.hid (secH_length ht.n)
  have HT := Lib.hid hT
  rw [z64_cells] at hw0
  clear ht hk hT hs1
  go_enter Tryz.func86, Tryz.ntmps86
  go_wp2_with (first
    | (refine wpl_load_hd (by rfl) (.tmp 1) rfl rfl (show HB w0 w.heap.size h from HK.out) ?_)
    | (refine wpl_load_hd (by rfl) (.tmp 1) rfl rfl HK1.out ?_)
    | (go_at_call 26; (with_reducible refine (HR.out _).mono ?_); rintro r w1 ⟨rfl, hb1⟩; have HK1 := Lib.hid (HK.out.keep hb1); have HO1 := Lib.hid (HO.out.keep hb1); have HB1 := Lib.hid (bch HW.out hb1); clear hb1)
    | (go_at_call 107; (with_reducible refine (HY.out _ (HT.out.keep HB1.out)).mono ?_); rintro r w2 ⟨rfl, hb2⟩; have HO2 := Lib.hid (HO1.out.keep hb2); have HB2 := Lib.hid (bch HB1.out hb2); clear hb2)
    | (refine wpl_put_sec rfl (.tmp 2) (.tmp 9) rfl (w.heap.size + 1) z64 (secH h) HO2.out HN.out rfl rfl ?_; intro w3 HO3 HG3))
  refine bodyPost_ret_by (results_row_tmp rfl _ _ (w.heap.size + 1) _ rfl (run_loadVar_row w3 (w.heap.size + 1) _ 60 (sv (secH h)) (0, 0) _ HO3.out.1 Tryz.underlying60 rfl (sv_info _ HN.out))) rfl ⟨rfl, hbelow_grown HB2.out HG3.out (by omega) HB2.out.size⟩
set_option maxRecDepth 8000 in
set_option maxHeartbeats 2000000 in
theorem henc_no (h : Hdr) (ht : HdT h) (hk : hdOk h = false) (w : World) :
    Calls Tryz.prog 86 #[.agg (hv h)] w fun r w' => r = .returned (.tuple #[.agg (sv z64), .int .i64 13]) ∧ Below w.heap.size w w' := by
  obtain ⟨w0, hw0⟩ : ∃ q, (w.alloc (.cells (hv h) 30)).alloc (.cells (sv z64) 60) = q := ⟨_, rfl⟩
  have hs1 : (w.alloc (.cells (hv h) 30)).heap.size = w.heap.size + 1 := alloc_size w _
  have HK := Lib.hid (show HB w0 w.heap.size h from by rw [← hw0]; exact (HB.new w h ht.n).keep (balloc _ _))
  have HO := Lib.hid (show Blk w0 (w.heap.size + 1) z64 from by rw [← hw0, ← hs1]; exact Blk.new _ z64 z64_length)
  have HW := Lib.hid (show Below w.heap.size w w0 from by rw [← hw0]; exact bch (balloc w _) (balloc _ _))
  have HR : Hid (∀ w, Calls Tryz.prog 26 #[.agg (hv h)] w fun r w' => r = .returned (.bool false) ∧ Below w.heap.size w w') := Lib.hid fun w => by rw [← hk]; exact hright_any h ht w
  rw [z64_cells] at hw0
  clear ht hk hs1
  go_enter Tryz.func86, Tryz.ntmps86
  go_wp2_with (first
    | (refine wpl_load_hd (by rfl) (.tmp 1) rfl rfl (show HB w0 w.heap.size h from HK.out) ?_)
    | (go_at_call 26; (with_reducible refine (HR.out _).mono ?_); rintro r w1 ⟨rfl, hb1⟩; have HK1 := Lib.hid (HK.out.keep hb1); have HO1 := Lib.hid (HO.out.keep hb1); have HB1 := Lib.hid (bch HW.out hb1); clear hb1)
    | (refine wpl_build_z rfl (by rfl) ?_)
    | (refine wpl_put_sec rfl (.tmp 2) (.tmp 7) rfl (w.heap.size + 1) z64 z64 HO1.out z64_length rfl rfl ?_; intro w3 HO3 HG3))
  refine bodyPost_ret_by (results_row_tmp rfl _ _ (w.heap.size + 1) _ rfl (run_loadVar_row w3 (w.heap.size + 1) _ 60 (sv z64) (0, 0) _ HO3.out.1 Tryz.underlying60 rfl (sv_info _ z64_length))) rfl ⟨rfl, hbelow_grown HB1.out HG3.out (by omega) HB1.out.size⟩
end Go.Proofs.YtgegbpnmfpjdmaaGreatDoor
namespace Go.Proofs.YtgegbpnmfpjdmaaGreatDoor
open Go.RowKit
def rdl (zs : List Int) (i : Nat) : List Int := (List.range 4).map fun j => if j < i then num zs (21 + 4 * j) 4 else 0
theorem rdl_set (zs : List Int) (i : Nat) (h : i < 4) : (rdl zs i).set i (num zs (21 + 4 * i) 4) = rdl zs (i + 1) := by
  match i, h with
  | 0, _ => rfl
  | 1, _ => rfl
  | 2, _ => rfl
  | 3, _ => rfl
theorem rdl_all (zs : List Int) : rdl zs 4 = [num zs 21 4, num zs 25 4, num zs 29 4, num zs 33 4] := rfl
set_option maxRecDepth 8000 in
set_option maxHeartbeats 4000000 in
theorem hread_any (zs : List Int) (hl : zs.length = 64) (hb : isB zs) (w : World) :
    Calls Tryz.prog 102 #[.agg (sv zs)] w fun e w' => e = .returned (.agg (hv (readH zs))) ∧ Below w.heap.size w w' := by
  have HT := readH_typed hb
  obtain ⟨w0, hw0⟩ : ∃ q, (w.alloc (.cells (sv zs) 60)).alloc (.cells #[.int .u64 0, .int .i64 0, .int .i64 0, .int .i64 0, .int .i64 0, .int .i64 0, .int .i64 0] 30) = q := ⟨_, rfl⟩
  have hs1 : (w.alloc (.cells (sv zs) 60)).heap.size = w.heap.size + 1 := alloc_size w _
  have HK := Lib.hid (show Blk w0 w.heap.size zs from by rw [← hw0]; exact (Blk.new w zs hl).keep (balloc _ _))
  have HRB := Lib.hid (show HB w0 (w.heap.size + 1) noH from by rw [← hw0, ← hs1]; exact HB.new _ noH rfl)
  have HW := Lib.hid (show Below w.heap.size w w0 from by rw [← hw0]; exact bch (balloc w _) (balloc _ _))
  have HSZ := Lib.hid (show w0.heap.size = w.heap.size + 2 from by rw [← hw0, alloc_size, hs1])
  obtain ⟨e0, he0⟩ : ∃ x, num zs 5 8 = x := ⟨_, rfl⟩
  obtain ⟨s0, hs0⟩ : ∃ x, num zs 13 4 = x := ⟨_, rfl⟩
  obtain ⟨f0, hf0⟩ : ∃ x, num zs 17 4 = x := ⟨_, rfl⟩
  have HE := Lib.hid (show (⟨e0, s0, f0, [num zs 21 4, num zs 25 4, num zs 29 4, num zs 33 4]⟩ : Hdr) = readH zs from by rw [← he0, ← hs0, ← hf0]; rfl)
  have HG5 : Hid (∀ w', Blk w' w.heap.size zs → Calls Tryz.prog 120 #[.slice (some ⟨w.heap.size, 5, none⟩) 8 59] w' fun e w'' => e = .returned (.int .u64 e0) ∧ w' = w'') := Lib.hid fun w' h => sec_get w.heap.size 5 8 zs w' h hb (by omega) (by omega) (by omega) he0
  have HG13 : Hid (∀ w', Calls Tryz.prog 121 #[.agg (sv zs), .int .i64 13] w' fun e w'' => e = .returned (.int .i64 s0) ∧ Below w'.heap.size w' w'') := Lib.hid fun w' => hget_any zs hl hb 13 (by omega) w' hs0
  have HG17 : Hid (∀ w', Calls Tryz.prog 121 #[.agg (sv zs), .int .i64 17] w' fun e w'' => e = .returned (.int .i64 f0) ∧ Below w'.heap.size w' w'') := Lib.hid fun w' => hget_any zs hl hb 17 (by omega) w' hf0
  have HL := Lib.hid hl
  have HZ := Lib.hid hb
  clear hl hb he0 hs0 hf0 HT hs1
  go_enter Tryz.func102, Tryz.ntmps102
  go_wp2_with fail
  refine wp_region_held_drew (S := (fun w' => Blk w' w.heap.size zs ∧ Below w0.heap.size w0 w')) (by kernel_rfl) ⟨HK.out, (Below.refl _ _).drew⟩ (fun hS => ?_)
  refine rgw 0 ⟨some 5, .slice 60 (.tmp 1) (some (.const (.int .i64 5))) (some (.const (.int .i64 13))) none, 43, _, _, none⟩ hS ?_
  refine rgw 2 ⟨some 7, .load 60 (.tmp 1), 60, _, _, none⟩ hS ?_ (hy := by intro w hSw; (try dsimp only at hSw); refine exec_load_sec (.tmp 1) ?_ ?_ hSw.1 <;> rfl)
  refine rgw 4 ⟨some 9, .load 60 (.tmp 1), 60, _, _, none⟩ hS ?_ (hy := by intro w hSw; (try dsimp only at hSw); refine exec_load_sec (.tmp 1) ?_ ?_ hSw.1 <;> rfl)
  refine rg_both 1 7 ⟨some 6, .call { callee := .value (.func 120), args := #[.tmp 5], argTypes := #[43] }, 22, _, _, none⟩ ⟨some 3, .alloc 30, 0, _, _, none⟩ (by kernel_rfl) rfl rfl (fun K hK => ?_) (fun K hK => ?_)
  focus
    go_simp
    (go_at_call 120; (refine (HG5.out _ hS.1).mono ?_); rintro e w2 ⟨rfl, rfl⟩)
    refine hK.out _ _ ?_ (fun hS1 => ?_)
    · (first | exact hS | exact hN | exact ⟨hS.1.keep hb, bch hS.2 hb⟩)
    clear hK K hS; have hS := hS1; clear hS1
    (try simp only [rgp])
    refine rg_both 3 7 ⟨some 8, .call { callee := .value (.func 121), args := #[.tmp 7, .const (.int .i64 13)], argTypes := #[60, 3] }, 3, _, _, none⟩ ⟨some 3, .alloc 30, 0, _, _, none⟩ (by kernel_rfl) rfl rfl (fun K hK => ?_) (fun K hK => ?_)
    focus
      go_simp
      (go_at_call 121; (refine (HG13.out _).mono ?_); rintro e w3 ⟨rfl, hb⟩; (try (have HA2 := Lib.hid (HA.out.keep hb); clear HA; have HA := HA2; clear HA2)))
      refine hK.out _ _ ?_ (fun hS1 => ?_)
      · (first | exact hS | exact hN | exact ⟨hS.1.keep hb, bch hS.2 hb⟩)
      clear hK K hS; have hS := hS1; clear hS1
      (try simp only [rgp])
      refine rg_both 5 7 ⟨some 10, .call { callee := .value (.func 121), args := #[.tmp 9, .const (.int .i64 17)], argTypes := #[60, 3] }, 3, _, _, none⟩ ⟨some 3, .alloc 30, 0, _, _, none⟩ (by kernel_rfl) rfl rfl (fun K hK => ?_) (fun K hK => ?_)
      focus
        go_simp
        (go_at_call 121; (refine (HG17.out _).mono ?_); rintro e w4 ⟨rfl, hb⟩; (try (have HA2 := Lib.hid (HA.out.keep hb); clear HA; have HA := HA2; clear HA2)))
        refine hK.out _ _ ?_ (fun hS1 => ?_)
        · (first | exact hS | exact hN | exact ⟨hS.1.keep hb, bch hS.2 hb⟩)
        clear hK K hS; have hS := hS1; clear hS1
        (try simp only [rgp])
        refine rgw 6 ⟨some 11, .build 30 #[(0, .tmp 6), (1, .tmp 8), (2, .tmp 10)], 30, _, _, none⟩ hS ?_ (v := .agg (hv ⟨e0, s0, f0, [0, 0, 0, 0]⟩)) (hy := by intro w hSw; (try dsimp only at hSw); go_simp; rfl)
        refine rg_one 7 ⟨some 3, .alloc 30, 0, _, _, none⟩ (by kernel_rfl) rfl (fun K hK => ?_)
        rw [if_pos (by rfl)]; refine wp_new_hd rfl ?_; intro g w5 HA hg hb0; have hb := hb0.out; have HGE := Lib.hid (Nat.le_trans hS.2.size hg.out); clear hg hb0
        refine hK.out _ _ ?_ (fun hS1 => ?_)
        · (first | exact hS | exact hN | exact ⟨hS.1.keep hb, bch hS.2 hb⟩)
        clear hK K hS; have hS := hS1; clear hS1
        (try simp only [rgp])
      rotate_left
      focus
        rw [if_pos (by rfl)]; refine wp_new_hd rfl ?_; intro g w5 HA hg hb0; have hb := hb0.out; have HGE := Lib.hid (Nat.le_trans hS.2.size hg.out); clear hg hb0
        refine hK.out _ _ ?_ (fun hS1 => ?_)
        · (first | exact hS | exact hN | exact ⟨hS.1.keep hb, bch hS.2 hb⟩)
        clear hK K hS; have hS := hS1; clear hS1
        (try simp only [rgp])
        refine rg_one 5 ⟨some 10, .call { callee := .value (.func 121), args := #[.tmp 9, .const (.int .i64 17)], argTypes := #[60, 3] }, 3, _, _, none⟩ (by kernel_rfl) rfl (fun K hK => ?_)
        go_simp
        (go_at_call 121; (refine (HG17.out _).mono ?_); rintro e w4 ⟨rfl, hb⟩; (try (have HA2 := Lib.hid (HA.out.keep hb); clear HA; have HA := HA2; clear HA2)))
        refine hK.out _ _ ?_ (fun hS1 => ?_)
        · (first | exact hS | exact hN | exact ⟨hS.1.keep hb, bch hS.2 hb⟩)
        clear hK K hS; have hS := hS1; clear hS1
        (try simp only [rgp])
        refine rgw 6 ⟨some 11, .build 30 #[(0, .tmp 6), (1, .tmp 8), (2, .tmp 10)], 30, _, _, none⟩ hS ?_ (v := .agg (hv ⟨e0, s0, f0, [0, 0, 0, 0]⟩)) (hy := by intro w hSw; (try dsimp only at hSw); go_simp; rfl)
      rotate_left
    rotate_left 2
    focus
      rw [if_pos (by rfl)]; refine wp_new_hd rfl ?_; intro g w5 HA hg hb0; have hb := hb0.out; have HGE := Lib.hid (Nat.le_trans hS.2.size hg.out); clear hg hb0
      refine hK.out _ _ ?_ (fun hS1 => ?_)
      · (first | exact hS | exact hN | exact ⟨hS.1.keep hb, bch hS.2 hb⟩)
      clear hK K hS; have hS := hS1; clear hS1
      (try simp only [rgp])
      refine rg_one 3 ⟨some 8, .call { callee := .value (.func 121), args := #[.tmp 7, .const (.int .i64 13)], argTypes := #[60, 3] }, 3, _, _, none⟩ (by kernel_rfl) rfl (fun K hK => ?_)
      go_simp
      (go_at_call 121; (refine (HG13.out _).mono ?_); rintro e w3 ⟨rfl, hb⟩; (try (have HA2 := Lib.hid (HA.out.keep hb); clear HA; have HA := HA2; clear HA2)))
      refine hK.out _ _ ?_ (fun hS1 => ?_)
      · (first | exact hS | exact hN | exact ⟨hS.1.keep hb, bch hS.2 hb⟩)
      clear hK K hS; have hS := hS1; clear hS1
      (try simp only [rgp])
      refine rg_one 5 ⟨some 10, .call { callee := .value (.func 121), args := #[.tmp 9, .const (.int .i64 17)], argTypes := #[60, 3] }, 3, _, _, none⟩ (by kernel_rfl) rfl (fun K hK => ?_)
      go_simp
      (go_at_call 121; (refine (HG17.out _).mono ?_); rintro e w4 ⟨rfl, hb⟩; (try (have HA2 := Lib.hid (HA.out.keep hb); clear HA; have HA := HA2; clear HA2)))
      refine hK.out _ _ ?_ (fun hS1 => ?_)
      · (first | exact hS | exact hN | exact ⟨hS.1.keep hb, bch hS.2 hb⟩)
      clear hK K hS; have hS := hS1; clear hS1
      (try simp only [rgp])
      refine rgw 6 ⟨some 11, .build 30 #[(0, .tmp 6), (1, .tmp 8), (2, .tmp 10)], 30, _, _, none⟩ hS ?_ (v := .agg (hv ⟨e0, s0, f0, [0, 0, 0, 0]⟩)) (hy := by intro w hSw; (try dsimp only at hSw); go_simp; rfl)
    rotate_left
  rotate_left 3
  focus
    rw [if_pos (by rfl)]; refine wp_new_hd rfl ?_; intro g w5 HA hg hb0; have hb := hb0.out; have HGE := Lib.hid (Nat.le_trans hS.2.size hg.out); clear hg hb0
    refine hK.out _ _ ?_ (fun hS1 => ?_)
    · (first | exact hS | exact hN | exact ⟨hS.1.keep hb, bch hS.2 hb⟩)
    clear hK K hS; have hS := hS1; clear hS1
    (try simp only [rgp])
    refine rg_one 1 ⟨some 6, .call { callee := .value (.func 120), args := #[.tmp 5], argTypes := #[43] }, 22, _, _, none⟩ (by kernel_rfl) rfl (fun K hK => ?_)
    go_simp
    (go_at_call 120; (refine (HG5.out _ hS.1).mono ?_); rintro e w2 ⟨rfl, rfl⟩)
    refine hK.out _ _ ?_ (fun hS1 => ?_)
    · (first | exact hS | exact hN | exact ⟨hS.1.keep hb, bch hS.2 hb⟩)
    clear hK K hS; have hS := hS1; clear hS1
    (try simp only [rgp])
    refine rg_one 3 ⟨some 8, .call { callee := .value (.func 121), args := #[.tmp 7, .const (.int .i64 13)], argTypes := #[60, 3] }, 3, _, _, none⟩ (by kernel_rfl) rfl (fun K hK => ?_)
    go_simp
    (go_at_call 121; (refine (HG13.out _).mono ?_); rintro e w3 ⟨rfl, hb⟩; (try (have HA2 := Lib.hid (HA.out.keep hb); clear HA; have HA := HA2; clear HA2)))
    refine hK.out _ _ ?_ (fun hS1 => ?_)
    · (first | exact hS | exact hN | exact ⟨hS.1.keep hb, bch hS.2 hb⟩)
    clear hK K hS; have hS := hS1; clear hS1
    (try simp only [rgp])
    refine rg_one 5 ⟨some 10, .call { callee := .value (.func 121), args := #[.tmp 9, .const (.int .i64 17)], argTypes := #[60, 3] }, 3, _, _, none⟩ (by kernel_rfl) rfl (fun K hK => ?_)
    go_simp
    (go_at_call 121; (refine (HG17.out _).mono ?_); rintro e w4 ⟨rfl, hb⟩; (try (have HA2 := Lib.hid (HA.out.keep hb); clear HA; have HA := HA2; clear HA2)))
    refine hK.out _ _ ?_ (fun hS1 => ?_)
    · (first | exact hS | exact hN | exact ⟨hS.1.keep hb, bch hS.2 hb⟩)
    clear hK K hS; have hS := hS1; clear hS1
    (try simp only [rgp])
    refine rgw 6 ⟨some 11, .build 30 #[(0, .tmp 6), (1, .tmp 8), (2, .tmp 10)], 30, _, _, none⟩ hS ?_ (v := .agg (hv ⟨e0, s0, f0, [0, 0, 0, 0]⟩)) (hy := by intro w hSw; (try dsimp only at hSw); go_simp; rfl)
  rotate_left
  all_goals
    refine rg_one 8 ⟨none, .store 30 (.tmp 3) (.tmp 11), 0, _, _, none⟩ (by kernel_rfl) rfl (fun K hK => ?_)
    rw [if_pos (by rfl)]; refine wp_put_hd (.tmp 3) (.tmp 11) rfl g noH ⟨e0, s0, f0, [0, 0, 0, 0]⟩ HA.out rfl rfl rfl ?_; intro w6 HA6 HG6; have HN1 := Lib.hid (show w.heap.size ≠ g by have := HGE.out; have := HSZ.out; omega); have HN2 := HGE; have hN := And.intro (hS.1.over HG6.out HN1.out) (hbelow_grown hS.2 HG6.out HGE.out hS.2.size); clear HA
    refine hK.out _ _ ?_ (fun hS1 => ?_)
    · (first | exact hS | exact hN | exact ⟨hS.1.keep hb, bch hS.2 hb⟩)
    clear hK K hS; have hS := hS1; clear hS1
    (try simp only [Act.put])
    refine wpAnyH_done (by kernel_rfl) ?_ _
    have HB6 := Lib.hid hS.2
    have HK6 := Lib.hid hS.1
    have HA := Lib.hid HA6.out
    clear hS HA6 HG6
    (try clear hN hb)
    go_wp2
    go_loopw [12] (fun v wr => ∃ i : Nat, v = .int .i64 i ∧ i ≤ 4 ∧ Hid (HB wr g ⟨e0, s0, f0, rdl zs i⟩) ∧ Hid (Blk wr w.heap.size zs) ∧ Hid (Below w0.heap.size w0 wr)) (fun v _ => 4 - (intOf v).toNat)
    case atStart => exact ⟨0, rfl, by omega, HA, HK6, HB6⟩
    case round =>
      obtain ⟨i, rfl, hi, HAR, HKR, HBR⟩ := hrel
      by_cases hlt : i < 4
      · obtain ⟨x, hx⟩ : ∃ x, num zs (21 + 4 * i) 4 = x := ⟨_, rfl⟩
        have HXS := Lib.hid (rdl_set zs i hlt)
        rw [hx] at HXS
        have HGX := Lib.hid (fun w => hget_any zs HL.out HZ.out (21 + 4 * i) (by omega) w hx)
        obtain ⟨p, hp⟩ : ∃ p : Nat, 21 + 4 * i = p := ⟨_, rfl⟩
        rw [hp] at HGX
        have hp2 : (21 : Int) + 4 * (i : Int) = (p : Int) := by omega
        have hlt2 : (i : Int) < 4 := by omega
        have hpb : (p : Int) ≤ 33 := by omega
        clear hx hp
        go_wp2_with (first
          | (refine wpl_load_sec (by rfl) (.tmp 1) rfl w.heap.size rfl zs HKR.out ?_)
          | (go_at_call 121; (with_reducible refine (HGX.out _).mono ?_); rintro r w7 ⟨rfl, hb7⟩; have HA7 := Lib.hid (HAR.out.keep hb7); have HK7 := Lib.hid (HKR.out.keep hb7); have HB7 := Lib.hid (bch HBR.out hb7); have hc7 := HA7.out.head i hlt; have hf7 := HA7.out.frozen (3 + i); dsimp only at hc7; clear hb7))
        go_roundw
        case rel =>
          refine ⟨i + 1, by go_num, by omega, Lib.hid ?_, Lib.hid (HK7.out.apart HN1.out _ _), Lib.hid (HB7.out.setCell HN2.out _)⟩
          have h1 := HA7.out.stored i x
          dsimp only at h1
          rw [HXS.out] at h1
          exact h1
        case measure => simp [intOf]; omega
      · obtain rfl : i = 4 := by omega
        have HRD := Lib.hid (rdl_all zs)
        have HAF := Lib.hid (show HB wr g (readH zs) from by have h1 := HAR.out; rw [HRD.out, HE.out] at h1; exact h1)
        have HO := Lib.hid (HRB.out.keep HBR.out)
        go_wp2_with (first
          | (refine wpl_load_hd (by rfl) (.tmp 3) rfl rfl HAF.out ?_)
          | (refine wpl_put_hd rfl (.tmp 2) (.tmp 24) rfl (w.heap.size + 1) noH (readH zs) HO.out rfl rfl rfl ?_; intro w9 HO9 HG9))
        refine bodyPost_ret_by (v := .agg (hv (readH zs))) (results_cell_row rfl _ _ (w.heap.size + 1) _ (hv (readH zs)) (0, 0) _ rfl HO9.out.1 Tryz.underlying30 rfl (hv_info rfl)) rfl ⟨rfl, ?_⟩
        exact hbelow_grown (bch HW.out HBR.out) HG9.out (by omega) (Nat.le_trans HW.out.size HBR.out.size)
end Go.Proofs.YtgegbpnmfpjdmaaGreatDoor
namespace Go.Proofs.YtgegbpnmfpjdmaaGreatDoor
open Go.RowKit
theorem bequal_any (v v' : Value) (n n' : Nat) (d d' : List Int) (w : World) (h1 : RI .u8 w v n d) (h2 : RI .u8 w v' n' d') (hb1 : isB d) (hb2 : isB d') :
    Calls Tryz.prog 100 #[v, v'] w fun e w' => e = .returned (.bool (decide (d = d'))) ∧ w = w' := by
  have q1 := conv_ri h1
  have q2 := conv_ri h2
  by_cases hd : d = d'
  · subst hd
    rw [show decide (d = d) = true from by simp]
    clear h1 h2 hb1 hb2
    go_enter Tryz.func100, Tryz.ntmps100
    go_wp2
    go_ret
    exact ⟨rfl, rfl⟩
  · rw [show decide (d = d') = false from by simp [hd]]
    have hs2 := str_ne (fun e => hd (strOfNums_inj hb1 hb2 e))
    clear h1 h2 hb1 hb2
    go_enter Tryz.func100, Tryz.ntmps100
    go_wp2
    go_ret
    exact ⟨rfl, rfl⟩
end Go.Proofs.YtgegbpnmfpjdmaaGreatDoor
namespace Go.Proofs.YtgegbpnmfpjdmaaGreatDoor
open Go.RowKit
set_option maxRecDepth 8000 in
set_option maxHeartbeats 4000000 in
theorem hdec_none (zs : List Int) (hl : zs.length = 64) (hb : isB zs) (w : World) (hT : Tab w) (h1 : zs = z64) :
    Calls Tryz.prog 75 #[.agg (sv zs)] w fun r w' => r = .returned (.tuple #[.agg (hv noH), .int .i64 7]) ∧ Below w.heap.size w w' := by
  obtain ⟨w0, hw0⟩ : ∃ q, (w.alloc (.cells (sv zs) 60)).alloc (.cells #[.int .u64 0, .int .i64 0, .int .i64 0, .int .i64 0, .int .i64 0, .int .i64 0, .int .i64 0] 30) = q := ⟨_, rfl⟩
  have hs1 : (w.alloc (.cells (sv zs) 60)).heap.size = w.heap.size + 1 := alloc_size w _
  have HK := Lib.hid (show Blk w0 w.heap.size zs from by rw [← hw0]; exact (Blk.new w zs hl).keep (balloc _ _))
  have HRB := Lib.hid (show HB w0 (w.heap.size + 1) noH from by rw [← hw0, ← hs1]; exact HB.new _ noH rfl)
  have HW := Lib.hid (show Below w.heap.size w w0 from by rw [← hw0]; exact bch (balloc w _) (balloc _ _))
  have HSZ := Lib.hid (show w0.heap.size = w.heap.size + 2 from by rw [← hw0, alloc_size, hs1])
  have HT := Lib.hid hT
  have HL := Lib.hid hl
  have HZB := Lib.hid hb
  have HEQ := Lib.hid (show decide (zs = z64) = true from by simpa using h1)
  clear hl hb hT hs1 h1
  go_enter Tryz.func75, Tryz.ntmps75
  go_wp2_with (first
    | (refine wpl_load_sec (by rfl) (.tmp 1) rfl w.heap.size rfl zs HK.out ?_)
    | (refine wpl_build_z rfl (by rfl) ?_)
    | (refine wpl_eq_sec (.tmp 6) (.tmp 7) _ rfl zs z64 HL.out z64_length rfl rfl (by rfl) ?_; rw [HEQ.out])
    | (refine wpl_put_hd rfl (.tmp 2) (.tmp 9) rfl (w.heap.size + 1) noH noH HRB.out rfl rfl rfl ?_; intro wf HOF HGF))
  refine bodyPost_ret_by (results_row_tmp rfl _ _ (w.heap.size + 1) _ rfl HOF.out.load) rfl ⟨rfl, hbelow_grown HW.out HGF.out (by omega) HW.out.size⟩
set_option maxRecDepth 8000 in
set_option maxHeartbeats 4000000 in
theorem hdec_mark (zs : List Int) (hl : zs.length = 64) (hb : isB zs) (w : World) (hT : Tab w) (h1 : ¬ zs = z64) (h2 : ¬ zs.take 5 = mark) :
    Calls Tryz.prog 75 #[.agg (sv zs)] w fun r w' => r = .returned (.tuple #[.agg (hv noH), .int .i64 2]) ∧ Below w.heap.size w w' := by
  obtain ⟨w0, hw0⟩ : ∃ q, (w.alloc (.cells (sv zs) 60)).alloc (.cells #[.int .u64 0, .int .i64 0, .int .i64 0, .int .i64 0, .int .i64 0, .int .i64 0, .int .i64 0] 30) = q := ⟨_, rfl⟩
  have hs1 : (w.alloc (.cells (sv zs) 60)).heap.size = w.heap.size + 1 := alloc_size w _
  have HK := Lib.hid (show Blk w0 w.heap.size zs from by rw [← hw0]; exact (Blk.new w zs hl).keep (balloc _ _))
  have HRB := Lib.hid (show HB w0 (w.heap.size + 1) noH from by rw [← hw0, ← hs1]; exact HB.new _ noH rfl)
  have HW := Lib.hid (show Below w.heap.size w w0 from by rw [← hw0]; exact bch (balloc w _) (balloc _ _))
  have HSZ := Lib.hid (show w0.heap.size = w.heap.size + 2 from by rw [← hw0, alloc_size, hs1])
  have HT := Lib.hid hT
  have HL := Lib.hid hl
  have HZB := Lib.hid hb
  have HEQ := Lib.hid (show decide (zs = z64) = false from by simpa using h1)
  have hri5 := HK.out.ri 0 5 64 (by omega) (by omega) (by omega)
  rw [List.drop_zero] at hri5
  obtain ⟨s5, hs5⟩ : ∃ s, strOfNums (zs.take 5) = s := ⟨_, rfl⟩
  have hq5 := (conv_ri hri5).trans (by rw [hs5])
  have hne0 := str_ne (show ¬ s5 = ⟨#[115, 116, 114, 100, 1]⟩ from fun e => h2 (strOfNums_inj (hb.take 5) mark_bytes (by rw [hs5, e]; rfl)))
  have hne : (s5.toList == [115, 116, 114, 100, 1]) = false := by rwa [show (⟨#[115, 116, 114, 100, 1]⟩ : ByteArray).toList = [115, 116, 114, 100, 1] from by rw [ByteArray.toList_eq]] at hne0
  clear hne0
  clear hri5 hs5
  clear hl hb hT hs1 h1 h2
  go_enter Tryz.func75, Tryz.ntmps75
  go_wp2_with (first
    | (refine wpl_load_sec (by rfl) (.tmp 1) rfl w.heap.size rfl zs HK.out ?_)
    | (refine wpl_build_z rfl (by rfl) ?_)
    | (refine wpl_eq_sec (.tmp 6) (.tmp 7) _ rfl zs z64 HL.out z64_length rfl rfl (by rfl) ?_; rw [HEQ.out])
    | (refine wpl_put_hd rfl (.tmp 2) (.tmp 21) rfl (w.heap.size + 1) noH noH HRB.out rfl rfl rfl ?_; intro wf HOF HGF))
  refine bodyPost_ret_by (results_row_tmp rfl _ _ (w.heap.size + 1) _ rfl HOF.out.load) rfl ⟨rfl, hbelow_grown HW.out HGF.out (by omega) HW.out.size⟩
set_option maxRecDepth 8000 in
set_option maxHeartbeats 4000000 in
theorem hdec_rest (zs : List Int) (hl : zs.length = 64) (hb : isB zs) (w : World) (hT : Tab w) (h1 : ¬ zs = z64) (h2 : zs.take 5 = mark) (h3 : ¬ zs.drop 41 = z23) :
    Calls Tryz.prog 75 #[.agg (sv zs)] w fun r w' => r = .returned (.tuple #[.agg (hv noH), .int .i64 2]) ∧ Below w.heap.size w w' := by
  obtain ⟨w0, hw0⟩ : ∃ q, (w.alloc (.cells (sv zs) 60)).alloc (.cells #[.int .u64 0, .int .i64 0, .int .i64 0, .int .i64 0, .int .i64 0, .int .i64 0, .int .i64 0] 30) = q := ⟨_, rfl⟩
  have hs1 : (w.alloc (.cells (sv zs) 60)).heap.size = w.heap.size + 1 := alloc_size w _
  have HK := Lib.hid (show Blk w0 w.heap.size zs from by rw [← hw0]; exact (Blk.new w zs hl).keep (balloc _ _))
  have HRB := Lib.hid (show HB w0 (w.heap.size + 1) noH from by rw [← hw0, ← hs1]; exact HB.new _ noH rfl)
  have HW := Lib.hid (show Below w.heap.size w w0 from by rw [← hw0]; exact bch (balloc w _) (balloc _ _))
  have HSZ := Lib.hid (show w0.heap.size = w.heap.size + 2 from by rw [← hw0, alloc_size, hs1])
  have HT := Lib.hid hT
  have HL := Lib.hid hl
  have HZB := Lib.hid hb
  have HEQ := Lib.hid (show decide (zs = z64) = false from by simpa using h1)
  have hri5 := HK.out.ri 0 5 64 (by omega) (by omega) (by omega)
  rw [List.drop_zero] at hri5
  have hq5 := (conv_ri hri5).trans (show Result.ok (Value.string (strOfNums (zs.take 5))) w0 = .ok (.string ⟨#[115, 116, 114, 100, 1]⟩) w0 from by rw [h2]; rfl)
  have HD23 := Lib.hid (show (zs.drop 41).length = 23 from by simp [hl])
  have HRQ := Lib.hid (show (!decide (zs.drop 41 = z23)) = true from by simpa using h3)
  clear hri5
  clear hl hb hT hs1 h1 h2 h3
  go_enter Tryz.func75, Tryz.ntmps75
  go_wp2_with (first
    | (refine wpl_load_sec (by rfl) (.tmp 1) rfl w.heap.size rfl zs HK.out ?_)
    | (refine wpl_build_z rfl (by rfl) ?_)
    | (refine wpl_eq_sec (.tmp 6) (.tmp 7) _ rfl zs z64 HL.out z64_length rfl rfl (by rfl) ?_; rw [HEQ.out])
    | (refine wpl_ptr_rest (.tmp 15) rfl _ _ _ rfl (by omega) (by rfl) ?_)
    | (refine wpl_load_rest (.tmp 16) rfl rfl HK.out (by rfl) ?_)
    | (refine wpl_build_rest rfl (by rfl) ?_)
    | (refine wpl_neq_rest (.tmp 17) (.tmp 18) _ rfl (zs.drop 41) z23 HD23.out z23_length rfl rfl (by rfl) ?_; rw [HRQ.out])
    | (refine wpl_put_hd rfl (.tmp 2) (.tmp 21) rfl (w.heap.size + 1) noH noH HRB.out rfl rfl rfl ?_; intro wf HOF HGF))
  refine bodyPost_ret_by (results_row_tmp rfl _ _ (w.heap.size + 1) _ rfl HOF.out.load) rfl ⟨rfl, hbelow_grown HW.out HGF.out (by omega) HW.out.size⟩
set_option maxRecDepth 8000 in
set_option maxHeartbeats 4000000 in
theorem hdec_sum (zs : List Int) (hl : zs.length = 64) (hb : isB zs) (w : World) (hT : Tab w) (h1 : ¬ zs = z64) (h2 : zs.take 5 = mark) (h3 : zs.drop 41 = z23) (h4 : ¬ (zs.drop 37).take 4 = putL (maskS (ofS (zs.take 37))) 4) :
    Calls Tryz.prog 75 #[.agg (sv zs)] w fun r w' => r = .returned (.tuple #[.agg (hv noH), .int .i64 3]) ∧ Below w.heap.size w w' := by
  obtain ⟨w0, hw0⟩ : ∃ q, (w.alloc (.cells (sv zs) 60)).alloc (.cells #[.int .u64 0, .int .i64 0, .int .i64 0, .int .i64 0, .int .i64 0, .int .i64 0, .int .i64 0] 30) = q := ⟨_, rfl⟩
  have hs1 : (w.alloc (.cells (sv zs) 60)).heap.size = w.heap.size + 1 := alloc_size w _
  have HK := Lib.hid (show Blk w0 w.heap.size zs from by rw [← hw0]; exact (Blk.new w zs hl).keep (balloc _ _))
  have HRB := Lib.hid (show HB w0 (w.heap.size + 1) noH from by rw [← hw0, ← hs1]; exact HB.new _ noH rfl)
  have HW := Lib.hid (show Below w.heap.size w w0 from by rw [← hw0]; exact bch (balloc w _) (balloc _ _))
  have HSZ := Lib.hid (show w0.heap.size = w.heap.size + 2 from by rw [← hw0, alloc_size, hs1])
  have HT := Lib.hid hT
  have HL := Lib.hid hl
  have HZB := Lib.hid hb
  have HEQ := Lib.hid (show decide (zs = z64) = false from by simpa using h1)
  have hri5 := HK.out.ri 0 5 64 (by omega) (by omega) (by omega)
  rw [List.drop_zero] at hri5
  have hq5 := (conv_ri hri5).trans (show Result.ok (Value.string (strOfNums (zs.take 5))) w0 = .ok (.string ⟨#[115, 116, 114, 100, 1]⟩) w0 from by rw [h2]; rfl)
  have HD23 := Lib.hid (show (zs.drop 41).length = 23 from by simp [hl])
  have HRQ := Lib.hid (show (!decide (zs.drop 41 = z23)) = false from by simpa using h3)
  clear hri5
  obtain ⟨m, hm⟩ : ∃ m, maskS (ofS (zs.take 37)) = m := ⟨_, rfl⟩
  have HSU := Lib.hid (fun w ht => hsum_any (w := w) ht zs hl hb hm)
  have HBQ := Lib.hid (show decide ((zs.drop 37).take 4 = putL m 4) = false from by rw [← hm]; simpa using h4)
  have HPB := Lib.hid (show isB ((zs.drop 37).take 4) from (hb.drop 37).take 4)
  clear hm
  clear hl hb hT hs1 h1 h2 h3 h4
  go_enter Tryz.func75, Tryz.ntmps75
  go_wp2_with (first
    | (refine wpl_load_sec (by rfl) (.tmp 1) rfl w.heap.size rfl zs HK.out ?_)
    | (refine wpl_build_z rfl (by rfl) ?_)
    | (refine wpl_eq_sec (.tmp 6) (.tmp 7) _ rfl zs z64 HL.out z64_length rfl rfl (by rfl) ?_; rw [HEQ.out])
    | (refine wpl_ptr_rest (.tmp 15) rfl _ _ _ rfl (by omega) (by rfl) ?_)
    | (refine wpl_load_rest (.tmp 16) rfl rfl HK.out (by rfl) ?_)
    | (refine wpl_build_rest rfl (by rfl) ?_)
    | (refine wpl_neq_rest (.tmp 17) (.tmp 18) _ rfl (zs.drop 41) z23 HD23.out z23_length rfl rfl (by rfl) ?_; rw [HRQ.out]))
  go_wp2_with fail
  refine wp_region_held_drew (S := (fun w' => Blk w' w.heap.size zs ∧ HB w' (w.heap.size + 1) noH ∧ Below w.heap.size w w')) (by kernel_rfl) ⟨HK.out, HRB.out, HW.out.drew⟩ (fun hS => ?_)
  refine rgw 0 ⟨some 23, .slice 60 (.tmp 1) (some (.const (.int .i64 37))) (some (.const (.int .i64 41))) none, 43, _, _, none⟩ hS ?_
  refine rgw 1 ⟨some 24, .load 60 (.tmp 1), 60, _, _, none⟩ hS ?_ (hy := by intro w hSw; (try dsimp only at hSw); refine exec_load_sec (.tmp 1) ?_ ?_ hSw.1 <;> rfl)
  refine rg_one 2 ⟨some 25, .call { callee := .value (.func 101), args := #[.tmp 24], argTypes := #[60] }, 43, _, _, none⟩ (by kernel_rfl) rfl (fun K hK => ?_)
  go_simp
  (go_at_call 101; (refine (HSU.out _ (HT.out.keep hS.2.2)).mono ?_); rintro r w3 ⟨p3, rfl, ho, hb⟩; have HR3 := Lib.hid (RI.own ho); clear ho)
  refine hK.out _ _ ?_ (fun hS1 => ?_)
  · (first | exact hS | exact ⟨hS.1.keep hb, hS.2.1.keep hb, bch hS.2.2 hb⟩)
  clear hK K hS; have hS := hS1; clear hS1
  (try simp only [rgp])
  refine rg_one 3 ⟨some 26, .call { callee := .value (.func 100), args := #[.tmp 23, .tmp 25], argTypes := #[43, 43] }, 4, _, _, none⟩ (by kernel_rfl) rfl (fun K hK => ?_)
  go_simp
  (go_at_call 100; (refine (bequal_any _ _ 4 4 _ _ _ (hS.1.ri 37 4 27 (by omega) (by omega) (by omega)) HR3.out HPB.out (putL_isB _ _)).mono ?_); rintro r w4 ⟨rfl, rfl⟩; rw [HBQ.out])
  refine hK.out _ _ ?_ (fun hS1 => ?_)
  · (first | exact hS | exact ⟨hS.1.keep hb, hS.2.1.keep hb, bch hS.2.2 hb⟩)
  clear hK K hS; have hS := hS1; clear hS1
  (try simp only [rgp])
  refine rgw 4 ⟨some 27, .unOp .not 4 (.tmp 26), 4, _, _, none⟩ hS ?_
  refine rgw 5 ⟨some 22, .assign (.tmp 27), 4, _, _, none⟩ hS ?_
  refine wpAnyH_done (by kernel_rfl) ?_ _
  have HK3 := Lib.hid hS.1
  have HRB3 := Lib.hid hS.2.1
  have HW3 := Lib.hid hS.2.2
  clear hS
  go_wp2_with (first
    | (refine wpl_put_hd rfl (.tmp 2) (.tmp 28) rfl (w.heap.size + 1) noH noH HRB3.out rfl rfl rfl ?_; intro wf HOF HGF))
  refine bodyPost_ret_by (results_row_tmp rfl _ _ (w.heap.size + 1) _ rfl HOF.out.load) rfl ⟨rfl, hbelow_grown HW3.out HGF.out (by omega) HW3.out.size⟩
set_option maxRecDepth 8000 in
set_option maxHeartbeats 4000000 in
theorem hdec_wrong (zs : List Int) (hl : zs.length = 64) (hb : isB zs) (w : World) (hT : Tab w) (h1 : ¬ zs = z64) (h2 : zs.take 5 = mark) (h3 : zs.drop 41 = z23) (h4 : (zs.drop 37).take 4 = putL (maskS (ofS (zs.take 37))) 4) (h5 : hdOk (readH zs) = false) :
    Calls Tryz.prog 75 #[.agg (sv zs)] w fun r w' => r = .returned (.tuple #[.agg (hv noH), .int .i64 2]) ∧ Below w.heap.size w w' := by
  obtain ⟨w0, hw0⟩ : ∃ q, (w.alloc (.cells (sv zs) 60)).alloc (.cells #[.int .u64 0, .int .i64 0, .int .i64 0, .int .i64 0, .int .i64 0, .int .i64 0, .int .i64 0] 30) = q := ⟨_, rfl⟩
  have hs1 : (w.alloc (.cells (sv zs) 60)).heap.size = w.heap.size + 1 := alloc_size w _
  have HK := Lib.hid (show Blk w0 w.heap.size zs from by rw [← hw0]; exact (Blk.new w zs hl).keep (balloc _ _))
  have HRB := Lib.hid (show HB w0 (w.heap.size + 1) noH from by rw [← hw0, ← hs1]; exact HB.new _ noH rfl)
  have HW := Lib.hid (show Below w.heap.size w w0 from by rw [← hw0]; exact bch (balloc w _) (balloc _ _))
  have HSZ := Lib.hid (show w0.heap.size = w.heap.size + 2 from by rw [← hw0, alloc_size, hs1])
  have HT := Lib.hid hT
  have HL := Lib.hid hl
  have HZB := Lib.hid hb
  have HEQ := Lib.hid (show decide (zs = z64) = false from by simpa using h1)
  have hri5 := HK.out.ri 0 5 64 (by omega) (by omega) (by omega)
  rw [List.drop_zero] at hri5
  have hq5 := (conv_ri hri5).trans (show Result.ok (Value.string (strOfNums (zs.take 5))) w0 = .ok (.string ⟨#[115, 116, 114, 100, 1]⟩) w0 from by rw [h2]; rfl)
  have HD23 := Lib.hid (show (zs.drop 41).length = 23 from by simp [hl])
  have HRQ := Lib.hid (show (!decide (zs.drop 41 = z23)) = false from by simpa using h3)
  clear hri5
  obtain ⟨m, hm⟩ : ∃ m, maskS (ofS (zs.take 37)) = m := ⟨_, rfl⟩
  have HSU := Lib.hid (fun w ht => hsum_any (w := w) ht zs hl hb hm)
  have HBQ := Lib.hid (show decide ((zs.drop 37).take 4 = putL m 4) = true from by rw [← hm]; simpa using h4)
  have HPB := Lib.hid (show isB ((zs.drop 37).take 4) from (hb.drop 37).take 4)
  clear hm
  have HRD := Lib.hid (fun w => hread_any zs hl hb w)
  have HRT := Lib.hid (readH_typed hb)
  have HOK : Hid (∀ w, Calls Tryz.prog 26 #[.agg (hv (readH zs))] w fun r w' => r = .returned (.bool false) ∧ Below w.heap.size w w') := Lib.hid fun w => by rw [← h5]; exact hright_any _ (readH_typed hb) w
  clear hl hb hT hs1 h1 h2 h3 h4 h5
  go_enter Tryz.func75, Tryz.ntmps75
  go_wp2_with (first
    | (refine wpl_load_sec (by rfl) (.tmp 1) rfl w.heap.size rfl zs HK.out ?_)
    | (refine wpl_build_z rfl (by rfl) ?_)
    | (refine wpl_eq_sec (.tmp 6) (.tmp 7) _ rfl zs z64 HL.out z64_length rfl rfl (by rfl) ?_; rw [HEQ.out])
    | (refine wpl_ptr_rest (.tmp 15) rfl _ _ _ rfl (by omega) (by rfl) ?_)
    | (refine wpl_load_rest (.tmp 16) rfl rfl HK.out (by rfl) ?_)
    | (refine wpl_build_rest rfl (by rfl) ?_)
    | (refine wpl_neq_rest (.tmp 17) (.tmp 18) _ rfl (zs.drop 41) z23 HD23.out z23_length rfl rfl (by rfl) ?_; rw [HRQ.out]))
  go_wp2_with fail
  refine wp_region_held_drew (S := (fun w' => Blk w' w.heap.size zs ∧ HB w' (w.heap.size + 1) noH ∧ Below w.heap.size w w')) (by kernel_rfl) ⟨HK.out, HRB.out, HW.out.drew⟩ (fun hS => ?_)
  refine rgw 0 ⟨some 23, .slice 60 (.tmp 1) (some (.const (.int .i64 37))) (some (.const (.int .i64 41))) none, 43, _, _, none⟩ hS ?_
  refine rgw 1 ⟨some 24, .load 60 (.tmp 1), 60, _, _, none⟩ hS ?_ (hy := by intro w hSw; (try dsimp only at hSw); refine exec_load_sec (.tmp 1) ?_ ?_ hSw.1 <;> rfl)
  refine rg_one 2 ⟨some 25, .call { callee := .value (.func 101), args := #[.tmp 24], argTypes := #[60] }, 43, _, _, none⟩ (by kernel_rfl) rfl (fun K hK => ?_)
  go_simp
  (go_at_call 101; (refine (HSU.out _ (HT.out.keep hS.2.2)).mono ?_); rintro r w3 ⟨p3, rfl, ho, hb⟩; have HR3 := Lib.hid (RI.own ho); clear ho)
  refine hK.out _ _ ?_ (fun hS1 => ?_)
  · (first | exact hS | exact ⟨hS.1.keep hb, hS.2.1.keep hb, bch hS.2.2 hb⟩)
  clear hK K hS; have hS := hS1; clear hS1
  (try simp only [rgp])
  refine rg_one 3 ⟨some 26, .call { callee := .value (.func 100), args := #[.tmp 23, .tmp 25], argTypes := #[43, 43] }, 4, _, _, none⟩ (by kernel_rfl) rfl (fun K hK => ?_)
  go_simp
  (go_at_call 100; (refine (bequal_any _ _ 4 4 _ _ _ (hS.1.ri 37 4 27 (by omega) (by omega) (by omega)) HR3.out HPB.out (putL_isB _ _)).mono ?_); rintro r w4 ⟨rfl, rfl⟩; rw [HBQ.out])
  refine hK.out _ _ ?_ (fun hS1 => ?_)
  · (first | exact hS | exact ⟨hS.1.keep hb, hS.2.1.keep hb, bch hS.2.2 hb⟩)
  clear hK K hS; have hS := hS1; clear hS1
  (try simp only [rgp])
  refine rgw 4 ⟨some 27, .unOp .not 4 (.tmp 26), 4, _, _, none⟩ hS ?_
  refine rgw 5 ⟨some 22, .assign (.tmp 27), 4, _, _, none⟩ hS ?_
  refine wpAnyH_done (by kernel_rfl) ?_ _
  have HK3 := Lib.hid hS.1
  have HRB3 := Lib.hid hS.2.1
  have HW3 := Lib.hid hS.2.2
  clear hS
  go_wp2_with (first
    | (refine wpl_load_sec (by rfl) (.tmp 1) rfl w.heap.size rfl zs HK3.out ?_)
    | (go_at_call 102; (with_reducible refine (HRD.out _).mono ?_); rintro r w5 ⟨rfl, hb5⟩; have HRB5 := Lib.hid (HRB3.out.keep hb5); have HW5 := Lib.hid (bch HW3.out hb5); clear hb5)
    | (refine wpl_put_hd rfl (.tmp 4) (.tmp 30) rfl w5.heap.size noH (readH zs) (HB.new w5 noH rfl) rfl rfl rfl ?_; intro w7 HA7 HG7; have HL5 := Lib.hid (HRB5.out.lt); have HRB7 := Lib.hid ((HRB5.out.keep (balloc w5 _)).over HG7.out (by have := HL5.out; omega)); have HW7 := Lib.hid (hbelow_grown (bch HW5.out (balloc w5 _)) HG7.out HW5.out.size (Nat.le_trans HW5.out.size (balloc w5 _).size)))
    | (refine wpl_load_hd (by rfl) (.tmp 4) rfl rfl HA8.out ?_)
    | (refine wpl_load_hd (by rfl) (.tmp 4) rfl rfl HA7.out ?_)
    | (go_at_call 26; (with_reducible refine (HOK.out _).mono ?_); rintro r w8 ⟨rfl, hb8⟩; have HA8 := Lib.hid (HA7.out.keep hb8); have HRB8 := Lib.hid (HRB7.out.keep hb8); have HW8 := Lib.hid (bch HW7.out hb8); clear hb8)
    | (refine wpl_put_hd rfl (.tmp 2) (.tmp 34) rfl (w.heap.size + 1) noH noH HRB8.out rfl rfl rfl ?_; intro wf HOF HGF))
  refine bodyPost_ret_by (results_row_tmp rfl _ _ (w.heap.size + 1) _ rfl HOF.out.load) rfl ⟨rfl, hbelow_grown HW8.out HGF.out (by omega) HW8.out.size⟩
set_option maxRecDepth 8000 in
set_option maxHeartbeats 4000000 in
theorem hdec_ok (zs : List Int) (hl : zs.length = 64) (hb : isB zs) (w : World) (hT : Tab w) (h1 : ¬ zs = z64) (h2 : zs.take 5 = mark) (h3 : zs.drop 41 = z23) (h4 : (zs.drop 37).take 4 = putL (maskS (ofS (zs.take 37))) 4) (h5 : hdOk (readH zs) = true) :
    Calls Tryz.prog 75 #[.agg (sv zs)] w fun r w' => r = .returned (.tuple #[.agg (hv (readH zs)), .int .i64 0]) ∧ Below w.heap.size w w' := by
  obtain ⟨w0, hw0⟩ : ∃ q, (w.alloc (.cells (sv zs) 60)).alloc (.cells #[.int .u64 0, .int .i64 0, .int .i64 0, .int .i64 0, .int .i64 0, .int .i64 0, .int .i64 0] 30) = q := ⟨_, rfl⟩
  have hs1 : (w.alloc (.cells (sv zs) 60)).heap.size = w.heap.size + 1 := alloc_size w _
  have HK := Lib.hid (show Blk w0 w.heap.size zs from by rw [← hw0]; exact (Blk.new w zs hl).keep (balloc _ _))
  have HRB := Lib.hid (show HB w0 (w.heap.size + 1) noH from by rw [← hw0, ← hs1]; exact HB.new _ noH rfl)
  have HW := Lib.hid (show Below w.heap.size w w0 from by rw [← hw0]; exact bch (balloc w _) (balloc _ _))
  have HSZ := Lib.hid (show w0.heap.size = w.heap.size + 2 from by rw [← hw0, alloc_size, hs1])
  have HT := Lib.hid hT
  have HL := Lib.hid hl
  have HZB := Lib.hid hb
  have HEQ := Lib.hid (show decide (zs = z64) = false from by simpa using h1)
  have hri5 := HK.out.ri 0 5 64 (by omega) (by omega) (by omega)
  rw [List.drop_zero] at hri5
  have hq5 := (conv_ri hri5).trans (show Result.ok (Value.string (strOfNums (zs.take 5))) w0 = .ok (.string ⟨#[115, 116, 114, 100, 1]⟩) w0 from by rw [h2]; rfl)
  have HD23 := Lib.hid (show (zs.drop 41).length = 23 from by simp [hl])
  have HRQ := Lib.hid (show (!decide (zs.drop 41 = z23)) = false from by simpa using h3)
  clear hri5
  obtain ⟨m, hm⟩ : ∃ m, maskS (ofS (zs.take 37)) = m := ⟨_, rfl⟩
  have HSU := Lib.hid (fun w ht => hsum_any (w := w) ht zs hl hb hm)
  have HBQ := Lib.hid (show decide ((zs.drop 37).take 4 = putL m 4) = true from by rw [← hm]; simpa using h4)
  have HPB := Lib.hid (show isB ((zs.drop 37).take 4) from (hb.drop 37).take 4)
  clear hm
  have HRD := Lib.hid (fun w => hread_any zs hl hb w)
  have HRT := Lib.hid (readH_typed hb)
  have HOK : Hid (∀ w, Calls Tryz.prog 26 #[.agg (hv (readH zs))] w fun r w' => r = .returned (.bool true) ∧ Below w.heap.size w w') := Lib.hid fun w => by rw [← h5]; exact hright_any _ (readH_typed hb) w
  clear hl hb hT hs1 h1 h2 h3 h4 h5
  go_enter Tryz.func75, Tryz.ntmps75
  go_wp2_with (first
    | (refine wpl_load_sec (by rfl) (.tmp 1) rfl w.heap.size rfl zs HK.out ?_)
    | (refine wpl_build_z rfl (by rfl) ?_)
    | (refine wpl_eq_sec (.tmp 6) (.tmp 7) _ rfl zs z64 HL.out z64_length rfl rfl (by rfl) ?_; rw [HEQ.out])
    | (refine wpl_ptr_rest (.tmp 15) rfl _ _ _ rfl (by omega) (by rfl) ?_)
    | (refine wpl_load_rest (.tmp 16) rfl rfl HK.out (by rfl) ?_)
    | (refine wpl_build_rest rfl (by rfl) ?_)
    | (refine wpl_neq_rest (.tmp 17) (.tmp 18) _ rfl (zs.drop 41) z23 HD23.out z23_length rfl rfl (by rfl) ?_; rw [HRQ.out]))
  go_wp2_with fail
  refine wp_region_held_drew (S := (fun w' => Blk w' w.heap.size zs ∧ HB w' (w.heap.size + 1) noH ∧ Below w.heap.size w w')) (by kernel_rfl) ⟨HK.out, HRB.out, HW.out.drew⟩ (fun hS => ?_)
  refine rgw 0 ⟨some 23, .slice 60 (.tmp 1) (some (.const (.int .i64 37))) (some (.const (.int .i64 41))) none, 43, _, _, none⟩ hS ?_
  refine rgw 1 ⟨some 24, .load 60 (.tmp 1), 60, _, _, none⟩ hS ?_ (hy := by intro w hSw; (try dsimp only at hSw); refine exec_load_sec (.tmp 1) ?_ ?_ hSw.1 <;> rfl)
  refine rg_one 2 ⟨some 25, .call { callee := .value (.func 101), args := #[.tmp 24], argTypes := #[60] }, 43, _, _, none⟩ (by kernel_rfl) rfl (fun K hK => ?_)
  go_simp
  (go_at_call 101; (refine (HSU.out _ (HT.out.keep hS.2.2)).mono ?_); rintro r w3 ⟨p3, rfl, ho, hb⟩; have HR3 := Lib.hid (RI.own ho); clear ho)
  refine hK.out _ _ ?_ (fun hS1 => ?_)
  · (first | exact hS | exact ⟨hS.1.keep hb, hS.2.1.keep hb, bch hS.2.2 hb⟩)
  clear hK K hS; have hS := hS1; clear hS1
  (try simp only [rgp])
  refine rg_one 3 ⟨some 26, .call { callee := .value (.func 100), args := #[.tmp 23, .tmp 25], argTypes := #[43, 43] }, 4, _, _, none⟩ (by kernel_rfl) rfl (fun K hK => ?_)
  go_simp
  (go_at_call 100; (refine (bequal_any _ _ 4 4 _ _ _ (hS.1.ri 37 4 27 (by omega) (by omega) (by omega)) HR3.out HPB.out (putL_isB _ _)).mono ?_); rintro r w4 ⟨rfl, rfl⟩; rw [HBQ.out])
  refine hK.out _ _ ?_ (fun hS1 => ?_)
  · (first | exact hS | exact ⟨hS.1.keep hb, hS.2.1.keep hb, bch hS.2.2 hb⟩)
  clear hK K hS; have hS := hS1; clear hS1
  (try simp only [rgp])
  refine rgw 4 ⟨some 27, .unOp .not 4 (.tmp 26), 4, _, _, none⟩ hS ?_
  refine rgw 5 ⟨some 22, .assign (.tmp 27), 4, _, _, none⟩ hS ?_
  refine wpAnyH_done (by kernel_rfl) ?_ _
  have HK3 := Lib.hid hS.1
  have HRB3 := Lib.hid hS.2.1
  have HW3 := Lib.hid hS.2.2
  clear hS
  go_wp2_with (first
    | (refine wpl_load_sec (by rfl) (.tmp 1) rfl w.heap.size rfl zs HK3.out ?_)
    | (go_at_call 102; (with_reducible refine (HRD.out _).mono ?_); rintro r w5 ⟨rfl, hb5⟩; have HRB5 := Lib.hid (HRB3.out.keep hb5); have HW5 := Lib.hid (bch HW3.out hb5); clear hb5)
    | (refine wpl_put_hd rfl (.tmp 4) (.tmp 30) rfl w5.heap.size noH (readH zs) (HB.new w5 noH rfl) rfl rfl rfl ?_; intro w7 HA7 HG7; have HL5 := Lib.hid (HRB5.out.lt); have HRB7 := Lib.hid ((HRB5.out.keep (balloc w5 _)).over HG7.out (by have := HL5.out; omega)); have HW7 := Lib.hid (hbelow_grown (bch HW5.out (balloc w5 _)) HG7.out HW5.out.size (Nat.le_trans HW5.out.size (balloc w5 _).size)))
    | (refine wpl_load_hd (by rfl) (.tmp 4) rfl rfl HA8.out ?_)
    | (refine wpl_load_hd (by rfl) (.tmp 4) rfl rfl HA7.out ?_)
    | (go_at_call 26; (with_reducible refine (HOK.out _).mono ?_); rintro r w8 ⟨rfl, hb8⟩; have HA8 := Lib.hid (HA7.out.keep hb8); have HRB8 := Lib.hid (HRB7.out.keep hb8); have HW8 := Lib.hid (bch HW7.out hb8); clear hb8)
    | (refine wpl_put_hd rfl (.tmp 2) (.tmp 35) rfl (w.heap.size + 1) noH (readH zs) HRB8.out rfl rfl rfl ?_; intro wf HOF HGF))
  refine bodyPost_ret_by (results_row_tmp rfl _ _ (w.heap.size + 1) _ rfl HOF.out.load) rfl ⟨rfl, hbelow_grown HW8.out HGF.out (by omega) HW8.out.size⟩
theorem hdec_any (zs : List Int) (hl : zs.length = 64) (hb : isB zs) (w : World) (hT : Tab w) {h : Hdr} {x : Int} (hd : headD zs = (h, x)) :
    Calls Tryz.prog 75 #[.agg (sv zs)] w fun r w' => r = .returned (.tuple #[.agg (hv h), .int .i64 x]) ∧ Below w.heap.size w w' := by
  rcases headD_cases (zs := zs) with ⟨h1, e⟩ | ⟨h1, h2, e⟩ | ⟨h1, h2, h3, h4, e⟩ | ⟨h1, h2, h3, h4, h5, e⟩ | ⟨h1, h2, h3, h4, h5, e⟩ <;> (rw [hd] at e; obtain ⟨rfl, rfl⟩ := Prod.mk.inj e)
  · exact hdec_none zs hl hb w hT h1
  · by_cases hm : zs.take 5 = mark
    · exact hdec_rest zs hl hb w hT h1 hm (fun q => (h2.elim (fun k => k hm) (fun k => k q)))
    · exact hdec_mark zs hl hb w hT h1 hm
  · exact hdec_sum zs hl hb w hT h1 h2 h3 h4
  · exact hdec_wrong zs hl hb w hT h1 h2 h3 h4 h5
  · exact hdec_ok zs hl hb w hT h1 h2 h3 h4 h5
end Go.Proofs.YtgegbpnmfpjdmaaGreatDoor
namespace Go.Proofs.YtgegbpnmfpjdmaaGreatDoor
open Go.RowKit
def sct (l : List Int) (j : Nat) : List Int := (l.drop (j * 64)).take 64
theorem sct_length (l : List Int) (n j : Nat) (h : l.length = n * 64) (hj : j < n) : (sct l j).length = 64 := by simp [sct]; omega
def leaves (kb : List Int) (torn cut : Int) (o n : List Int) (i : Nat) : List Int :=
  if (i : Int) = torn then mixN o n (cutN cut) else if bitI kb (i : Int) = true then n else o
theorem leaves_length (kb : List Int) (torn cut : Int) (o n : List Int) (i : Nat) (ho : o.length = 64) (hn : n.length = 64) : (leaves kb torn cut o n i).length = 64 := by
  unfold leaves
  split
  · exact mixN_length _ _ _ ho hn (by unfold cutN; omega)
  · split <;> assumption
def applyN (kb : List Int) (torn cut : Int) (os ns : List Int) : Nat → List Int
  | 0 => []
  | j + 1 => applyN kb torn cut os ns j ++ leaves kb torn cut (sct os j) (sct ns j) j
theorem applyN_length (kb : List Int) (torn cut : Int) (os ns : List Int) (n m : Nat) (ho : os.length = n * 64) (hn : ns.length = m * 64) : ∀ j, j ≤ n → j ≤ m → (applyN kb torn cut os ns j).length = j * 64
  | 0, _, _ => rfl
  | j + 1, h, h2 => by
    rw [applyN, List.length_append, applyN_length kb torn cut os ns n m ho hn j (by omega) (by omega), leaves_length _ _ _ _ _ _ (sct_length _ n _ ho (by omega)) (sct_length _ m _ hn (by omega))]; omega
set_option maxRecDepth 8000 in
set_option maxHeartbeats 4000000 in
theorem rapply_own (v1 v2 vk : Value) (n m klen : Nat) (os ns kb : List Int) (torn cut : Int) (w : World) (h1 : FS w v1 n os) (h2 : FS w v2 m ns) (hk : RI .u8 w vk klen kb) (hkb : Bytes kb) (ht : I63 torn) (hc : I63 cut) (hn : n ≤ 1000000) (_hm : m ≤ 1000000) :
    Calls Tryz.prog 23 #[v1, v2, .agg #[vk, .int .i64 torn, .int .i64 cut]] w fun e w' => ∃ v', e = .returned v' ∧ w'.ownsRow w.heap.size 60 64 v' (min n m) (il .u8 (applyN kb torn cut os ns (min n m))) ∧ Below w.heap.size w w' := by
  have H1 := Lib.hid h1
  have H2 := Lib.hid h2
  have HK := Lib.hid hk
  have HKB := Lib.hid hkb
  have HT := Lib.hid ht
  have HC := Lib.hid hc
  obtain ⟨a1, c1, rfl, hl1, hc1, hm1, _⟩ := id h1
  obtain ⟨a2, c2, rfl, hl2, hc2, hm2, _⟩ := id h2
  obtain ⟨ak, ck, rfl, _⟩ := id hk
  obtain ⟨w0, hw0⟩ : ∃ w0, w.alloc (.cells #[.slice ak klen ck, .int .i64 torn, .int .i64 cut] 58) = w0 := ⟨_, rfl⟩
  have HB0 : Hid (Below w.heap.size w w0) := Lib.hid (by rw [← hw0]; exact below_alloc _ _)
  have hcx := fun j => cell_of_row w0 w.heap.size j _ _ _ (by rw [← hw0]; exact heap_alloc_last w (.cells #[.slice ak klen ck, .int .i64 torn, .int .i64 cut] 58))
  have HCX := Lib.hid (And.intro (hcx 0) (And.intro (hcx 1) (hcx 2)))
  have HL1 := Lib.hid hl1
  have HL2 := Lib.hid hl2
  obtain ⟨q, hq⟩ : ∃ q, min n m = q := ⟨_, rfl⟩
  rw [hq]
  have hqn : q ≤ n := by omega
  have hqm : q ≤ m := by omega
  have HQ := Lib.hid hq
  clear h1 h2 hk hkb ht hc hcx hl1 hl2 hq
  go_enter Tryz.func23, Tryz.ntmps23
  go_wp2_with (rw [hw0])
  clear hw0
  go_loopw [7, 8] (fun x iv wr => ∃ i : Nat, iv = .int .i64 i ∧ i ≤ q ∧ Hid (wr.ownsRow w0.heap.size 60 64 x i (il .u8 (applyN kb torn cut os ns i))) ∧ Hid (Below w0.heap.size w0 wr)) (fun _ iv _ => q - (intOf iv).toNat)
  case atStart => exact ⟨0, rfl, by omega, Lib.hid (by simpa [applyN, il] using World.ownsRow_nil _ _ _ _), Lib.hid (Below.refl _ _)⟩
  case round =>
    obtain ⟨i, rfl, hi, HO, HB⟩ := hrel
    by_cases hlt : i < q
    · have hlt1 : (i : Int) < (n : Int) := by omega
      have hlt2 : (i : Int) < (m : Int) := by omega
      obtain ⟨b1, o1, rfl, ha1⟩ := (H1.out.keep HB0.out).at_ i (by omega)
      obtain ⟨b2, o2, rfl, ha2⟩ := (H2.out.keep HB0.out).at_ i (by omega)
      obtain ⟨z1, hz1⟩ : ∃ z1, sct os i = z1 := ⟨_, rfl⟩
      obtain ⟨z2, hz2⟩ : ∃ z2, sct ns i = z2 := ⟨_, rfl⟩
      rw [show (os.drop (i * 64)).take 64 = z1 from hz1] at ha1
      rw [show (ns.drop (i * 64)).take 64 = z2 from hz2] at ha2
      have HA1 := Lib.hid ha1
      have HA2 := Lib.hid ha2
      have HST : Hid (applyN kb torn cut os ns (i + 1) = applyN kb torn cut os ns i ++ leaves kb torn cut z1 z2 i) := Lib.hid (by rw [← hz1, ← hz2]; rfl)
      have z0 := cell_keep HB.out HCX.out.1
      have t1 := cell_keep HB.out HCX.out.2.1
      have t2 := cell_keep HB.out HCX.out.2.2
      clear ha1 ha2 hz1 hz2
      by_cases htt : (i : Int) = torn
      · have HSC : Hid (leaves kb torn cut z1 z2 i = mixN z1 z2 (cutN cut)) := Lib.hid (by unfold leaves; rw [if_pos htt])
        subst htt
        have HMX := Lib.hid fun W => rmix_any z1 z2 cut HA1.out.1 HA2.out.1 HC.out W
        obtain ⟨zm, hzm⟩ : ∃ zm, mixN z1 z2 (cutN cut) = zm := ⟨_, rfl⟩
        have HZL : Hid (zm.length = 64) := Lib.hid (by rw [← hzm]; exact mixN_length _ _ _ HA1.out.1 HA2.out.1 (by unfold cutN; omega))
        rw [hzm] at HMX HSC
        rw [HSC.out] at HST
        clear hzm
        go_wp2_with fail
        refine wp_region_held_drew (S := (fun W' => Below w0.heap.size w0 W')) (by kernel_rfl) (HB.out.drew) (fun hS => ?_)
        refine rgw 0 ⟨some 25, .move (.tmp 7), 48, _, _, none⟩ hS ?_
        refine rgw 1 ⟨some 26, .move (.tmp 0), 48, _, _, none⟩ hS ?_
        refine rgw 2 ⟨some 27, .move (.tmp 8), 3, _, _, none⟩ hS ?_
        refine rgw 3 ⟨some 28, .indexAddr 48 (.tmp 26) (.tmp 27), 0, _, _, none⟩ hS ?_
        refine rgw 4 ⟨some 29, .load 60 (.tmp 28), 60, _, _, none⟩ hS ?_ (hy := by intro w hSw; (try dsimp only at hSw); refine exec_load_at (.tmp 28) ?_ ?_ (HA1.out.keep hSw) <;> rfl)
        refine rgw 5 ⟨some 30, .move (.tmp 1), 48, _, _, none⟩ hS ?_
        refine rgw 6 ⟨some 31, .move (.tmp 8), 3, _, _, none⟩ hS ?_
        refine rgw 7 ⟨some 32, .indexAddr 48 (.tmp 30) (.tmp 31), 0, _, _, none⟩ hS ?_
        refine rgw 8 ⟨some 33, .load 60 (.tmp 32), 60, _, _, none⟩ hS ?_ (hy := by intro w hSw; (try dsimp only at hSw); refine exec_load_at (.tmp 32) ?_ ?_ (HA2.out.keep hSw) <;> rfl)
        refine rgw 9 ⟨some 34, .fieldAddr 58 (.tmp 5) 2, 0, _, _, none⟩ hS ?_
        refine rgw 10 ⟨some 35, .load 3 (.tmp 34), 3, _, _, none⟩ hS ?_ (hy := by intro w hSw; (try dsimp only at hSw); have z5 := cell_keep hSw HCX.out.2.2; go_simp; try with_reducible rfl)
        refine rg_one 11 ⟨some 36, .call { callee := .value (.func 46), args := #[.tmp 29, .tmp 33, .tmp 35], argTypes := #[60, 60, 3] }, 60, _, _, none⟩ (by kernel_rfl) rfl (fun K hK => ?_)
        go_simp
        (go_at_call 46; (with_reducible refine (HMX.out _).mono ?_); rintro e w8 ⟨rfl, hb⟩; have HX8 : Hid (Below wr.heap.size wr w8) := Lib.hid (chain ((Below.refl _ _).drew) hb))
        refine hK.out _ _ ?_ (fun hS1 => ?_)
        · (first | exact hS | exact chain hS hb | exact hN)
        clear hK K hS; have hS := hS1; clear hS1
        (try simp only [rgp])
        refine rg_one 12 ⟨some 37, .buildSlice 48 1 #[(0, .tmp 36)], 48, _, _, none⟩ (by kernel_rfl) rfl (fun K hK => ?_)
        rw [if_pos (by rfl)]; refine wp_build_sec (.tmp 36) rfl zm HZL.out rfl ?_; have hb := below_alloc w8 (.cells (sv zm) 60)
        refine hK.out _ _ ?_ (fun hS1 => ?_)
        · (first | exact hS | exact chain hS hb | exact hN)
        clear hK K hS; have hS := hS1; clear hS1
        (try simp only [rgp])
        refine rg_one 13 ⟨some 38, .call { callee := .builtin Builtin.append, args := #[.tmp 25, .tmp 37], argTypes := #[48, 48] }, 48, _, _, none⟩ (by kernel_rfl) rfl (fun K hK => ?_)
        rw [if_pos (by rfl)]; refine wp_app_sec (.tmp 25) (.tmp 37) rfl w0.heap.size _ i _ rfl (Lib.hid (own_keep HO.out (chain HX8.out (below_alloc w8 (.cells (sv zm) 60))))) w8.heap.size zm rfl (Blk.new w8 _ HZL.out) (by omega) w0.heap.size w0 (Lib.hid hS) (Nat.le_refl _) hS.size ?_; intro v9 w9 HO9 HB9; have hN := HB9.out
        refine hK.out _ _ ?_ (fun hS1 => ?_)
        · (first | exact hS | exact chain hS hb | exact hN)
        clear hK K hS; have hS := hS1; clear hS1
        (try simp only [rgp])
        refine rgw 14 ⟨some 7, .assign (.tmp 38), 48, _, _, none⟩ hS ?_
        refine wpAnyH_done (by kernel_rfl) ?_ _
        clear hS
        go_wp2
        exact ⟨⟨i + 1, by go_num, by omega, Lib.hid (by rw [HST.out]; exact HO9.out), HB9⟩, by simp [intOf]; omega⟩
      · obtain ⟨y, hy⟩ : ∃ y, bitI kb (i : Int) = y := ⟨_, rfl⟩
        have HBT : Hid (∀ w, RI .u8 w (.slice ak klen ck) klen kb → Calls Tryz.prog 47 #[.slice ak klen ck, .int .i64 i] w fun e w' => e = .returned (.bool y) ∧ Below w.heap.size w w') := Lib.hid fun w h => by
          have := rbit_ri _ klen kb i w h HKB.out (by unfold I63; omega); rwa [hy] at this
        cases y with
        | true =>
          have HSC : Hid (leaves kb torn cut z1 z2 i = z2) := Lib.hid (by unfold leaves; rw [if_neg htt, if_pos hy])
          clear hy
          have HZL : Hid (z2.length = 64) := Lib.hid HA2.out.1
          rw [HSC.out] at HST
          go_wp2_with (first
            | (go_at_call 47; (with_reducible refine (HBT.out _ (HK.out.keep (chain HB0.out HB.out))).mono ?_); rintro e w5 ⟨rfl, hb⟩; have HB5 := Lib.hid hb; have HA5 := Lib.hid ((HA2.out.keep HB.out).keep hb); clear hb)
            | (refine wpl_load_at rfl _ rfl b2 _ rfl z2 HA5.out ?_)
            | (refine wpl_build_sec rfl _ rfl z2 HZL.out rfl ?_)
            | (at_builtin; refine wpl_app_sec rfl (.tmp 43) (.tmp 48) rfl w0.heap.size _ i _ rfl (Lib.hid (own_keep HO.out (chain HB5.out (below_alloc w5 (.cells (sv z2) 60))))) w5.heap.size z2 rfl (Blk.new w5 _ HZL.out) (by omega) w0.heap.size w0 (Lib.hid (chain HB.out (chain HB5.out (below_alloc w5 (.cells (sv z2) 60))))) (Nat.le_refl _) (by rw [alloc_size]; have := HB.out.size; have := HB5.out.size; omega) ?_; intro v9 w9 HO9 HB9))
          go_roundw
          case rel => exact ⟨i + 1, by go_num, by omega, Lib.hid (by rw [HST.out]; exact HO9.out), HB9⟩
          case measure => simp [intOf]; omega
        | false =>
          have HSC : Hid (leaves kb torn cut z1 z2 i = z1) := Lib.hid (by unfold leaves; rw [if_neg htt, if_neg (by rw [hy]; simp)])
          clear hy
          have HZL : Hid (z1.length = 64) := Lib.hid HA1.out.1
          rw [HSC.out] at HST
          go_wp2_with (first
            | (go_at_call 47; (with_reducible refine (HBT.out _ (HK.out.keep (chain HB0.out HB.out))).mono ?_); rintro e w5 ⟨rfl, hb⟩; have HB5 := Lib.hid hb; have HA5 := Lib.hid ((HA1.out.keep HB.out).keep hb); clear hb)
            | (refine wpl_load_at rfl _ rfl b1 _ rfl z1 HA5.out ?_)
            | (refine wpl_build_sec rfl _ rfl z1 HZL.out rfl ?_)
            | (at_builtin; refine wpl_app_sec rfl (.tmp 50) (.tmp 55) rfl w0.heap.size _ i _ rfl (Lib.hid (own_keep HO.out (chain HB5.out (below_alloc w5 (.cells (sv z1) 60))))) w5.heap.size z1 rfl (Blk.new w5 _ HZL.out) (by omega) w0.heap.size w0 (Lib.hid (chain HB.out (chain HB5.out (below_alloc w5 (.cells (sv z1) 60))))) (Nat.le_refl _) (by rw [alloc_size]; have := HB.out.size; have := HB5.out.size; omega) ?_; intro v9 w9 HO9 HB9))
          go_roundw
          case rel => exact ⟨i + 1, by go_num, by omega, Lib.hid (by rw [HST.out]; exact HO9.out), HB9⟩
          case measure => simp [intOf]; omega
    · have hq : i = q := by omega
      subst hq
      by_cases hlt1 : (i : Int) < (n : Int)
      · have hlt2 : ¬ (i : Int) < (m : Int) := by have := HQ.out; omega
        go_wp2
        go_ret
        exact ⟨_, rfl, own_mono HO.out HB0.out.size, chain HB0.out HB.out⟩
      · go_wp2
        go_ret
        exact ⟨_, rfl, own_mono HO.out HB0.out.size, chain HB0.out HB.out⟩
end Go.Proofs.YtgegbpnmfpjdmaaGreatDoor
namespace Go.Proofs.YtgegbpnmfpjdmaaGreatDoor
open Go.RowKit
theorem pF_cons (c : PC) (l : List PC) : pF (c :: l) = pL c ++ pF l := by simp [pF]
theorem pF_set : ∀ (l : List PC) (i : Nat) (c : PC), l[i]? = some c → ∀ k : Int, (pF l).set (i * 4 + 1) (.int .i64 k) = pF (l.set i { c with kind := k })
  | [], i, c, h, k => by simp at h
  | x :: r, 0, c, h, k => by
    simp at h; subst h
    rw [List.set_cons_zero, pF_cons, pF_cons]; rfl
  | x :: r, i + 1, c, h, k => by
    rw [List.set_cons_succ, pF_cons, pF_cons, ← pF_set r i c (by simpa using h) k, show (i + 1) * 4 + 1 = (i * 4 + 1) + 4 from by omega]
    rfl
theorem own_kind {w : World} {base g n cap : Nat} {l : List PC} (h : w.ownsRow base 83 4 (.slice (some ⟨g, 0, none⟩) n cap) n (pF l)) (i : Nat) (c : PC) (hc : l[i]? = some c) (k : Int) (o : Nat) (ho : o = i * 4 + 1) :
    (w.setCell ⟨g, o, none⟩ (.int .i64 k)).ownsRow base 83 4 (.slice (some ⟨g, 0, none⟩) n cap) n (pF (l.set i { c with kind := k })) := by
  subst ho
  have := (h.stored (i * 4 + 1) (.int .i64 k)).1
  rwa [pF_set l i c hc k] at this
theorem own_there {w : World} {base g n cap : Nat} {l : List PC} (h : w.ownsRow base 83 4 (.slice (some ⟨g, 0, none⟩) n cap) n (pF l)) (i : Nat) (c : PC) (hc : l[i]? = some c) (o : Nat) (ho : o = i * 4 + 1) : w.cell? ⟨g, o, none⟩ = some (.int .i64 c.kind) ∧ w.frozen? ⟨g, o, none⟩ = false := by
  subst ho
  refine ⟨?_, h.frozenAt _⟩
  have hl := (List.getElem?_eq_some_iff.1 hc).1
  have hn := h.1
  rw [pF_length] at hn
  rw [h.cellAt (i * 4 + 1) (by omega)]
  unfold pF
  rw [flat_get 4 (l.map pL) i 1 (fun e he => by obtain ⟨o, _, rfl⟩ := List.mem_map.1 he; rfl) (by omega) (pL c) (by simp [hc])]
  rfl
set_option maxRecDepth 8000 in
theorem rcut_neg (x n : Int) (hn : n < 0) (w : World) : Calls Tryz.prog 12 #[.int .i64 x, .int .i64 n] w fun e w' => e = .returned (.tuple #[.slice none 0 0, .int .i64 0, .bool false]) ∧ w' = w := by
  go_enter Tryz.func12, Tryz.ntmps12
  go_wp2
  go_ret3
  exact ⟨rfl, rfl⟩
set_option maxRecDepth 8000 in
set_option maxHeartbeats 4000000 in
theorem rcut_nat (x : Int) (n : Nat) (hx : I63 x) (hn : (n : Int) ≤ 9223372036854775807) (w : World) : Calls Tryz.prog 12 #[.int .i64 x, .int .i64 (n : Int)] w fun e w' =>
    ∃ v, e = .returned (.tuple #[v, .int .i64 (endI x n : Int), .bool (fitI x n)]) ∧ w'.ownsRow w.heap.size 83 4 v (pcsI x n).length (pF (pcsI x n)) ∧ Below w.heap.size w w' := by
  have HX := Lib.hid hx
  obtain ⟨a, ha⟩ : ∃ a, nr x = a := ⟨_, rfl⟩
  have HAX := Lib.hid ha
  have HA : Hid (a ≤ 832) := Lib.hid (by rw [← ha]; exact nr_le x)
  have HNO : Hid (¬ Fit a n → fitI x n = false ∧ pcsI x n = [] ∧ endI x n = 0) := Lib.hid (fun h => by
    have h1 : fitI x n = false := by
      cases hq : fitI x n with
      | false => rfl
      | true => exact absurd ((fit_nat x n).1 hq) (by rw [ha]; exact h)
    exact ⟨h1, told_no h1⟩)
  have HYES : Hid (∀ m, Run a n m → 0 < m → fS a n m = n → Cuts a n m ∧ fitI x n = true ∧ pcsI x n = firstP a n m ∧ endI x n = pS a n m) := Lib.hid (fun m hr h0 hm => by
    have h1 := hr.end_ HA.out h0 hm
    have hc := cuts_cnt HA.out h1.1
    rw [h1.2] at hc
    have := told_yes (a := x) (n := n) (m := m) (by rw [ha]; exact hc) (by rw [ha]; exact h1.1)
    rw [ha] at this
    exact ⟨hc, this⟩)
  generalize fitI x n = fit at *
  generalize pcsI x n = pcs at *
  generalize endI x n = en at *
  have hn0 : 0 ≤ (n : Int) := by omega
  clear hx ha
  go_enter Tryz.func12, Tryz.ntmps12
  go_wp2
  go_loopw [0, 7, 8] (fun av ov fv wr => ∃ (i : Nat) (p : Int) (va : Option Addr) (vc f : Nat), av = .int .i64 p ∧ ov = .slice va i vc ∧ fv = .int .i64 (f : Int) ∧ f ≤ n ∧ i ≤ 100 ∧ Hid (I63 p ∧ nr p = pS a n i ∧ Run a n i ∧ fS a n i = f ∧ (i = 0 ∨ p = (pS a n i : Int))) ∧ Hid (wr.ownsRow w.heap.size 83 4 (.slice va i vc) i (pF (firstR a n i))) ∧ Hid (Below w.heap.size w wr)) (fun av _ _ _ => (832 - intOf av).toNat)
  case atStart => exact ⟨0, x, none, 0, 0, rfl, rfl, rfl, by omega, by omega, Lib.hid ⟨HX.out, HAX.out, Run.zero HA.out, rfl, .inl rfl⟩, Lib.hid (World.ownsRow_nil _ _ _ _), Lib.hid (Below.refl _ _)⟩
  case round =>
    obtain ⟨i, p, va, vc, f, rfl, rfl, rfl, hfn, hi100, HR, HO, HB⟩ := hrel
    obtain ⟨hp, hpn, hr, hf, hpe⟩ := HR.out
    by_cases hend : (i : Int) = 0 ∨ (f : Int) < (n : Int)
    · have hi : i = 0 ∨ fS a n i < n := by rw [hf]; omega
      have HIT : Hid (i = 0 ∨ fS a n i < n) := Lib.hid hi
      have hbl := hr.begin_le
      have H1 : Hid (∀ w, Calls Tryz.prog 33 #[.int .i64 p] w fun e w' => e = .returned (.int .i64 (bS a n i : Int)) ∧ w = w') := fun w => by
        have := rbegin_any p hp w; rw [hpn] at this; exact this.mono fun _ _ ⟨q1, q2⟩ => ⟨q1, q2.symm⟩
      by_cases h8 : bS a n i = 832
      · have HS := Lib.hid (hr.stop hi h8)
        rw [h8] at H1
        clear hbl h8 hp hpn hr hf hi hpe
        rcases (by omega : (i : Int) = 0 ∨ (¬ (i : Int) = 0 ∧ (f : Int) < (n : Int))) with h0 | ⟨h0, hlt⟩
        all_goals
          clear hend
          go_wp2_with (first
            | (go_at_call 33; (with_reducible refine (H1.out _).mono ?_); rintro e w' ⟨rfl, rfl⟩))
          go_ret3
          obtain ⟨q1, q2, q3⟩ := HNO.out HS.out
          subst q1 q2 q3
          exact ⟨_, rfl, World.ownsRow_nil _ _ _ _, HB.out⟩
      · have hst := hr.step h8
        have hrn := hr.next hi h8
        have H2 : Hid (∀ w, Calls Tryz.prog 34 #[.int .i64 (bS a n i : Int)] w fun e w' => e = .returned (.int .i64 (leftN (bS a n i) : Int)) ∧ w = w') := fun w => by
          have := rleft_any (bS a n i) (by unfold I63; omega) w; rw [nr_nat _ (by omega)] at this; exact this.mono fun _ _ ⟨q1, q2⟩ => ⟨q1, q2.symm⟩
        have HPC : Hid (pc3 a n i = ⟨bS a n i, 3, fS a n i, fS a n (i + 1)⟩) := rfl
        have HFN := Lib.hid (firstR_next a n i)
        have HRN := Lib.hid hrn
        obtain ⟨s1, s2, s3, s4, s5, s6, s7⟩ := hst
        have hpb : pS a n i ≤ bS a n i := by unfold bS beginN; split <;> omega
        have hpx : p ≤ (nr p : Int) ∨ (832 ≤ p ∧ nr p = 832) := by unfold nr; omega
        have HM : Hid ((832 - (pS a n (i + 1) : Int)).toNat < (832 - p).toNat) := Lib.hid (by have := hrn.p_le; omega)
        have hi99 : i + 1 ≤ 100 := by have := hrn.p_le; have := hrn.p_ge; omega
        rw [hf] at HPC s3 s5 s6 s7
        have hb8 : ¬ (832 : Int) ≤ (bS a n i : Int) := by omega
        obtain ⟨b, hb⟩ : ∃ b, bS a n i = b := ⟨_, rfl⟩
        obtain ⟨f1, hf1⟩ : ∃ f1, fS a n (i + 1) = f1 := ⟨_, rfl⟩
        obtain ⟨p1, hp1⟩ : ∃ p1, pS a n (i + 1) = p1 := ⟨_, rfl⟩
        rw [hb] at H1 H2 HPC s1 s2 s5 s6 s7 hb8 hpb hbl
        rw [hf1] at HPC s3 s4 s5 s6 s7
        rw [hp1] at s6 HM
        have HF1 := Lib.hid hf1
        have HP1 := Lib.hid hp1
        obtain ⟨lf, hlf⟩ : ∃ lf, leftN b = lf := ⟨_, rfl⟩
        rw [hlf] at H2 s1 s2 s5 s7
        have hk : ((n : Int) - f > (lf : Int) - 11 ∧ (f : Int) + ((lf : Int) - 11) = f1 ∧ (b : Int) + 11 + ((lf : Int) - 11) = p1) ∨ (¬ (n : Int) - f > (lf : Int) - 11 ∧ (f : Int) + ((n : Int) - f) = f1 ∧ (b : Int) + 11 + ((n : Int) - f) = p1) := by omega
        have hb821 : (b : Int) ≤ 821 := by omega
        have hlf208 : (lf : Int) ≤ 832 := by omega
        have hlf11 : (11 : Int) ≤ lf := by omega
        have hsum : (b : Int) + lf ≤ 832 := by omega
        have hfn2 : (f1 : Int) ≤ n := by omega
        clear hpe hf1 hp1 hlf s1 s2 s3 s4 s5 s6 s7 hb hpb hpx h8 hrn hr hpn hf hbl hi hp HNO HYES
        rcases (by omega : (i : Int) = 0 ∨ (¬ (i : Int) = 0 ∧ (f : Int) < (n : Int))) with h0 | ⟨h0, hlt⟩
        all_goals
          clear hend
          rcases hk with ⟨hk, hk1, hk2⟩ | ⟨hk, hk1, hk2⟩
        all_goals
          have HK1 := Lib.hid hk1
          have HK2 := Lib.hid hk2
          clear hk1 hk2
          go_wp2_with (first
            | (go_at_call 33; (with_reducible refine (H1.out _).mono ?_); rintro e w' ⟨rfl, rfl⟩)
            | (go_at_call 34; (with_reducible refine (H2.out _).mono ?_); rintro e w' ⟨rfl, rfl⟩)
            | (at_builtin; refine wpl_app_pc rfl (.tmp 35) (.tmp 42) rfl w.heap.size _ i (firstR a n i) rfl (Lib.hid (HO.out.alloc _)) wr.heap.size (pc3 a n i) rfl (by rw [HPC.out, ← HK1.out]; exact heap_alloc_last wr _) (by omega) w.heap.size w (Lib.hid (HB.out.alloc HB.out.size _)) (Nat.le_refl _) (by have := HB.out.size; simp; omega) ?_; intro v4 w4 HO4 HB4 HQ4; rw [HFN.out] at HO4; obtain ⟨a4, c4, rfl⟩ := own_form HO4.out))
          go_roundw
          case rel =>
            refine ⟨i + 1, p1, a4, c4, f1, by rw [HK2.out], rfl, by rw [HK1.out], by omega, hi99, Lib.hid ?_, HO4, HB4⟩
            have h := HRN.out
            have e1 := HP1.out
            have h2 := h.p_le
            rw [e1] at h2
            refine ⟨by unfold I63; omega, ?_, h, HF1.out, .inr (by rw [e1])⟩
            rw [e1]; exact nr_nat _ h2
          case measure =>
            simp only [intOf]
            rw [HK2.out]; exact HM.out
    · obtain ⟨k, rfl⟩ : ∃ k, i = k + 1 := ⟨i - 1, by omega⟩
      obtain rfl : f = n := by omega
      obtain ⟨hc, y1, y2, y3⟩ := HYES.out (k + 1) hr (by omega) hf
      subst y1 y2 y3
      obtain ⟨g, cp, hv, hgb, hgs⟩ := HO.out.form (by omega)
      cases hv
      obtain rfl : p = (pS a f (k + 1) : Int) := by rcases hpe with h | h <;> first | omega | exact h
      have h0 : ¬ ((k + 1 : Nat) : Int) = 0 := by omega
      have hlt : ¬ (f : Int) < (f : Int) := by omega
      clear hp hpn hr hf hend hpe
      have hg0 := firstR_get a f (k + 1) 0 (by omega)
      have hgk := firstR_get a f (k + 1) k (by omega)
      obtain ⟨w5, hw5⟩ : ∃ q, wr.setCell ⟨g, 1, none⟩ (.int .i64 2) = q := ⟨_, rfl⟩
      have HO5 : Hid (w5.ownsRow w.heap.size 83 4 (.slice (some ⟨g, 0, none⟩) (k + 1) vc) (k + 1) (pF ((firstR a f (k + 1)).set 0 { pc3 a f 0 with kind := 2 }))) := Lib.hid (by rw [← hw5]; exact own_kind HO.out 0 _ hg0 2 1 rfl)
      obtain ⟨z1, z2⟩ := own_there HO.out 0 _ hg0 1 rfl
      have HB5 : Hid (Below w.heap.size w w5) := Lib.hid (by rw [← hw5]; exact bset HB.out hgb (Nat.le_refl _) 1 _)
      by_cases hk0 : k = 0
      · subst hk0
        have hl1 : (firstR a f (0 + 1)).set 0 { pc3 a f 0 with kind := 2 } = [{ pc3 a f 0 with kind := 2 }] := by simp [firstR]
        rw [hl1] at HO5
        obtain ⟨z3, z4⟩ := own_there HO5.out 0 _ rfl 1 rfl
        obtain ⟨w6, hw6⟩ : ∃ q, w5.setCell ⟨g, 1, none⟩ (.int .i64 4) = q := ⟨_, rfl⟩
        have HO6 : Hid (w6.ownsRow w.heap.size 83 4 (.slice (some ⟨g, 0, none⟩) (0 + 1) vc) (0 + 1) (pF [{ pc3 a f 0 with kind := 4 }])) := Lib.hid (by rw [← hw6]; exact own_kind HO5.out 0 _ rfl 4 1 rfl)
        have HB6 : Hid (Below w.heap.size w w6) := Lib.hid (by rw [← hw6]; exact bset HB5.out hgb (Nat.le_refl _) 1 _)
        obtain ⟨z5, z6⟩ := own_there HO6.out 0 _ rfl 1 rfl
        obtain ⟨w7, hw7⟩ : ∃ q, w6.setCell ⟨g, 1, none⟩ (.int .i64 1) = q := ⟨_, rfl⟩
        have HO7 : Hid (w7.ownsRow w.heap.size 83 4 (.slice (some ⟨g, 0, none⟩) (0 + 1) vc) (0 + 1) (pF [{ pc3 a f 0 with kind := 1 }])) := Lib.hid (by rw [← hw7]; exact own_kind HO6.out 0 _ rfl 1 1 rfl)
        have HB7 : Hid (Below w.heap.size w w7) := Lib.hid (by rw [← hw7]; exact bset HB6.out hgb (Nat.le_refl _) 1 _)
        have HKS := Lib.hid (kinds_one hc)
        clear hg0 hgk hl1 hc
        go_wp2
        go_ret3
        refine ⟨_, rfl, ?_, HB7.out⟩
        rw [firstP_len, HKS.out]
        exact HO7.out
      · have hgk5 : ((firstR a f (k + 1)).set 0 { pc3 a f 0 with kind := 2 })[k]? = some (pc3 a f k) := by rw [List.getElem?_set_ne (Ne.symm hk0)]; exact hgk
        obtain ⟨z3, z4⟩ := own_there HO5.out k _ hgk5 (k * 4 + 1) rfl
        obtain ⟨w6, hw6⟩ : ∃ q, w5.setCell ⟨g, k * 4 + 1, none⟩ (.int .i64 4) = q := ⟨_, rfl⟩
        have HO6 : Hid (w6.ownsRow w.heap.size 83 4 (.slice (some ⟨g, 0, none⟩) (k + 1) vc) (k + 1) (pF (firstP a f (k + 1)))) := Lib.hid (by
          rw [← hw6, kinds_more hc (by omega)]
          exact own_kind HO5.out k _ hgk5 4 (k * 4 + 1) rfl)
        have HB6 : Hid (Below w.heap.size w w6) := Lib.hid (by rw [← hw6]; exact bset HB5.out hgb (Nat.le_refl _) _ _)
        have hk1 : ¬ (k : Int) + 1 = 1 := by omega
        clear hg0 hgk hgk5 hc
        go_wp2
        go_ret3
        refine ⟨_, rfl, ?_, HB6.out⟩
        rw [firstP_len]
        exact HO6.out
theorem rcut_any (x n : Int) (hx : I63 x) (hn : I63 n) (w : World) : Calls Tryz.prog 12 #[.int .i64 x, .int .i64 n] w fun e w' =>
    ∃ v, e = .returned (.tuple #[v, .int .i64 (endI x n : Int), .bool (fitI x n)]) ∧ w'.ownsRow w.heap.size 83 4 v (pcsI x n).length (pF (pcsI x n)) ∧ Below w.heap.size w w' := by
  by_cases h0 : n < 0
  · have hf := fitI_neg x n h0
    obtain ⟨h1, h2⟩ := told_no hf
    rw [h1, h2, hf]
    exact (rcut_neg x n h0 w).mono fun e w' ⟨he, hw⟩ => ⟨_, he, World.ownsRow_nil _ _ _ _, by rw [hw]; exact Below.refl _ _⟩
  · obtain ⟨k, rfl⟩ : ∃ k : Nat, n = (k : Int) := ⟨n.toNat, by omega⟩
    exact rcut_nat x k hx (by unfold I63 at hn; omega) w
end Go.Proofs.YtgegbpnmfpjdmaaGreatDoor
