/-
  TEXTS JOINED: CutGo, CutCut, CutFrags, ImgRec, ImgLay, ImgAdd, Digits. Each one's own words stand at its head.
-/
import Derived.Test.YtgegbpnmfpjdmaaGreatDoorJ10
import Derived.Test.YtgegbpnmfpjdmaaGreatDoorJ12
import Derived.Test.YtgegbpnmfpjdmaaGreatDoorJ15
import Derived.Test.YtgegbpnmfpjdmaaGreatDoorJ16
import Derived.Test.YtgegbpnmfpjdmaaGreatDoorJ17
import Derived.Test.YtgegbpnmfpjdmaaGreatDoorJ1
import Derived.Test.YtgegbpnmfpjdmaaGreatDoorJ7
import Derived.WalkLawsBesides
import Derived.WalkSpells
import Derived.Lib.ItoaLen
namespace Go.Proofs.YtgegbpnmfpjdmaaGreatDoor
open Go.RowKit
theorem dec_cast (i : Nat) : decide ((i : Int) = 0) = decide (i = 0) := by rw [Bool.eq_iff_iff]; simp
theorem dec_cast2 (x y : Nat) : decide ((x : Int) = (y : Int)) = decide (x = y) := by rw [Bool.eq_iff_iff, decide_eq_true_iff, decide_eq_true_iff]; omega
set_option maxRecDepth 8000 in
set_option maxHeartbeats 4000000 in
theorem gather_any (B : Nat) (W w : World) (g0 g1 g2 g3 : Nat) (p : Int) (v : Value) (a n i : Nat) (hp : I63 p) (hpn : nr p = pS a n i) (hs : Step a n i) (hn : n ≤ 832) (hi : i ≤ 1000)
    (h : GS B W w g0 g1 g2 g3 p (fS a n i : Nat) (n : Nat) v i (firstP a n i)) :
    Calls Tryz.prog 108 #[.pointer (some ⟨g0, 0, none⟩), .pointer (some ⟨g1, 0, none⟩), .pointer (some ⟨g2, 0, none⟩), .pointer (some ⟨g3, 0, none⟩)] w fun e w' =>
      e = .returned (.bool (decide (fS a n (i + 1) < n))) ∧ ∃ v', GS B W w' g0 g1 g2 g3 (pS a n (i + 1) : Nat) (fS a n (i + 1) : Nat) (n : Nat) v' (i + 1) (firstP a n (i + 1)) := by
  have hb1 : beginN (nr p) = bS a n i := by rw [hpn]; rfl
  have H1 : Hid (∀ w, Calls Tryz.prog 38 #[.int .i64 p] w fun e w' => e = .returned (.int .i64 (bS a n i : Int)) ∧ Below w.heap.size w w') := fun w => by
    have := begin_any p hp w; rwa [hb1] at this
  obtain ⟨s1, s2, s3, s4, s5, s6, s7⟩ := hs
  have H2 : Hid (∀ w, Calls Tryz.prog 89 #[.int .i64 (bS a n i : Int)] w fun e w' => e = .returned (.int .i64 (leftN (bS a n i) : Int)) ∧ Below w.heap.size w w') := fun w => by
    have := left_any (bS a n i) (by unfold I63; omega) w; rwa [nr_nat _ (by omega)] at this
  have HPC : Hid (pcS a n i = ⟨bS a n i, kindN (decide (i = 0)) (decide (fS a n (i + 1) = n)), fS a n i, fS a n (i + 1)⟩) := rfl
  have HFN := Lib.hid (firstP_next a n i)
  obtain ⟨c, hc⟩ : ∃ c, pcS a n i = c := ⟨_, rfl⟩
  rw [hc] at HPC HFN
  clear hc hpn hb1
  generalize bS a n i = b at *
  generalize fS a n (i + 1) = f1 at *
  generalize fS a n i = f at *
  generalize pS a n (i + 1) = p1 at *
  generalize leftN b = lf at *
  generalize firstP a n (i + 1) = l1 at *
  generalize firstP a n i = l0 at *
  obtain ⟨va, vc, rfl⟩ := own_form h.own
  have HG := Lib.hid h
  obtain ⟨c0, c1, c2, c3⟩ := h.cells
  obtain ⟨z0, z1, z3⟩ := h.frozen
  clear h
  have HMIN : Hid (min ((f : Int) + lf - 11) n = f1) := Lib.hid (by omega)
  have HW1 : Hid (IntKind.i64.wrap ((f : Int) + lf) = (f : Int) + lf) := Lib.hid (IntWalk.i64_in _ (by omega))
  have HW2 : Hid (IntKind.i64.wrap ((f : Int) + lf - 11) = (f : Int) + lf - 11) := Lib.hid (IntWalk.i64_in _ (by omega))
  have hbl : (b : Int) ≤ 821 := by omega
  have hf1 : (f1 : Int) ≤ 832 := by omega
  have hff : (f : Int) ≤ f1 := by omega
  have HP1 : Hid ((b : Int) + 11 + f1 - f = p1) := Lib.hid (by omega)
  clear s1 s2 s3 s4 s5 s6 s7 hn
  go_enter Tryz.func108, Tryz.ntmps108
  go_wp2_with (first
    | (go_at_call 38; (with_reducible refine (H1.out _).mono ?_); rintro e w1 ⟨rfl, hb⟩; have HG1 := Lib.hid (HG.out.keep hb); obtain ⟨d0, d1, d2, d3⟩ := HG1.out.cells; obtain ⟨y0, y1, y3⟩ := HG1.out.frozen; clear hb))
  obtain ⟨w2, hw2⟩ : ∃ q, w1.setCell ⟨g0, 0, none⟩ (.int .i64 (b : Int)) = q := ⟨_, rfl⟩
  rw [hw2]
  have HG2 : Hid (GS B W w2 g0 g1 g2 g3 b f n (.slice va i vc) i l0) := Lib.hid (by rw [← hw2]; exact HG1.out.set0 b)
  clear hw2 c0 c1 c2 c3 z0 z1 z3 d0 d1 d2 d3 y0 y1 y3 HG HG1 H1
  refine wp_region_held_drew (S := (fun w' => w'.cell? ⟨g0, 0, none⟩ = some (.int .i64 (b : Int)) ∧ w'.cell? ⟨g1, 0, none⟩ = some (.int .i64 (f : Int)) ∧ w'.cell? ⟨g2, 0, none⟩ = some (.int .i64 (n : Int)))) (by kernel_rfl) (let c := (HG2.out.keep ((Below.refl _ _).drew)).cells; ⟨c.1, c.2.1, c.2.2.1⟩) (fun hS => ?_)
  refine rgw 0 ⟨some 8, .load 3 (.tmp 1), 3, _, _, none⟩ hS ?_
  refine rgw 1 ⟨some 9, .load 3 (.tmp 0), 3, _, _, none⟩ hS ?_
  refine rgw 5 ⟨some 13, .load 3 (.tmp 2), 3, _, _, none⟩ hS ?_
  refine rg_one 2 ⟨some 10, .call { callee := .value (.func 89), args := #[.tmp 9], argTypes := #[3] }, 3, _, _, none⟩ (by kernel_rfl) rfl (fun K hK => ?_)
  go_simp
  (go_at_call 89; (with_reducible refine (H2.out _).mono ?_); rintro e w3 ⟨rfl, hb⟩; have HG3 := Lib.hid ((HG2.out.keep ((Below.refl _ _).drew)).keep hb); have hN := (let c := HG3.out.cells; (⟨c.1, c.2.1, c.2.2.1⟩ : w3.cell? ⟨g0, 0, none⟩ = some (.int .i64 (b : Int)) ∧ w3.cell? ⟨g1, 0, none⟩ = some (.int .i64 (f : Int)) ∧ w3.cell? ⟨g2, 0, none⟩ = some (.int .i64 (n : Int)))); clear hb)
  refine hK.out _ _ ?_ (fun hS1 => ?_)
  · (exact hN)
  clear hK K hS; have hS := hS1; clear hS1
  (try simp only [rgp])
  refine rgw 3 ⟨some 11, .binOp .add 3 (.tmp 8) (.tmp 10) 3, 3, _, _, none⟩ hS ?_ (v := .int .i64 ((f : Int) + lf)) (hy := by intro w hSw; (try dsimp only at hSw); have z := HW1.out; go_simp; (try exact z))
  refine rgw 4 ⟨some 12, .binOp .sub 3 (.tmp 11) (.const (.int .i64 11)) 3, 3, _, _, none⟩ hS ?_ (v := .int .i64 ((f : Int) + lf - 11)) (hy := by intro w hSw; (try dsimp only at hSw); have z := HW2.out; go_simp; (try exact z))
  refine rgw 6 ⟨some 14, .call { callee := .builtin Builtin.min, args := #[.tmp 12, .tmp 13], argTypes := #[3, 3] }, 3, _, _, none⟩ hS ?_ (v := .int .i64 (f1 : Int)) (hy := by intro w hSw; (try dsimp only at hSw); have z := HMIN.out; go_simp; (try exact z))
  refine rgw 7 ⟨some 5, .assign (.tmp 14), 3, _, _, none⟩ hS ?_
  refine wpAnyH_done (by kernel_rfl) ?_ _
  clear hS hN HG2 H2
  have HG4 := Lib.hid (HG3.out.keep ((Below.refl _ _).drew))
  have e3 := HG3.out.cells.2.2.2
  have d3 := HG4.out.cells.2.2.2
  obtain ⟨kd, hkd⟩ : ∃ kd, kindN (decide (i = 0)) (decide (f1 = n)) = kd := ⟨_, rfl⟩
  have HK : Hid (∀ w, Calls Tryz.prog 109 #[.bool (decide (i = 0)), .bool (decide (f1 = n))] w fun e w' => e = .returned (.int .i64 kd) ∧ w' = w) := fun w => by rw [← hkd]; exact kind_any _ _ w
  rw [hkd] at HPC
  clear hkd
  go_wp2_with fail
  refine wp_region_held_drew (S := (fun w' => w'.cell? ⟨g0, 0, none⟩ = some (.int .i64 (b : Int)) ∧ w'.cell? ⟨g1, 0, none⟩ = some (.int .i64 (f : Int)) ∧ w'.cell? ⟨g2, 0, none⟩ = some (.int .i64 (n : Int)))) (by kernel_rfl) (let c := HG4.out.cells; ⟨c.1, c.2.1, c.2.2.1⟩) (fun hS => ?_)
  refine rgw 1 ⟨some 16, .load 3 (.tmp 0), 3, _, _, none⟩ hS ?_
  refine rgw 5 ⟨some 20, .move (.tmp 5), 3, _, _, none⟩ hS ?_
  refine rgw 6 ⟨some 21, .load 3 (.tmp 2), 3, _, _, none⟩ hS ?_
  refine rgw 7 ⟨some 22, .binOp .eql 3 (.tmp 20) (.tmp 21) 3, 4, _, _, none⟩ hS ?_ (v := .bool (decide (f1 = n))) (hy := by intro w hSw; (try dsimp only at hSw); have z := dec_cast2 f1 n; go_simp; (try exact z))
  refine rgw 9 ⟨some 24, .load 3 (.tmp 1), 3, _, _, none⟩ hS ?_
  refine rgw 10 ⟨some 25, .move (.tmp 5), 3, _, _, none⟩ hS ?_
  refine rg_both 0 2 ⟨some 15, .load 39 (.tmp 3), 39, _, _, none⟩ ⟨some 17, .load 39 (.tmp 3), 39, _, _, none⟩ (by kernel_rfl) rfl rfl (fun K hK => ?_) (fun K hK => ?_)
  focus
    go_simp
    refine hK.out _ _ ?_ (fun hS1 => ?_)
    · (first | exact hN | exact hS)
    clear hK K hS; have hS := hS1; clear hS1
    (try simp only [rgp])
    refine rg_one 2 ⟨some 17, .load 39 (.tmp 3), 39, _, _, none⟩ (by kernel_rfl) rfl (fun K hK => ?_)
    go_simp
    refine hK.out _ _ ?_ (fun hS1 => ?_)
    · (first | exact hN | exact hS)
    clear hK K hS; have hS := hS1; clear hS1
    (try simp only [rgp])
    refine rgw 3 ⟨some 18, .call { callee := .builtin Builtin.len, args := #[.tmp 17], argTypes := #[39] }, 3, _, _, none⟩ hS ?_
    refine rgw 4 ⟨some 19, .binOp .eql 3 (.tmp 18) (.const (.int .i64 0)) 3, 4, _, _, none⟩ hS ?_ (v := .bool (decide (i = 0))) (hy := by intro w hSw; (try dsimp only at hSw); have z := dec_cast i; go_simp; (try exact z))
    refine rg_one 8 ⟨some 23, .call { callee := .value (.func 109), args := #[.tmp 19, .tmp 22], argTypes := #[4, 4] }, 3, _, _, none⟩ (by kernel_rfl) rfl (fun K hK => ?_)
    go_simp
    (go_at_call 109; (with_reducible refine (HK.out _).mono ?_); rintro e w' ⟨rfl, rfl⟩)
    refine hK.out _ _ ?_ (fun hS1 => ?_)
    · (first | exact hN | exact hS)
    clear hK K hS; have hS := hS1; clear hS1
    (try simp only [rgp])
    refine rgw 11 ⟨some 26, .build 83 #[(0, .tmp 16), (1, .tmp 23), (2, .tmp 24), (3, .tmp 25)], 83, _, _, none⟩ hS ?_ (v := .agg #[.int .i64 (b : Int), .int .i64 kd, .int .i64 (f : Int), .int .i64 (f1 : Int)]) (hy := by intro w hSw; (try dsimp only at hSw); go_simp)
    refine rg_one 12 ⟨some 27, .buildSlice 39 1 #[(0, .tmp 26)], 39, _, _, none⟩ (by kernel_rfl) rfl (fun K hK => ?_)
    go_simp
    (obtain ⟨w5, hw5⟩ : ∃ q, (w3.alloc (.cells #[.int .i64 (b : Int), .int .i64 kd, .int .i64 (f : Int), .int .i64 (f1 : Int)] 83)).drew = q := ⟨_, rfl⟩; rw [hw5]; have HG5 : Hid (GS B W w5 g0 g1 g2 g3 b f n (.slice va i vc) i l0) := Lib.hid (by rw [← hw5]; exact HG3.out.keep (bdrew0 w3 _)); have HL5 : Hid (w5.heap[w3.heap.size]? = some (.cells (pL c).toArray 83 (0, 0))) := Lib.hid (by rw [← hw5, HPC.out]; exact heap_alloc_last w3 _); have d5 := HG5.out.cells.2.2.2; have hN := (let c := HG5.out.cells; (⟨c.1, c.2.1, c.2.2.1⟩ : (w5.cell? ⟨g0, 0, none⟩ = some (.int .i64 (b : Int)) ∧ w5.cell? ⟨g1, 0, none⟩ = some (.int .i64 (f : Int)) ∧ w5.cell? ⟨g2, 0, none⟩ = some (.int .i64 (n : Int))))); clear hw5)
  rotate_left
  focus
    go_simp
    refine hK.out _ _ ?_ (fun hS1 => ?_)
    · (first | exact hN | exact hS)
    clear hK K hS; have hS := hS1; clear hS1
    (try simp only [rgp])
    refine rgw 3 ⟨some 18, .call { callee := .builtin Builtin.len, args := #[.tmp 17], argTypes := #[39] }, 3, _, _, none⟩ hS ?_
    refine rgw 4 ⟨some 19, .binOp .eql 3 (.tmp 18) (.const (.int .i64 0)) 3, 4, _, _, none⟩ hS ?_ (v := .bool (decide (i = 0))) (hy := by intro w hSw; (try dsimp only at hSw); have z := dec_cast i; go_simp; (try exact z))
    refine rg_both 0 8 ⟨some 15, .load 39 (.tmp 3), 39, _, _, none⟩ ⟨some 23, .call { callee := .value (.func 109), args := #[.tmp 19, .tmp 22], argTypes := #[4, 4] }, 3, _, _, none⟩ (by kernel_rfl) rfl rfl (fun K hK => ?_) (fun K hK => ?_)
    focus
      go_simp
      refine hK.out _ _ ?_ (fun hS1 => ?_)
      · (first | exact hN | exact hS)
      clear hK K hS; have hS := hS1; clear hS1
      (try simp only [rgp])
      refine rg_one 8 ⟨some 23, .call { callee := .value (.func 109), args := #[.tmp 19, .tmp 22], argTypes := #[4, 4] }, 3, _, _, none⟩ (by kernel_rfl) rfl (fun K hK => ?_)
      go_simp
      (go_at_call 109; (with_reducible refine (HK.out _).mono ?_); rintro e w' ⟨rfl, rfl⟩)
      refine hK.out _ _ ?_ (fun hS1 => ?_)
      · (first | exact hN | exact hS)
      clear hK K hS; have hS := hS1; clear hS1
      (try simp only [rgp])
      refine rgw 11 ⟨some 26, .build 83 #[(0, .tmp 16), (1, .tmp 23), (2, .tmp 24), (3, .tmp 25)], 83, _, _, none⟩ hS ?_ (v := .agg #[.int .i64 (b : Int), .int .i64 kd, .int .i64 (f : Int), .int .i64 (f1 : Int)]) (hy := by intro w hSw; (try dsimp only at hSw); go_simp)
      refine rg_one 12 ⟨some 27, .buildSlice 39 1 #[(0, .tmp 26)], 39, _, _, none⟩ (by kernel_rfl) rfl (fun K hK => ?_)
      go_simp
      (obtain ⟨w5, hw5⟩ : ∃ q, (w3.alloc (.cells #[.int .i64 (b : Int), .int .i64 kd, .int .i64 (f : Int), .int .i64 (f1 : Int)] 83)).drew = q := ⟨_, rfl⟩; rw [hw5]; have HG5 : Hid (GS B W w5 g0 g1 g2 g3 b f n (.slice va i vc) i l0) := Lib.hid (by rw [← hw5]; exact HG3.out.keep (bdrew0 w3 _)); have HL5 : Hid (w5.heap[w3.heap.size]? = some (.cells (pL c).toArray 83 (0, 0))) := Lib.hid (by rw [← hw5, HPC.out]; exact heap_alloc_last w3 _); have d5 := HG5.out.cells.2.2.2; have hN := (let c := HG5.out.cells; (⟨c.1, c.2.1, c.2.2.1⟩ : (w5.cell? ⟨g0, 0, none⟩ = some (.int .i64 (b : Int)) ∧ w5.cell? ⟨g1, 0, none⟩ = some (.int .i64 (f : Int)) ∧ w5.cell? ⟨g2, 0, none⟩ = some (.int .i64 (n : Int))))); clear hw5)
    rotate_left
    focus
      go_simp
      (go_at_call 109; (with_reducible refine (HK.out _).mono ?_); rintro e w' ⟨rfl, rfl⟩)
      refine hK.out _ _ ?_ (fun hS1 => ?_)
      · (first | exact hN | exact hS)
      clear hK K hS; have hS := hS1; clear hS1
      (try simp only [rgp])
      refine rgw 11 ⟨some 26, .build 83 #[(0, .tmp 16), (1, .tmp 23), (2, .tmp 24), (3, .tmp 25)], 83, _, _, none⟩ hS ?_ (v := .agg #[.int .i64 (b : Int), .int .i64 kd, .int .i64 (f : Int), .int .i64 (f1 : Int)]) (hy := by intro w hSw; (try dsimp only at hSw); go_simp)
      refine rg_both 0 12 ⟨some 15, .load 39 (.tmp 3), 39, _, _, none⟩ ⟨some 27, .buildSlice 39 1 #[(0, .tmp 26)], 39, _, _, none⟩ (by kernel_rfl) rfl rfl (fun K hK => ?_) (fun K hK => ?_)
      focus
        go_simp
        refine hK.out _ _ ?_ (fun hS1 => ?_)
        · (first | exact hN | exact hS)
        clear hK K hS; have hS := hS1; clear hS1
        (try simp only [rgp])
        refine rg_one 12 ⟨some 27, .buildSlice 39 1 #[(0, .tmp 26)], 39, _, _, none⟩ (by kernel_rfl) rfl (fun K hK => ?_)
        go_simp
        (obtain ⟨w5, hw5⟩ : ∃ q, (w3.alloc (.cells #[.int .i64 (b : Int), .int .i64 kd, .int .i64 (f : Int), .int .i64 (f1 : Int)] 83)).drew = q := ⟨_, rfl⟩; rw [hw5]; have HG5 : Hid (GS B W w5 g0 g1 g2 g3 b f n (.slice va i vc) i l0) := Lib.hid (by rw [← hw5]; exact HG3.out.keep (bdrew0 w3 _)); have HL5 : Hid (w5.heap[w3.heap.size]? = some (.cells (pL c).toArray 83 (0, 0))) := Lib.hid (by rw [← hw5, HPC.out]; exact heap_alloc_last w3 _); have d5 := HG5.out.cells.2.2.2; have hN := (let c := HG5.out.cells; (⟨c.1, c.2.1, c.2.2.1⟩ : (w5.cell? ⟨g0, 0, none⟩ = some (.int .i64 (b : Int)) ∧ w5.cell? ⟨g1, 0, none⟩ = some (.int .i64 (f : Int)) ∧ w5.cell? ⟨g2, 0, none⟩ = some (.int .i64 (n : Int))))); clear hw5)
      rotate_left
      focus
        go_simp
        (obtain ⟨w5, hw5⟩ : ∃ q, (w3.alloc (.cells #[.int .i64 (b : Int), .int .i64 kd, .int .i64 (f : Int), .int .i64 (f1 : Int)] 83)).drew = q := ⟨_, rfl⟩; rw [hw5]; have HG5 : Hid (GS B W w5 g0 g1 g2 g3 b f n (.slice va i vc) i l0) := Lib.hid (by rw [← hw5]; exact HG3.out.keep (bdrew0 w3 _)); have HL5 : Hid (w5.heap[w3.heap.size]? = some (.cells (pL c).toArray 83 (0, 0))) := Lib.hid (by rw [← hw5, HPC.out]; exact heap_alloc_last w3 _); have d5 := HG5.out.cells.2.2.2; have hN := (let c := HG5.out.cells; (⟨c.1, c.2.1, c.2.2.1⟩ : (w5.cell? ⟨g0, 0, none⟩ = some (.int .i64 (b : Int)) ∧ w5.cell? ⟨g1, 0, none⟩ = some (.int .i64 (f : Int)) ∧ w5.cell? ⟨g2, 0, none⟩ = some (.int .i64 (n : Int))))); clear hw5)
        refine hK.out _ _ ?_ (fun hS1 => ?_)
        · (first | exact hN | exact hS)
        clear hK K hS; have hS := hS1; clear hS1
        (try simp only [rgp])
        refine rg_one 0 ⟨some 15, .load 39 (.tmp 3), 39, _, _, none⟩ (by kernel_rfl) rfl (fun K hK => ?_)
        go_simp
      rotate_left
    rotate_left 2
  rotate_left 3
  all_goals
    refine hK.out _ _ ?_ (fun hS1 => ?_)
    · (first | exact hN | exact hS)
    clear hK K hS; have hS := hS1; clear hS1
    (try simp only [rgp])
    refine rg_one 13 ⟨some 28, .call { callee := .builtin Builtin.append, args := #[.tmp 15, .tmp 27], argTypes := #[39, 39] }, 39, _, _, none⟩ (by kernel_rfl) rfl (fun K hK => ?_)
    (rw [if_pos (by rfl)]; refine wp_app_pc (.tmp 15) (.tmp 27) rfl B (.slice va i vc) i l0 rfl HG5.out.own w3.heap.size c rfl HL5.out (by omega) (Nat.le_trans HG5.out.base HG5.out.below.size) ?_; intro v6 w6 HO6 HQ6; rw [HFN.out] at HO6; obtain ⟨a6, c6, rfl⟩ := own_form HO6.out; obtain ⟨q0, q1, q2, q3, q4⟩ := HG5.out.mid HQ6.out; clear hN; have hN := (⟨q0, q1, q2⟩ : (w6.cell? ⟨g0, 0, none⟩ = some (.int .i64 (b : Int)) ∧ w6.cell? ⟨g1, 0, none⟩ = some (.int .i64 (f : Int)) ∧ w6.cell? ⟨g2, 0, none⟩ = some (.int .i64 (n : Int)))))
    refine hK.out _ _ ?_ (fun hS1 => ?_)
    · (first | exact hN | exact hS)
    clear hK K hS; have hS := hS1; clear hS1
    (try simp only [rgp])
    refine rg_one 14 ⟨none, .store 39 (.tmp 3) (.tmp 28), 0, _, _, none⟩ (by kernel_rfl) rfl (fun K hK => ?_)
    go_simp
    (obtain ⟨w7, hw7⟩ : ∃ q, w6.setCell ⟨g3, 0, none⟩ (.slice a6 (i + 1) c6) = q := ⟨_, rfl⟩; rw [hw7]; have HG7 : Hid (GS B W w7 g0 g1 g2 g3 b f n (.slice a6 (i + 1) c6) (i + 1) l1) := Lib.hid (by rw [← hw7]; exact HG5.out.turn HO6.out HQ6.out); clear hN; have hN := (let c := HG7.out.cells; (⟨c.1, c.2.1, c.2.2.1⟩ : (w7.cell? ⟨g0, 0, none⟩ = some (.int .i64 (b : Int)) ∧ w7.cell? ⟨g1, 0, none⟩ = some (.int .i64 (f : Int)) ∧ w7.cell? ⟨g2, 0, none⟩ = some (.int .i64 (n : Int))))); clear hw7 q0 q1 q2 q3 q4 d5)
    refine hK.out _ _ ?_ (fun hS1 => ?_)
    · (first | exact hN | exact hS)
    clear hK K hS; have hS := hS1; clear hS1
    (try simp only [Act.put])
    refine wpAnyH_done (by kernel_rfl) ?_ _
    clear hS hN HG3 HG4 e3 d3 HK HL5
    obtain ⟨r0, r1, r2, r3⟩ := HG7.out.cells
    obtain ⟨t0, t1, t3⟩ := HG7.out.frozen
    have ne01 : ¬ g0 = g1 := HG7.out.ne.1
    have ne10 : ¬ g1 = g0 := fun e => ne01 e.symm
    have ne02 : ¬ g0 = g2 := HG7.out.ne.2.1
    have ne12 : ¬ g1 = g2 := HG7.out.ne.2.2.2.1
    go_wp2
    go_ret
    rw [HP1.out]
    exact ⟨rfl, _, (HG7.out.set0 p1).set1 f1⟩
end Go.Proofs.YtgegbpnmfpjdmaaGreatDoor
namespace Go.Proofs.YtgegbpnmfpjdmaaGreatDoor
open Go.RowKit
theorem mf_cut (fn : Fn) (first cap : Array Value) (w : World) : (Instr.makeFunc fn first cap).run Tryz.prog w = .ok (.func fn first cap) w := rfl
def mz : Option Value → Nat
  | some (.int _ x) => (832 - x).toNat
  | _ => 0
theorem GS.start (w w1 : World) (x n : Int) (hb : Below ((w.alloc (.cells #[.int .i64 x] 3)).alloc (.cells #[.int .i64 n] 3)).heap.size ((w.alloc (.cells #[.int .i64 x] 3)).alloc (.cells #[.int .i64 n] 3)) w1) :
    GS w.heap.size w ((w1.alloc (.cells #[.slice none 0 0] 39)).alloc (.cells #[.int .i64 0] 3)) w.heap.size (w1.heap.size + 1) (w.heap.size + 1) w1.heap.size x 0 n (.slice none 0 0) 0 [] := by
  obtain ⟨v1, hv1⟩ : ∃ q, w.alloc (.cells #[.int .i64 x] 3) = q := ⟨_, rfl⟩
  have e1 : v1.heap.size = w.heap.size + 1 := by rw [← hv1]; simp
  have a0 : v1.heap[w.heap.size]? = some (.cells #[.int .i64 x] 3 (0, 0)) := by rw [← hv1]; exact heap_alloc_last w _
  have b1 : Below w.heap.size w v1 := by rw [← hv1]; exact balloc w _
  rw [hv1] at hb
  obtain ⟨v2, hv2⟩ : ∃ q, v1.alloc (.cells #[.int .i64 n] 3) = q := ⟨_, rfl⟩
  have e2 : v2.heap.size = w.heap.size + 2 := by rw [← hv2]; simp [e1]
  have a1 : v2.heap[w.heap.size]? = some (.cells #[.int .i64 x] 3 (0, 0)) := by rw [← hv2]; exact ((balloc v1 _).block _ (by omega)).trans a0
  have a2 : v2.heap[w.heap.size + 1]? = some (.cells #[.int .i64 n] 3 (0, 0)) := by rw [← hv2, ← e1]; exact heap_alloc_last v1 _
  have b2 : Below w.heap.size w v2 := by rw [← hv2]; exact bch b1 (balloc v1 _)
  rw [hv2] at hb
  have hs1 := hb.size
  have a3 := (hb.block w.heap.size (by omega)).trans a1
  have a4 := (hb.block (w.heap.size + 1) (by omega)).trans a2
  obtain ⟨v3, hv3⟩ : ∃ q, w1.alloc (.cells #[.slice none 0 0] 39) = q := ⟨_, rfl⟩
  have e3 : v3.heap.size = w1.heap.size + 1 := by rw [← hv3]; simp
  have hb3 : Below w1.heap.size w1 v3 := by rw [← hv3]; exact balloc w1 _
  have a5 := (hb3.block w.heap.size (by omega)).trans a3
  have a6 := (hb3.block (w.heap.size + 1) (by omega)).trans a4
  have a7 : v3.heap[w1.heap.size]? = some (.cells #[.slice none 0 0] 39 (0, 0)) := by rw [← hv3]; exact heap_alloc_last w1 _
  rw [hv3]
  have hb4 := balloc v3 (.cells #[.int .i64 0] 3)
  refine ⟨bch (bch (bch b2 hb) hb3) hb4, Nat.le_refl _, by omega, by omega, (hb4.block _ (by omega)).trans a5, ?_, (hb4.block _ (by omega)).trans a6, (hb4.block _ (by omega)).trans a7, World.ownsRow_nil _ _ _ _⟩
  rw [← e3]
  exact heap_alloc_last v3 _
set_option maxRecDepth 8000 in
set_option maxHeartbeats 4000000 in
theorem cut_no (x n : Int) (hx : I63 x) (hf : fitI x n = false) (w : World) : Calls Tryz.prog 90 #[.int .i64 x, .int .i64 n] w fun e w' => e = .returned (.tuple #[.slice none 0 0, .int .i64 0, .bool false]) ∧ Below w.heap.size w w' := by
  have H1 : Hid (∀ w, Calls Tryz.prog 35 #[.int .i64 x, .int .i64 n] w fun e w' => e = .returned (.bool false) ∧ Below w.heap.size w w') := fun w => by
    have := fits_any x n hx w; rwa [hf] at this
  clear hf hx
  go_enter Tryz.func90, Tryz.ntmps90
  go_wp2_with (first
    | (go_at_call 35; (with_reducible refine (H1.out _).mono ?_); rintro e w1 ⟨rfl, hb⟩; have HB1 := Lib.hid (bch (bch (balloc w _) (balloc _ _)) hb); clear hb))
  go_ret3
  exact ⟨rfl, HB1.out⟩
set_option maxRecDepth 8000 in
set_option maxHeartbeats 4000000 in
theorem cut_yes (x : Int) (n m : Nat) (hx : I63 x) (hn : n ≤ 832) (hc : Cuts (nr x) n m) (hft : Fit (nr x) n) (w : World) : Calls Tryz.prog 90 #[.int .i64 x, .int .i64 (n : Int)] w fun e w' =>
    ∃ v, e = .returned (.tuple #[v, .int .i64 (pS (nr x) n m : Int), .bool true]) ∧ w'.ownsRow w.heap.size 83 4 v m (pF (firstP (nr x) n m)) ∧ Below w.heap.size w w' := by
  have H1 : Hid (∀ w, Calls Tryz.prog 35 #[.int .i64 x, .int .i64 (n : Int)] w fun e w' => e = .returned (.bool true) ∧ Below w.heap.size w w') := fun w => by
    have := fits_any x n hx w; rwa [(fit_nat x n).2 hft] at this
  have HA := Lib.hid (nr_le x)
  have HX := Lib.hid hx
  have HF := Lib.hid hft
  have HC := Lib.hid hc
  have HN := Lib.hid hn
  obtain ⟨a, ha⟩ : ∃ a, nr x = a := ⟨_, rfl⟩
  have HAX := Lib.hid ha
  rw [ha] at HA HC HF
  rw [ha]
  clear ha hft hc hn hx
  have hmf := mf_cut
  go_enter Tryz.func90, Tryz.ntmps90
  go_wp2_with (first
    | (go_at_call 35; (with_reducible refine (H1.out _).mono ?_); rintro e w1 ⟨rfl, hb⟩; have HB0 := Lib.hid hb; clear hb))
  have HG0 : Hid (GS w.heap.size w ((w1.alloc (.cells #[.slice none 0 0] 39)).alloc (.cells #[.int .i64 0] 3)) w.heap.size (w1.heap.size + 1) (w.heap.size + 1) w1.heap.size x 0 (n : Int) (.slice none 0 0) 0 []) := Lib.hid (GS.start w w1 x n HB0.out)
  obtain ⟨w2, hw2⟩ : ∃ q, (w1.alloc (.cells #[.slice none 0 0] 39)).alloc (.cells #[.int .i64 0] 3) = q := ⟨_, rfl⟩
  rw [hw2] at HG0 ⊢
  obtain ⟨g2, hg2⟩ : ∃ g, w.heap.size + 1 = g := ⟨_, rfl⟩
  obtain ⟨g3, hg3⟩ : ∃ g, w1.heap.size = g := ⟨_, rfl⟩
  obtain ⟨g1, hg1⟩ : ∃ g, w1.heap.size + 1 = g := ⟨_, rfl⟩
  rw [hg1, hg2, hg3] at HG0 ⊢
  clear hw2 hg2 hg3 hg1 HB0 H1
  go_loopw [] (fun wr => ∃ (i : Nat) (p : Int) (v : Value), Hid (I63 p ∧ nr p = pS a n i ∧ Run a n i ∧ (i = 0 ∨ fS a n i < n)) ∧ Hid (GS w.heap.size w wr w.heap.size g1 g2 g3 p (fS a n i : Nat) (n : Int) v i (firstP a n i))) (fun wr => mz (wr.cell? ⟨w.heap.size, 0, none⟩))
  case atStart => exact ⟨0, x, _, ⟨HX.out, HAX.out, Run.zero HA.out, .inl rfl⟩, HG0⟩
  case round =>
    obtain ⟨i, p, v, HR, HG⟩ := hrel
    obtain ⟨hp, hpn, hr, hi⟩ := HR.out
    have hb := hr.go hi HF.out
    have hst := hr.step hb
    have hrn := hr.next hi hb
    have hi7 : i ≤ 1000 := by have := hr.p_ge; have := hr.p_le; omega
    have HGT := Lib.hid (gather_any w.heap.size w wr w.heap.size g1 g2 g3 p v a n i hp hpn hst HN.out hi7 HG.out)
    have HM : Hid ((832 - (pS a n (i + 1) : Int)).toNat < (832 - p).toNat) := Lib.hid (by
      have h1 := hst.p_eq
      have h2 := hrn.p_le
      have h3 : pS a n i ≤ bS a n i := by unfold bS beginN; split <;> omega
      have h4 : p ≤ (nr p : Int) ∨ 832 ≤ p := by unfold nr; omega
      have h5 := hr.begin_le
      rcases h4 with h4 | h4
      · omega
      · have h6 : nr p = 832 := by unfold nr; omega
        omega)
    have HRN := Lib.hid hrn
    have HCN : Hid (¬ fS a n (i + 1) < n → i + 1 = m) := Lib.hid (fun hlt => by
      have := (hrn.end_ HA.out (by omega) (by have := hrn.f_le; omega)).2
      rw [cnt_eq HC.out] at this
      exact this.symm)
    clear hp hpn hr hi hb hst hrn hi7
    by_cases hlt : fS a n (i + 1) < n
    · have HLT := Lib.hid hlt
      rw [decide_eq_true hlt] at HGT
      clear hlt HCN
      go_wp2_with (first
        | (go_at_call 108; (with_reducible refine (HGT.out).mono ?_); rintro e w3 ⟨rfl, v3, hg⟩; have HG3 := Lib.hid hg; clear hg))
      go_roundw
      case rel => exact ⟨i + 1, _, v3, Lib.hid ⟨by unfold I63; have := HRN.out.p_le; omega, nr_nat _ HRN.out.p_le, HRN.out, .inr HLT.out⟩, HG3⟩
      case measure =>
        have h1 := HG.out.cells.1
        have h2 := HG3.out.cells.1
        rw [h1, h2]
        exact HM.out
    · have hm := HCN.out hlt
      subst hm
      rw [decide_eq_false hlt] at HGT
      clear hlt HCN
      go_wp2_with (first
        | (go_at_call 108; (with_reducible refine (HGT.out).mono ?_); rintro e w3 ⟨rfl, v3, hg⟩; have HG3 := Lib.hid hg; clear hg))
      obtain ⟨a3, c3, rfl⟩ := own_form HG3.out.own
      have d0 := HG3.out.cells.1
      have d3 := HG3.out.cells.2.2.2
      refine wp_region_held_drew (S := (fun w' => w'.cell? ⟨w.heap.size, 0, none⟩ = some (.int .i64 (pS a n (i + 1) : Int)) ∧ w'.cell? ⟨g3, 0, none⟩ = some (.slice a3 (i + 1) c3))) (by kernel_rfl) (let c := (HG3.out.keep ((Below.refl _ _).drew)).cells; ⟨c.1, c.2.2.2⟩) (fun hS => ?_)
      refine rgw 0 ⟨some 17, .load 39 (.tmp 7), 39, _, _, none⟩ hS ?_
      refine rgw 1 ⟨some 18, .load 3 (.tmp 2), 3, _, _, none⟩ hS ?_
      refine rgw 2 ⟨some 4, .assign (.tmp 17), 39, _, _, none⟩ hS ?_
      refine rgw 3 ⟨some 5, .assign (.tmp 18), 3, _, _, none⟩ hS ?_
      refine rgw 4 ⟨some 6, .assign (.const (.bool true)), 4, _, _, none⟩ hS ?_
      refine wpAnyH_done (by kernel_rfl) ?_ _
      clear hS
      go_wp2
      go_ret3
      exact ⟨_, rfl, HG3.out.own.drew, HG3.out.below.drew⟩
theorem cut_any (x n : Int) (hx : I63 x) (w : World) : Calls Tryz.prog 90 #[.int .i64 x, .int .i64 n] w fun e w' =>
    ∃ v, e = .returned (.tuple #[v, .int .i64 (endI x n : Int), .bool (fitI x n)]) ∧ w'.ownsRow w.heap.size 83 4 v (pcsI x n).length (pF (pcsI x n)) ∧ Below w.heap.size w w' := by
  by_cases hf : fitI x n = true
  · obtain ⟨k, m, rfl, hk, _, hc, hft⟩ := told_of hf
    obtain ⟨h1, h2, h3⟩ := told_yes hc hft
    rw [h1, h2, h3, firstP_len]
    exact cut_yes x k m hx hk hc hft w
  · have hf : fitI x n = false := by simpa using hf
    obtain ⟨h1, h2⟩ := told_no hf
    rw [h1, h2, hf]
    exact (cut_no x n hx hf w).mono fun e w' ⟨he, hb⟩ => ⟨_, he, World.ownsRow_nil _ _ _ _, hb⟩
end Go.Proofs.YtgegbpnmfpjdmaaGreatDoor
namespace Go.Proofs.YtgegbpnmfpjdmaaGreatDoor
open Go.RowKit
noncomputable def fragsI (ep x : Int) (zs : List Int) : List FR := (pcsI x zs.length).map (frOf ep zs)
abbrev pA (p : PC) : Array Value := #[.int .i64 p.at_, .int .i64 p.kind, .int .i64 p.from_, .int .i64 p.to]
theorem pA_info (p : PC) : (Tryz.prog.info? 83).map (·.size) = some (pA p).size := pc_info
theorem pA_one (p : PC) : (pA p).all (·.oneCell') = true := by simp [pA, Value.oneCell']
theorem pc_blk {w : World} {g : Nat} {p : PC} (h : w.heap[g]? = some (.cells (pA p) 83 (0, 0))) : w.cell? ⟨g, 1, none⟩ = some (.int .i64 p.kind) ∧ w.cell? ⟨g, 2, none⟩ = some (.int .i64 p.from_) ∧ w.cell? ⟨g, 3, none⟩ = some (.int .i64 p.to) :=
  ⟨cell_of_row w g 1 _ _ _ h, cell_of_row w g 2 _ _ _ h, cell_of_row w g 3 _ _ _ h⟩
set_option maxRecDepth 8000 in
set_option maxHeartbeats 4000000 in
theorem frags_any (ep x : Int) (dv : Value) (n : Nat) (zs : List Int) (hx : I63 x) (w : World) (hri : RI .u8 w dv n zs) :
    Calls Tryz.prog 91 #[.int .u32 ep, .int .i64 x, dv] w fun e w' =>
      ∃ v es, e = .returned (.tuple #[v, .bool (fitI x n)]) ∧ FL w.heap.size w' v es.length es ∧ es.map Prod.fst = fragsI ep x zs ∧ Below w.heap.size w w' := by
  have hzl := hri.length
  have HC : Hid (∀ w, Calls Tryz.prog 90 #[.int .i64 x, .int .i64 (n : Int)] w fun e w' =>
    ∃ v, e = .returned (.tuple #[v, .int .i64 (endI x n : Int), .bool (fitI x n)]) ∧ w'.ownsRow w.heap.size 83 4 v (pcsI x n).length (pF (pcsI x n)) ∧ Below w.heap.size w w') := fun w => cut_any x n hx w
  have HPC : Hid (∀ (i : Nat) (c : PC), (pcsI x n)[i]? = some c → ∃ l k : Nat, c.from_ = (l : Int) ∧ c.to = ((l + k : Nat) : Int) ∧ ((l + k : Nat) : Int) ≤ n ∧ l + k ≤ 832) := Lib.hid fun i c h => pc_ok h
  have HFI : Hid (fragsI ep x zs = (pcsI x n).map (frOf ep zs)) := Lib.hid (by unfold fragsI; rw [hzl])
  have hpl := pcs_len x n
  have HR := Lib.hid hri
  have HZL := Lib.hid hzl
  obtain ⟨da, dc, rfl, _, hdc, hdm, _⟩ := hri
  generalize fragsI ep x zs = fi at *
  generalize pcsI x n = ps at *
  generalize endI x n = en at *
  generalize fitI x n = fit at *
  obtain ⟨m, hm⟩ : ∃ m, ps.length = m := ⟨_, rfl⟩
  rw [hm] at HC hpl
  have HM := Lib.hid hm
  clear hx hzl hm
  go_enter Tryz.func91, Tryz.ntmps91
  go_wp2_with (first
    | (go_at_call 90; (with_reducible refine (HC.out _).mono ?_); rintro e w1 ⟨v1, rfl, ho, hb⟩; obtain ⟨a1, c1, rfl⟩ := own_form ho; have HO1 := Lib.hid ho; have HB1 := Lib.hid hb; clear ho hb))
  go_loopw [11, 24] (fun lv iv wr => ∃ (i : Nat) (va : Option Addr) (vc : Nat) (es : List (FR × Value)), iv = .int .i64 (i : Int) ∧ lv = .slice va i vc ∧ i ≤ m ∧ Hid (FL w.heap.size wr (.slice va i vc) i es) ∧ Hid (es.map Prod.fst = (ps.take i).map (frOf ep zs)) ∧ Hid (wr.ownsRow w.heap.size 83 4 (.slice a1 m c1) m (pF ps)) ∧ Hid (Below w.heap.size w wr)) (fun _ iv _ => m - (intOf iv).toNat)
  case atStart => exact ⟨0, none, 0, [], rfl, rfl, by omega, Lib.hid (FL.nil _ _), Lib.hid (by simp), HO1, HB1⟩
  case round =>
    obtain ⟨i, va, vc, es, rfl, rfl, him, HFL, HES, HO, HB⟩ := hrel
    by_cases hlt : (i : Int) < (m : Int)
    · have hci : ps[i]? = some (ps[i]'(by have := HM.out; omega)) := List.getElem?_eq_getElem _
      obtain ⟨c, hc⟩ : ∃ c, ps[i]'(by have := HM.out; omega) = c := ⟨_, rfl⟩
      rw [hc] at hci
      have HCI := Lib.hid hci
      obtain ⟨l, k, hl, hk, hkn, hk8⟩ := HPC.out i c hci
      have HPS : Hid (PS wr (.slice a1 m c1) ps) := Lib.hid (PS.own (by rw [HM.out]; exact HO.out))
      obtain ⟨b1, o1, rfl, r1⟩ := HPS.out.at_ i c hci
      have HR1 := Lib.hid r1
      have HFD := Lib.hid (frOf_data (ep := ep) (zs := zs) hl hk)
      obtain ⟨ca, kd, cf, ct⟩ := c
      obtain rfl : cf = (l : Int) := hl
      obtain ⟨h, hh⟩ : ∃ h, l + k = h := ⟨_, rfl⟩
      have HH := Lib.hid hh
      rw [hh] at hk hkn hk8
      obtain rfl : ct = (h : Int) := hk
      have hln : (l : Int) ≤ h := by omega
      have hkl : (k : Int) ≤ 832 := by omega
      obtain ⟨q, qc, hsl⟩ := sliced_form da l k dc 1
      have HRC := Lib.hid (HR.out.cut l k dc (by omega) (by omega) (Nat.le_refl _))
      rw [hsl] at HRC
      have HSL := Lib.hid hsl
      have HDC : Hid (l + k ≤ dc ∧ l + k ≤ n) := Lib.hid (by omega)
      clear hci hc r1 hsl hh
      go_wp2_with (first
        | (refine wpl_load_pc rfl (.tmp 26) rfl rfl HR1.out ?_)
        | (refine wpList_store_row rfl 83 _ _ rfl wr.heap.size (pA ⟨ca, kd, l, h⟩) rfl rfl _ _ (heap_alloc_last wr _) (pA_info _) rfl (pA_one _) ?_))
      obtain ⟨w5, hw5⟩ : ∃ q, (wr.alloc (.cells (pA ⟨0, 0, 0, 0⟩) 83)).setRow wr.heap.size (pA ⟨ca, kd, l, h⟩) = q := ⟨_, rfl⟩
      rw [hw5]
      obtain ⟨g, hg⟩ : ∃ g, wr.heap.size = g := ⟨_, rfl⟩
      rw [hg]
      have hb5 : Below wr.heap.size wr w5 := by rw [← hw5]; exact bnew wr _ _
      have HK5 : Hid (w5.heap[g]? = some (.cells (pA ⟨ca, kd, l, h⟩) 83 (0, 0))) := Lib.hid (by rw [← hw5, ← hg]; exact setRow_heap _ _ _ _ _ _ (heap_alloc_last wr _))
      have HB5 := Lib.hid (bch HB.out hb5)
      have HFL5 := Lib.hid (HFL.out.keep hb5)
      have HO5 := Lib.hid (own_keep HO.out hb5)
      clear hb5 hw5 hg HR1 HPS HFL HO
      refine wp_region_held_drew (S := (fun w' => w'.cell? ⟨g, 1, none⟩ = some (.int .i64 kd) ∧ w'.cell? ⟨g, 2, none⟩ = some (.int .i64 (l : Int)) ∧ w'.cell? ⟨g, 3, none⟩ = some (.int .i64 (h : Int)))) (by kernel_rfl) (let z := pc_blk (((Below.refl w5.heap.size w5).drew.block g (Array.getElem?_eq_some_iff.1 HK5.out).1).trans HK5.out); ⟨z.1, z.2.1, z.2.2⟩) (fun hS => ?_)
      refine rgw 0 ⟨some 28, .move (.tmp 11), 138, _, _, none⟩ hS ?_
      refine rgw 1 ⟨some 29, .fieldAddr 83 (.tmp 13) 1, 0, _, _, none⟩ hS ?_
      refine rgw 2 ⟨some 30, .load 3 (.tmp 29), 3, _, _, none⟩ hS ?_
      refine rgw 3 ⟨some 31, .move (.tmp 0), 141, _, _, none⟩ hS ?_
      refine rgw 4 ⟨some 32, .move (.tmp 2), 43, _, _, none⟩ hS ?_
      refine rgw 5 ⟨some 33, .fieldAddr 83 (.tmp 13) 2, 0, _, _, none⟩ hS ?_
      refine rgw 6 ⟨some 34, .load 3 (.tmp 33), 3, _, _, none⟩ hS ?_
      refine rgw 7 ⟨some 35, .fieldAddr 83 (.tmp 13) 3, 0, _, _, none⟩ hS ?_
      refine rgw 8 ⟨some 36, .load 3 (.tmp 35), 3, _, _, none⟩ hS ?_
      refine rgw 9 ⟨some 37, .slice 43 (.tmp 32) (some (.tmp 34)) (some (.tmp 36)) none, 43, _, _, none⟩ hS ?_ (v := .slice q k qc) (hy := by intro w hSw; (try dsimp only at hSw); exact (exec_cut_lh (.tmp 32) (.tmp 34) (.tmp 36) rfl da n dc l k rfl rfl (by rw [HH.out]; rfl) HDC.out.1).trans (by rw [HSL.out]))
      refine rg_one 10 ⟨some 38, .call { callee := .value (.func 110), args := #[.tmp 37], argTypes := #[43] }, 43, _, _, none⟩ (by kernel_rfl) rfl (fun K hK => ?_)
      go_simp
      (go_at_call 110; (with_reducible refine (clone_any _ k _ _ (HRC.out.keep (HB5.out.trans ((Below.refl w5.heap.size w5).drew.mono HB5.out.size))) (by omega)).mono ?_); rintro e w6 ⟨v6, rfl, ho6, hb6⟩; have hb56 := (Below.refl w5.heap.size w5).drew.trans hb6; obtain ⟨a6, c6, rfl⟩ := own_form ho6; have HB6 := Lib.hid (bch HB5.out hb56); have HFL6 := Lib.hid (HFL5.out.keep hb56); have HO6 := Lib.hid (own_keep HO5.out hb56); have HD6 := Lib.hid (own_mono ho6 HB5.out.size); have HK6 := Lib.hid ((hb56.block g (Array.getElem?_eq_some_iff.1 HK5.out).1).trans HK5.out); have hN := (let z := pc_blk HK6.out; (⟨z.1, z.2.1, z.2.2⟩ : (w6.cell? ⟨g, 1, none⟩ = some (.int .i64 kd) ∧ w6.cell? ⟨g, 2, none⟩ = some (.int .i64 (l : Int)) ∧ w6.cell? ⟨g, 3, none⟩ = some (.int .i64 (h : Int))))); clear ho6 hb6 hb56)
      refine hK.out _ _ ?_ (fun hS1 => ?_)
      · (exact hN)
      clear hK K hS; have hS := hS1; clear hS1
      (try simp only [rgp])
      refine rgw 11 ⟨some 39, .build 143 #[(0, .tmp 30), (1, .tmp 31), (2, .tmp 38)], 143, _, _, none⟩ hS ?_ (v := .agg #[.int .i64 kd, .int .u32 ep, .slice a6 k c6]) (hy := by intro w hSw; (try dsimp only at hSw); go_simp)
      refine rg_one 12 ⟨some 40, .buildSlice 138 1 #[(0, .tmp 39)], 138, _, _, none⟩ (by kernel_rfl) rfl (fun K hK => ?_)
      go_simp
      (obtain ⟨w7, hw7⟩ : ∃ q, w6.alloc (.cells (fA kd ep (.slice a6 k c6)) 143) = q := ⟨_, rfl⟩; rw [hw7]; have hb7 : Below w6.heap.size w6 w7 := hw7 ▸ balloc w6 _; have HL7 : Hid (w7.heap[w6.heap.size]? = some (.cells (fA kd ep (.slice a6 k c6)) 143 (0, 0))) := Lib.hid (by rw [← hw7]; exact heap_alloc_last w6 _); have HB7 := Lib.hid (bch HB6.out hb7); have HFL7 := Lib.hid (HFL6.out.keep hb7); have HO7 := Lib.hid (own_keep HO6.out hb7); have HD7 := Lib.hid (own_keep HD6.out hb7); have HK7 := Lib.hid ((hb7.block g (Array.getElem?_eq_some_iff.1 HK6.out).1).trans HK6.out); clear hN; have hN := (let z := pc_blk HK7.out; (⟨z.1, z.2.1, z.2.2⟩ : (w7.cell? ⟨g, 1, none⟩ = some (.int .i64 kd) ∧ w7.cell? ⟨g, 2, none⟩ = some (.int .i64 (l : Int)) ∧ w7.cell? ⟨g, 3, none⟩ = some (.int .i64 (h : Int))))); clear hb7 hw7)
      refine hK.out _ _ ?_ (fun hS1 => ?_)
      · (exact hN)
      clear hK K hS; have hS := hS1; clear hS1
      (try simp only [rgp])
      refine rg_one 13 ⟨some 41, .call { callee := .builtin Builtin.append, args := #[.tmp 28, .tmp 40], argTypes := #[138, 138] }, 138, _, _, none⟩ (by kernel_rfl) rfl (fun K hK => ?_)
      (rw [if_pos (by rfl)]; refine wp_app_fr (.tmp 28) (.tmp 40) rfl rfl HFL7.out w6.heap.size (⟨kd, ep, (zs.drop l).take k⟩, .slice a6 k c6) k c6 a6 rfl rfl HL7.out (by rw [show ((zs.drop l).take k).length = k from by rw [List.length_take, List.length_drop]; have := HZL.out; have := HDC.out.2; omega]; exact HD7.out) (by omega) HB7.out.size ?_; intro v8 w8 HFL8 HQ8; obtain ⟨a8, c8, rfl⟩ := own_form HFL8.out.row; have HB8 := Lib.hid (HB7.out.grown HQ8.out HB7.out.size (fun q hq => (HFL7.out.row.lt q hq).1)); have HO8 := Lib.hid (HFL7.out.other HQ8.out HO7.out (by decide)); have HK8 := Lib.hid (HFL7.out.blk HQ8.out HK7.out (by decide)); clear hN; have hN := (let z := pc_blk HK8.out; (⟨z.1, z.2.1, z.2.2⟩ : (w8.cell? ⟨g, 1, none⟩ = some (.int .i64 kd) ∧ w8.cell? ⟨g, 2, none⟩ = some (.int .i64 (l : Int)) ∧ w8.cell? ⟨g, 3, none⟩ = some (.int .i64 (h : Int))))))
      refine hK.out _ _ ?_ (fun hS1 => ?_)
      · (exact hN)
      clear hK K hS; have hS := hS1; clear hS1
      (try simp only [rgp])
      refine rgw 14 ⟨some 11, .assign (.tmp 41), 138, _, _, none⟩ hS ?_
      refine wpAnyH_done (by kernel_rfl) ?_ _
      clear hS hN
      go_wp2
      go_roundw
      case rel =>
        refine ⟨i + 1, a8, c8, _, by go_num, rfl, by omega, HFL8, Lib.hid ?_, HO8, HB8⟩
        rw [List.map_append, HES.out, List.take_add_one, HCI.out, List.map_append]
        simp [HFD.out]
      case measure => simp [intOf]; omega
    · obtain rfl : i = m := by omega
      go_wp2
      go_ret2
      refine ⟨_, rfl, es, ?_, ?_, HB.out⟩
      · rw [HFL.out.len]; exact HFL.out
      · rw [HFI.out, HES.out, List.take_of_length_le (by rw [HM.out]; omega)]
end Go.Proofs.YtgegbpnmfpjdmaaGreatDoor
namespace Go.Proofs.YtgegbpnmfpjdmaaGreatDoor
open Go.RowKit
abbrev rA (d : Value) (pl : Int) (pv : Value) (bh : Int) : Array Value := #[d, .int .i64 pl, pv, .int .i64 bh]
theorem rec_info (c : Array Value) (h : c.size = 4) : (Tryz.prog.info? 114).map (·.size) = some c.size := by rw [h]; kernel_rfl
theorem rec_one (a a2 : Option Addr) (n m n2 m2 : Nat) (pl bh : Int) : (rA (.slice a n m) pl (.slice a2 n2 m2) bh).all (·.oneCell') = true := by simp [rA, Value.oneCell']
def IM (w : World) (b : Nat) (d : Value) (pl : Int) (pv : Value) (bh : Int) : Prop := w.heap[b]? = some (.cells (rA d pl pv bh) 114 (0, 0))
section
variable {w w' : World} {b b' : Nat} {d pv : Value} {pl bh : Int}
theorem IM.lt (h : IM w b d pl pv bh) : b < w.heap.size := (Array.getElem?_eq_some_iff.1 h).1
theorem IM.keep (h : IM w b d pl pv bh) (hb : Below w.heap.size w w') : IM w' b d pl pv bh := (hb.block b h.lt).trans h
theorem IM.over (h : IM w b d pl pv bh) {g : Nat} (hg : w.grownBy w' (some g)) (hne : b ≠ g) : IM w' b d pl pv bh := (hg.block b h.lt (fun e => hne (Option.some.inj e))).trans h
theorem IM.cells (h : IM w b d pl pv bh) : w.cell? ⟨b, 0, none⟩ = some d ∧ w.cell? ⟨b, 1, none⟩ = some (.int .i64 pl) ∧ w.cell? ⟨b, 2, none⟩ = some pv ∧ w.cell? ⟨b, 3, none⟩ = some (.int .i64 bh) :=
  ⟨cell_of_row w b 0 _ _ _ h, cell_of_row w b 1 _ _ _ h, cell_of_row w b 2 _ _ _ h, cell_of_row w b 3 _ _ _ h⟩
theorem IM.alloc (w : World) : IM (w.alloc (.cells (rA d pl pv bh) 114)) w.heap.size d pl pv bh := heap_alloc_last w _
theorem IM.new (x : Array Value) : IM ((w.alloc (.cells x 114)).setRow w.heap.size (rA d pl pv bh)) w.heap.size d pl pv bh := setRow_heap _ _ _ _ _ _ (heap_alloc_last w _)
theorem IM.load (h : IM w b d pl pv bh) : (loadVar 114 ⟨b, 0, none⟩).run Tryz.prog w = .ok (.agg (rA d pl pv bh)) w :=
  run_loadVar_row w b _ 114 (rA d pl pv bh) (0, 0) _ h Tryz.underlying114 rfl (rec_info _ rfl)
theorem IM.row (h : IM w b d pl pv bh) (d' pv' : Value) (pl' bh' : Int) : IM (w.setRow b (rA d' pl' pv' bh')) b d' pl' pv' bh' := setRow_heap w b _ _ _ _ h
theorem wpl_load_img {ops : Array Oper} {rest : List Oper} {o : Oper} {a : Act} {Q : Exit → Act → World → Prop} (hw : Region.wanted o (yielded ops a.tmps) = true) (x : Operand) (ho : o.op = .load 114 x) (hx : a.eval x = .pointer (some ⟨b, 0, none⟩)) (h : IM w b d pl pv bh)
    (hk : wpList Tryz.prog ops Q rest (a.put o.dst (.agg (rA d pl pv bh))) w) : wpList Tryz.prog ops Q (o :: rest) a w := by
  unfold wpList
  rw [if_pos hw]
  exact Or.inl (wp_load_row 114 x ho b hx _ (rA d pl pv bh) (0, 0) _ h Tryz.underlying114 rfl (rec_info _ rfl) hk)
end
def CutF (x : Int) (dv : Value) (n : Nat) (w : World) (e : Ending) (w' : World) : Prop :=
  ∃ a c, e = .returned (.tuple #[.agg (rA dv (beginN (nr x) : Nat) (.slice a (pcsI x n).length c) (endI x n : Nat)), .bool (fitI x n)]) ∧
    w'.ownsRow w.heap.size 83 4 (.slice a (pcsI x n).length c) (pcsI x n).length (pF (pcsI x n)) ∧ Below w.heap.size w w'
set_option maxRecDepth 8000 in
set_option maxHeartbeats 1000000 in
theorem cutFrom_any (x : Int) (hx : I63 x) (da : Option Addr) (n dc : Nat) (w : World) :
    Calls Tryz.prog 66 #[.int .i64 x, .slice da n dc] w (CutF x (.slice da n dc) n w) := by
  have HC : Hid (∀ w, Calls Tryz.prog 90 #[.int .i64 x, .int .i64 (n : Int)] w fun e w' =>
    ∃ v, e = .returned (.tuple #[v, .int .i64 (endI x n : Int), .bool (fitI x n)]) ∧ w'.ownsRow w.heap.size 83 4 v (pcsI x n).length (pF (pcsI x n)) ∧ Below w.heap.size w w') := fun w => cut_any x n hx w
  have HB : Hid (∀ w, Calls Tryz.prog 38 #[.int .i64 x] w fun e w' => e = .returned (.int .i64 (beginN (nr x) : Int)) ∧ Below w.heap.size w w') := fun w => begin_any x hx w
  unfold CutF
  generalize pcsI x n = ps at *
  generalize endI x n = en at *
  generalize fitI x n = fit at *
  generalize beginN (nr x) = bg at *
  clear hx
  go_enter Tryz.func66, Tryz.ntmps66
  go_wp2_with (first
    | (go_at_call 90; go_loud ((with_reducible refine (HC.out _).mono ?_); rintro e w1 ⟨v1, rfl, ho, hb⟩; obtain ⟨a1, c1, rfl⟩ := own_form ho; have HO1 := Lib.hid ho; have HB1 := Lib.hid (bch (balloc w _) hb); have HR1 := Lib.hid ((IM.alloc (d := .slice none 0 0) (pl := 0) (pv := .slice none 0 0) (bh := 0) w).keep hb); clear ho hb))
    | (go_at_call 38; (with_reducible refine (HB.out _).mono ?_); rintro e w2 ⟨rfl, hb⟩; have HO2 := Lib.hid (own_keep HO1.out hb); have HB2 := Lib.hid (bch HB1.out hb); have HR2 := Lib.hid (HR1.out.keep hb); clear hb)
    | (refine wpList_store_row rfl 114 _ _ rfl w.heap.size (rA (.slice da n dc) bg (.slice a1 ps.length c1) en) rfl rfl _ _ HR2.out (rec_info _ rfl) rfl (rec_one _ _ _ _ _ _ _ _) ?_))
  refine bodyPost_ret_by (results_row_tmp rfl _ _ w.heap.size (.agg (rA (.slice da n dc) bg (.slice a1 ps.length c1) en)) rfl (HR2.out.row (.slice da n dc) (.slice a1 ps.length c1) bg en).load) rfl ?_
  exact ⟨a1, c1, rfl, own_over (own_mono HO2.out (by simp)) (grown_row _ w.heap.size _) (fun g hg e => by have := (HO2.out.lt g hg).1; have := Option.some.inj e; simp at *; omega), brow HB2.out (Nat.le_refl _) (Nat.le_refl _) _⟩
end Go.Proofs.YtgegbpnmfpjdmaaGreatDoor
namespace Go.Proofs.YtgegbpnmfpjdmaaGreatDoor
open Go.RowKit
theorem Tab.over {w w' : World} (h : Tab w) {g : Nat} (hg : w.grownBy w' (some g)) (h0 : 1 < g) : Tab w' := fun j hj => hg.cell (h j hj) (fun e => by have := Option.some.inj e; simp at this; omega)
theorem FL.apart {base : Nat} {w w' : World} {v : Value} {m : Nat} {es : List (FR × Value)} (h : FL base w v m es) {g : Nat} (hg : w.grownBy w' (some g)) (hb : g < base) : FL base w' v m es :=
  ⟨own_over h.row hg (fun q hq e => by have := (h.row.lt q hq).1; have := Option.some.inj e; omega), fun e he => own_over (h.data e he) hg (fun q hq e' => by have := ((h.data e he).lt q hq).1; have := Option.some.inj e'; omega)⟩
set_option maxRecDepth 8000 in
set_option maxHeartbeats 4000000 in
theorem lay_any (ep : Int) (x : Int) (zs : List Int) (hzb : isB zs) (n : Nat) (da : Option Addr) (dc : Nat) (bh : Int) (pa : Option Addr) (pc g : Nat) (body : List Int) (hbl : body.length = 832) (hfit : fitI x n = true) (w : World) (ht : Tab w) (hg0 : 1 < g)
    (hy : YB w g body) (hri : RI .u8 w (.slice da n dc) n zs) (hp : ∀ w', w.grownBy w' (some g) → PS w' (.slice pa (pcsI x n).length pc) (pcsI x n)) :
    Calls Tryz.prog 67 #[.agg (rA (.slice da n dc) (beginN (nr x) : Nat) (.slice pa (pcsI x n).length pc) bh), .int .u64 ep, .slice (some ⟨g, 0, none⟩) 832 832] w fun e w' =>
      e = .returned (.tuple #[]) ∧ YB w' g (layR (ep % 4294967296) body x zs) ∧ w.grownBy w' (some g) := by
  have hzl := hri.length
  have hglt := hy.lt
  obtain ⟨e32, he⟩ : ∃ e32, ep % 4294967296 = e32 := ⟨_, rfl⟩
  have he0 : 0 ≤ e32 ∧ e32 ≤ 4294967295 := by omega
  have hw32 : IntKind.u32.wrap ep = e32 := by rw [u32_wrap, he]
  rw [he]
  have HF : Hid (∀ w, RI .u8 w (.slice da n dc) n zs → Calls Tryz.prog 91 #[.int .u32 e32, .int .i64 (beginN (nr x) : Nat), .slice da n dc] w fun e w' =>
      ∃ v es, e = .returned (.tuple #[v, .bool true]) ∧ FL w.heap.size w' v es.length es ∧ es.map Prod.fst = (pcsI x n).map (frOf e32 zs) ∧ Below w.heap.size w w') := Lib.hid fun w h => by
    have hbg := begin_le _ (nr_le x)
    have h1 := frags_any e32 (beginN (nr x) : Nat) (.slice da n dc) n zs (by unfold I63; omega) w h
    have h2 := pcs_begin x n
    rw [h2.1, hfit] at h1
    unfold fragsI at h1
    rw [hzl, h2.2] at h1
    exact h1
  have HPF : Hid (∀ (i : Nat) (c : PC), (pcsI x n)[i]? = some c → ∃ q l k, PcFit (nr x) n c q l k) := Lib.hid fun i c h => by
    obtain ⟨m, q, l, k, hm, hf⟩ := pc_fit h
    obtain rfl : n = m := by omega
    exact ⟨q, l, k, hf⟩
  have HLN : Hid (∀ i, (layP e32 zs body ((pcsI x n).take i)).length = 832) := Lib.hid fun i => by rw [← hzl]; exact layP_len hbl i
  have HLR : Hid (layP e32 zs body (pcsI x n) = layR e32 body x zs) := Lib.hid (by unfold layR; rw [hzl])
  generalize layR e32 body x zs = out at *
  have hpl := pcs_len x n
  generalize pcsI x n = ps at *
  generalize beginN (nr x) = bg at *
  obtain ⟨m, hm⟩ : ∃ m, ps.length = m := ⟨_, rfl⟩
  rw [hm] at hp hpl ⊢
  have HM := Lib.hid hm
  have HP := Lib.hid hp
  have HZB := Lib.hid hzb
  have HZL := Lib.hid hzl
  obtain ⟨w0, hw0⟩ : ∃ q, w.alloc (.cells (rA (.slice da n dc) bg (.slice pa m pc) bh) 114) = q := ⟨_, rfl⟩
  have HA : Hid (IM w0 w.heap.size (.slice da n dc) bg (.slice pa m pc) bh) := Lib.hid (by rw [← hw0]; exact IM.alloc w)
  have HB0 : Hid (Below w.heap.size w w0) := Lib.hid (by rw [← hw0]; exact balloc w _)
  have HG0 : Hid (w.grownBy w0 (some g)) := Lib.hid (grown_below HB0.out)
  have HY0 := Lib.hid (hy.keep HB0.out)
  have HR0 := Lib.hid (hri.keep HB0.out)
  have HT0 := Lib.hid (ht.keep HB0.out)
  have HGL : Hid (g < w.heap.size ∧ 1 < g) := Lib.hid ⟨hglt, hg0⟩
  obtain ⟨z0, z1, z2, z3⟩ := HA.out.cells
  clear hzb hbl hfit ht hg0 hy hri hp hzl he hm hglt
  go_enter Tryz.func67, Tryz.ntmps67
  go_wp2_with (first
    | (go_at_call 91; ((with_reducible refine (HF.out _ HR0.out).mono ?_); rintro e w1 ⟨v1, es, rfl, hfl, hes, hb⟩; obtain ⟨a1, c1, rfl⟩ := own_form hfl.row; have HFL1 := Lib.hid hfl; have HES := Lib.hid hes; have HG1 := Lib.hid (grown_chain HG0.out hb); have HY1 := Lib.hid (HY0.out.keep hb); have HA1 := Lib.hid (HA.out.keep hb); have HT1 := Lib.hid (HT0.out.keep hb); clear hb hfl hes)))
  obtain ⟨z0, z1, z2, z3⟩ := HA1.out.cells
  have HLE : Hid (es.length = m) := Lib.hid (by have := congrArg List.length HES.out; simp only [List.length_map] at this; rw [this]; exact HM.out)
  obtain ⟨ml, hml⟩ : ∃ ml, es.length = ml := ⟨_, rfl⟩
  rw [hml] at HFL1 HLE ⊢
  have hle : ml = m := HLE.out
  subst hle
  have HBS : Hid (g < w0.heap.size) := Lib.hid (Nat.lt_of_lt_of_le HGL.out.1 HB0.out.size)
  have HPS : Hid (∀ w', w1.grownBy w' (some g) → PS w' (.slice pa ml pc) ps) := Lib.hid fun w' h => HP.out _ (grown_trans HG1.out h)
  obtain ⟨rb, hrb⟩ : ∃ rb, w.heap.size = rb := ⟨_, rfl⟩
  have HRB : Hid (rb ≠ g) := Lib.hid (by have := HGL.out.1; omega)
  rw [hrb] at HA1
  simp only [hrb] at z0 z1 z2 z3 ⊢
  clear HF HY0 HR0 HT0 HA HG0 HB0 hml hw32 z0 z1 z2 z3
  go_wp2
  go_loopw [24] (fun iv wr => ∃ i : Nat, iv = .int .i64 (i : Int) ∧ i ≤ ml ∧ Hid (w1.grownBy wr (some g)) ∧ Hid (YB wr g (layP e32 zs body (ps.take i)))) (fun iv _ => ml - (intOf iv).toNat)
  case atStart => exact ⟨0, rfl, by omega, Lib.hid (grown_refl _ _), HY1⟩
  case round =>
    obtain ⟨i, rfl, him, HG, HY⟩ := hrel
    by_cases hlt : (i : Int) < (ml : Int)
    · obtain ⟨c, hc⟩ : ∃ c, ps[i]? = some c := ⟨ps[i]'(by have := HM.out; omega), List.getElem?_eq_getElem _⟩
      obtain ⟨q, l, k, hpf⟩ := HPF.out i c hc
      have hee : ∃ v, es[i]? = some (frOf e32 zs c, v) := by
        have h1 := congrArg (fun l => l[i]?) HES.out
        simp only [List.getElem?_map, hc, Option.map_some] at h1
        cases he : es[i]? with
        | none => rw [he] at h1; simp at h1
        | some e => rw [he] at h1; simp at h1; exact ⟨e.2, by rw [← h1]⟩
      obtain ⟨v, hev⟩ := hee
      obtain ⟨dd, hdd⟩ : ∃ dd, (frOf e32 zs c).data = dd := ⟨_, rfl⟩
      have hfr : frOf e32 zs c = ⟨c.kind, e32, dd⟩ := by rw [← hdd]; rfl
      have hdl : dd.length = k := by
        rw [← hdd, hpf.data, List.length_take, List.length_drop]; have := hpf.upto; have := HZL.out; omega
      have hdb : isB dd := by rw [← hdd, hpf.data]; exact (HZB.out.drop _).take _
      have HPB : Hid (fragB c.kind e32 dd = pcB e32 zs c) := Lib.hid (by unfold pcB; rw [hdd])
      have HPL : Hid ((pcB e32 zs c).length = 11 + k) := Lib.hid (hpf.len e32 zs HZL.out)
      have HNX := Lib.hid (layP_next e32 zs body ps i c hc)
      rw [hpf.at_, Int.toNat_natCast] at HNX
      obtain ⟨b2, o2, e2, r2⟩ := (HPS.out wr HG.out).at_ i c hc
      obtain rfl := e2
      have HC2 : Hid (∀ w', w1.grownBy w' (some g) → w'.cell? ⟨b2, o2 + i * 4, none⟩ = some (.int .i64 (q : Int))) := Lib.hid fun w' hg => by
        obtain ⟨b3, o3, e3, r3⟩ := (HPS.out w' hg).at_ i c hc
        obtain ⟨rfl, rfl⟩ : b2 = b3 ∧ o2 = o3 := by simpa using e3
        rw [← hpf.at_]; exact (pc_cells r3).1
      rw [hfr] at hev
      have HFL := Lib.hid (HFL1.out.apart HG.out HBS.out)
      obtain ⟨b1, o1, rfl, r1⟩ := HFL.out.at_ i _ hev
      have HD := Lib.hid (HFL.out.data _ (List.mem_of_getElem? hev))
      obtain ⟨va, vc, hv⟩ := own_form HD.out
      have hv2 : v = .slice va k vc := by rw [← hdl]; exact hv
      subst hv2
      simp only [hdl] at HD
      have HR1 := Lib.hid r1
      have hok : fragOk c.kind k = true := decide_eq_true ⟨hpf.k1, hpf.k4, hpf.most⟩
      have hq : (q : Int) ≤ 821 := by have := hpf.room; omega
      have hq2 : ¬ 832 = q := by omega
      have HQ : Hid (q + 11 + k ≤ 832) := Lib.hid hpf.room
      obtain ⟨kd, hkd⟩ : ∃ kd, c.kind = kd := ⟨_, rfl⟩
      rw [hkd] at HPB hok HR1
      obtain ⟨w5, hw5⟩ : ∃ w5, (wr.alloc (.cells #[.int .i64 0, .int .u32 0, .slice none 0 0] 143)).setRow wr.heap.size (fA kd e32 (.slice va k vc)) = w5 := ⟨_, rfl⟩
      have hb5 : Below wr.heap.size wr w5 := by rw [← hw5]; exact bnew wr _ _
      have HF5 : Hid (FO w5 wr.heap.size kd e32 (.slice va k vc)) := Lib.hid (by rw [← hw5]; exact FO.new _)
      have HG5 := Lib.hid (grown_chain HG.out hb5)
      have HT5 := Lib.hid (HT1.out.over HG5.out HGL.out.2)
      have HY5 := Lib.hid (HY.out.keep hb5)
      have HD5 := Lib.hid (own_keep HD.out hb5)
      have HE : Hid (Calls Tryz.prog 92 #[.agg (fA kd e32 (.slice va k vc))] w5 fun r w' => ∃ p c, r = .returned (.tuple #[.slice p (11 + k) c, .int .i64 0]) ∧ RI .u8 w' (.slice p (11 + k) c) (11 + k) (fragB kd e32 dd) ∧ Below w5.heap.size w5 w') :=
        Lib.hid (fenc_right kd e32 va k vc dd w5 HT5.out hok he0 (RI.own HD5.out) hdb)
      rw [HPB.out] at HE
      clear hb5 hdd hfr hok hdb hev HFL r1 r2 hv hpf hdl hc
      go_wp2_with (first
        | (refine wpl_val rfl (exec_load_el (e := (⟨kd, e32, dd⟩, .slice va k vc)) (.tmp 27) rfl rfl HR1.out) ?_)
        | (refine wpList_store_row rfl 143 _ _ rfl wr.heap.size (fA kd e32 (.slice va k vc)) rfl rfl _ _ (heap_alloc_last wr _) (fr_info _ rfl) rfl (fr_one _ _ _ _ _) ?_; rw [hw5])
        | (refine wpl_load_fr rfl (.tmp 9) rfl rfl HF5.out ?_)
        | (go_at_call 92; (with_reducible refine (HE.out).mono ?_); rintro e w6 ⟨p6, c6, rfl, hr, hb⟩; have HR6 := Lib.hid hr; have HG6 := Lib.hid (grown_chain HG5.out hb); have HY6 := Lib.hid (HY5.out.keep hb); obtain ⟨t0, t1, t2, t3⟩ := (HA1.out.over HG6.out HRB.out).cells; have y6 := HC2.out w6 HG6.out; clear hb hr)
        | (refine wpl_copy_yb rfl _ _ rfl g q (832 - q) (832 - q) _ HY6.out rfl _ (11 + k) (pcB e32 zs c) rfl HR6.out (by have := HQ.out; omega) (by rw [HLN.out]; omega) ?_; intro w7 HY7 HG7; rw [← HNX.out] at HY7; have HG7 := Lib.hid (grown_trans HG6.out HG7.out)))
      go_roundw
      case rel => exact ⟨i + 1, by go_num, by omega, HG7, HY7⟩
      case measure => simp [intOf]; omega
    · obtain rfl : i = ml := by omega
      have HE : Hid (YB wr g out) := Lib.hid (by have := HY.out; rw [List.take_of_length_le (by rw [HM.out]; omega), HLR.out] at this; exact this)
      have HGE := Lib.hid (grown_trans HG1.out HG.out)
      go_wp2
      go_end0
      exact ⟨rfl, HE.out, HGE.out⟩
end Go.Proofs.YtgegbpnmfpjdmaaGreatDoor
namespace Go.Proofs.YtgegbpnmfpjdmaaGreatDoor
open Go.RowKit
set_option maxRecDepth 8000 in
set_option maxHeartbeats 4000000 in
theorem add_fit (ep x : Int) (hx : I63 x) (bv : Value) (bn : Nat) (bs : List Int) (dv : Value) (n : Nat) (zs : List Int) (hzb : isB zs) (w : World) (ht : Tab w) (hbr : RI .u8 w bv bn bs) (hri : RI .u8 w dv n zs) (hfit : fitI x n = true) :
    Calls Tryz.prog 36 #[.int .u64 ep, bv, .int .i64 x, dv] w fun e w' => ∃ g, e = .returned (.tuple #[.slice (some ⟨g, 0, none⟩) 832 832, .int .i64 (endI x n : Nat), .bool true]) ∧
      YB w' g (layR (ep % 4294967296) (pad8 bs) x zs) ∧ w.heap.size ≤ g ∧ Below w.heap.size w w' := by
  obtain ⟨da, dc, rfl, _⟩ := id hri
  have HC : Hid (∀ w, Calls Tryz.prog 66 #[.int .i64 x, .slice da n dc] w (CutF x (.slice da n dc) n w)) := Lib.hid fun w => cutFrom_any x hx da n dc w
  unfold CutF at HC
  rw [hfit] at HC
  have HL : Hid (∀ (bh : Int) (pa : Option Addr) (pc g : Nat) (w : World), Tab w → 1 < g → YB w g (pad8 bs) → RI .u8 w (.slice da n dc) n zs → (∀ w', w.grownBy w' (some g) → PS w' (.slice pa (pcsI x n).length pc) (pcsI x n)) →
      Calls Tryz.prog 67 #[.agg (rA (.slice da n dc) (beginN (nr x) : Nat) (.slice pa (pcsI x n).length pc) bh), .int .u64 ep, .slice (some ⟨g, 0, none⟩) 832 832] w fun e w' =>
      e = .returned (.tuple #[]) ∧ YB w' g (layR (ep % 4294967296) (pad8 bs) x zs) ∧ w.grownBy w' (some g)) := Lib.hid fun bh pa pc g w h1 h2 h3 h4 h5 =>
    lay_any ep x zs hzb n da dc bh pa pc g (pad8 bs) (pad8_len bs) hfit w h1 h2 h3 h4 h5
  generalize layR (ep % 4294967296) (pad8 bs) x zs = out at *
  generalize pcsI x n = ps at *
  generalize endI x n = en at *
  generalize beginN (nr x) = bg at *
  have HT := Lib.hid ht
  have HBR := Lib.hid hbr
  have HRI := Lib.hid hri
  have H0 : Hid (1 < w.heap.size) := Lib.hid (by have := World.block_lt_of_cell? w _ (ht 0 (by omega)); simpa using this)
  clear hx hfit hzb ht hbr hri
  go_enter Tryz.func36, Tryz.ntmps36
  go_wp2_with (first
    | (go_at_call 66; (with_reducible refine (HC.out _).mono ?_); rintro e w1 ⟨a1, c1, rfl, ho, hb⟩; have HO1 := Lib.hid ho; have HB1 := Lib.hid hb; clear ho hb)
    | (refine wpList_store_row rfl 114 _ _ rfl w1.heap.size (rA (.slice da n dc) bg (.slice a1 ps.length c1) en) rfl rfl _ _ (heap_alloc_last w1 _) (rec_info _ rfl) rfl (rec_one _ _ _ _ _ _ _ _) ?_; obtain ⟨w2, hw2⟩ : ∃ w2, (w1.alloc (.cells #[.slice none 0 0, .int .i64 0, .slice none 0 0, .int .i64 0] 114)).setRow w1.heap.size (rA (.slice da n dc) bg (.slice a1 ps.length c1) en) = w2 := ⟨_, rfl⟩; rw [hw2]; have hb2 : Below w1.heap.size w1 w2 := by rw [← hw2]; exact bnew _ _ _
       have HM2 : Hid (IM w2 w1.heap.size (.slice da n dc) bg (.slice a1 ps.length c1) en) := Lib.hid (by rw [← hw2]; exact IM.new _)
       have HO2 := Lib.hid (own_keep HO1.out hb2); have HB2 := Lib.hid (bch HB1.out hb2); clear hb2 hw2)
    | (refine wpl_mk_yb rfl _ _ rfl 832 rfl rfl (by omega) ?_; intro g w3 HY3 HG3 HB3; have HM3 := Lib.hid (HM2.out.keep HB3.out); have HO3 := Lib.hid (own_keep HO2.out HB3.out); have HB3 := Lib.hid (bch HB2.out HB3.out); have HBR3 := Lib.hid (HBR.out.keep HB3.out))
    | (refine wpl_copy_ybm rfl _ _ rfl g 0 832 832 _ HY3.out rfl _ bn bs rfl HBR3.out (by rw [List.length_replicate]; omega) ?_; intro w4 k HY4 HG4; have HY4 : Hid (YB w4 g (pad8 bs)) := HY4; have HGW : Hid (w1.heap.size < g ∧ w.heap.size ≤ g ∧ 1 < g) := Lib.hid (by have := HM2.out.lt; have := HG3.out; have := HB2.out.size; have := H0.out; omega); have HM4 := Lib.hid (HM3.out.over HG4.out (Nat.ne_of_lt HGW.out.1)); have HB4 := Lib.hid (below_grown HB3.out HG4.out HGW.out.2.1 HB3.out.size); have HPS := Lib.hid (fun w' (hg : w4.grownBy w' (some g)) => PS.over HO3.out (grown_trans HG4.out hg) (fun q hq e => by have := (HO1.out.lt q hq).2; have := HGW.out.1; omega)); have HL4 := Lib.hid (HL.out en a1 c1 g w4 (HT.out.keep HB4.out) HGW.out.2.2 HY4.out (HRI.out.keep HB4.out) HPS.out))
    | (refine wpl_load_img rfl (.tmp 11) rfl rfl HM4.out ?_)
    | (go_at_call 67; (with_reducible refine (HL4.out).mono ?_); rintro e w5 ⟨rfl, hy, hg⟩; have HY5 := Lib.hid hy; have HB5 := Lib.hid (below_grown HB4.out hg HGW.out.2.1 HB4.out.size); obtain ⟨t0, t1, t2, t3⟩ := (HM4.out.over hg (Nat.ne_of_lt HGW.out.1)).cells; clear hy hg))
  have HC5 := Lib.hid (show (World.drew w5).cell? ⟨w1.heap.size, 3, none⟩ = some (.int .i64 (en : Int)) from cell_keep (Below.refl _ _).drew t3)
  refine wp_region_held_drew (S := (fun w' => w'.cell? ⟨w1.heap.size, 3, none⟩ = some (.int .i64 (en : Int)))) (by kernel_rfl) HC5.out (fun hS => ?_)
  refine rgw 0 ⟨some 30, .move (.tmp 13), 43, _, _, none⟩ hS ?_
  refine rgw 1 ⟨some 31, .fieldAddr 114 (.tmp 11) 3, 0, _, _, none⟩ hS ?_
  refine rgw 2 ⟨some 32, .load 3 (.tmp 31), 3, _, _, none⟩ hS ?_
  refine rgw 3 ⟨some 8, .assign (.tmp 30), 43, _, _, none⟩ hS ?_
  refine rgw 4 ⟨some 9, .assign (.tmp 32), 3, _, _, none⟩ hS ?_
  refine rgw 5 ⟨some 10, .assign (.const (.bool true)), 4, _, _, none⟩ hS ?_
  refine wpAnyH_done (by kernel_rfl) ?_ _
  go_wp2
  go_ret3
  exact ⟨g, rfl, HY5.out.keep (Below.refl _ _).drew, HGW.out.2.1, HB5.out.drew⟩
end Go.Proofs.YtgegbpnmfpjdmaaGreatDoor
namespace Go.Proofs.YtgegbpnmfpjdmaaGreatDoor
open Go.Proofs Go.RowKit
open Go.Lib (toList_data size_eq)
def Pow (w : World) : Prop := Lib.TabIs Tryz.prog w "internal/strconv.uint64pow10" .u64 Lib.pow10Tab
theorem var_stays {P : Program} {w w' : World} {n : String} {cs : Array Value} (h : w.var? P n = some cs) (hb : ∀ k, k < w.heap.size → w'.heap[k]? = w.heap[k]?) : w'.var? P n = some cs := by
  unfold World.var? at *
  cases hg : P.globalNamed n with
  | none => simp [hg] at h
  | some g =>
    simp only [hg, Option.bind_some] at h ⊢
    have hlt : g < w.heap.size := by
      rcases Nat.lt_or_ge g w.heap.size with h' | h'
      · exact h'
      · simp [Array.getElem?_eq_none h'] at h
    rw [hb g hlt]; exact h
theorem Pow.on {w w' : World} (h : Pow w) (hb : Below w.heap.size w w') : Pow w' := var_stays h fun k hk => hb.block k hk
theorem Pow.ext {W w : World} {F : Nat → Bool} (h : Pow W) (hx : Ext (fun _ => false) W w F) : Pow w := var_stays h fun k hk => hx.block k hk rfl
theorem digits_grow {w w' : World} (h : ∃ (k : Nat) (os : Array Obj), w' = Sort.grow (w.drewN k) os) : Below w.heap.size w w' := by
  obtain ⟨k, os, rfl⟩ := h
  refine ⟨rfl, rfl, rfl, ?_, fun j hj => ?_⟩
  · show w.heap.size ≤ (w.heap ++ os).size
    simp
  · show (w.heap ++ os)[j]? = w.heap[j]?
    rw [Array.getElem?_append_left hj]
theorem digits_pow (n : Int) (h0 : -9223372036854775808 ≤ n) (h1 : n ≤ 9223372036854775807) (w : World) (hv : Pow w) :
    Calls Tryz.prog 52 #[.int .i64 n] w fun e w' => e = .returned (.string ⟨(Lib.itoa n).toArray⟩) ∧ Below w.heap.size w w' := by
  have HV := Lib.hid hv
  clear hv
  go_enter Tryz.func52, Tryz.ntmps52
  go_wp2_with (first
    | (go_at_call 83; (refine (Tryz.strconv_Itoa n h0 h1 _ HV.out).mono ?_); rintro e w' ⟨rfl, hb⟩; have HB := Lib.hid (digits_grow hb); clear hb))
  go_ret
  exact ⟨rfl, HB.out⟩
theorem digits_text (a b : List UInt8) : (⟨a.toArray⟩ ++ ⟨b.toArray⟩ : ByteArray) = ⟨(a ++ b).toArray⟩ := by
  apply ByteArray.ext
  simp
theorem digits_itoa (n : Nat) : Lib.itoa (n : Int) = Lib.decDigits n := by simp [Lib.itoa]
theorem itoa_low : Lib.itoa 0 = [48] ∧ Lib.itoa 1 = [49] ∧ Lib.itoa 2 = [50] := by
  refine ⟨?_, ?_, ?_⟩
  · rw [show (0 : Int) = ((0 : Nat) : Int) from rfl, digits_itoa, Lib.decDigits_one (by omega)]; rfl
  · rw [show (1 : Int) = ((1 : Nat) : Int) from rfl, digits_itoa, Lib.decDigits_one (by omega)]; rfl
  · rw [show (2 : Int) = ((2 : Nat) : Int) from rfl, digits_itoa, Lib.decDigits_one (by omega)]; rfl
theorem pool_one (k : Nat) (hk : k ≤ 2) (l : List UInt8) (hl : Lib.itoa (k : Int) = l) (h1 : l.length ≤ 100) (w : World) (hv : Pow w) :
    Calls Tryz.prog 85 #[.int .i64 (k : Int)] w fun e w' => e = .returned (.string ⟨(102 :: 114 :: 101 :: 101 :: 45 :: l).toArray⟩) ∧ Below w.heap.size w w' := by
  have hl2 : ¬ 9223372036854775807 < 5 + l.length := by omega
  have HD : Hid (∀ w, Pow w → Calls Tryz.prog 52 #[.int .i64 (k : Int)] w fun e w' => e = .returned (.string ⟨l.toArray⟩) ∧ Below w.heap.size w w') := Lib.hid fun w h => by
    have := digits_pow (k : Int) (by omega) (by omega) w h
    rwa [hl] at this
  have HV := Lib.hid hv
  clear hv hl h1
  go_enter Tryz.func85, Tryz.ntmps85
  go_wp2_with (first
    | (go_at_call 52; (refine (HD.out _ HV.out).mono ?_); rintro e w' ⟨rfl, hb⟩; have HB := Lib.hid hb; clear hb))
  go_ret
  refine ⟨?_, HB.out⟩
  exact congrArg (fun x => Ending.returned (.string x)) (digits_text [102, 114, 101, 101, 45] l)
end Go.Proofs.YtgegbpnmfpjdmaaGreatDoor
