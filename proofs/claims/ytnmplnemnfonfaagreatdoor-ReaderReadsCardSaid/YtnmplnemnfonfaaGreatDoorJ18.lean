/-
  TEXTS JOINED: JoinFeed, RdFrom, ScanRecs, ScanBlk, ScanFrag, ScanTell, ScanStep. Each one's own words stand at its head.
-/
import Derived.Test.YtnmplnemnfonfaaGreatDoorJ17
import Derived.Test.YtnmplnemnfonfaaGreatDoorJ1
import Derived.Test.YtnmplnemnfonfaaGreatDoorJ15
import Derived.Test.YtnmplnemnfonfaaGreatDoorJ11
import Derived.Test.YtnmplnemnfonfaaGreatDoorJ13
import Derived.Test.YtnmplnemnfonfaaGreatDoorJ14
namespace Go.Proofs.YtnmplnemnfonfaaGreatDoor
open Go.RowKit
set_option maxRecDepth 8000 in
set_option maxHeartbeats 2000000 in
theorem feed_ends (W : World) (o : Bool) (jb : Nat) (v : Value) (h : List Int) (k ep : Int) (dv : Value) (n : Nat) (d : List Int) (w : World) (hW : Below W.heap.size W w) (hj : JB w W.heap.size jb o v h) (hri : ∀ w', Oth w w' jb v → RI .u8 w' dv n d)
    (hk : (o = false ∧ k = 1) ∨ (o = true ∧ k = 4)) (hl : ¬ h.length + n > 512) :
    Calls Tryz.prog 39 #[.pointer (some ⟨jb, 0, none⟩), .agg (fA k ep dv)] w fun e w' =>
      ∃ u, e = .returned (.tuple #[u, .bool true, .int .i64 0]) ∧ JB w' W.heap.size jb false (.slice none 0 0) [] ∧ w'.ownsRow W.heap.size 5 1 u (h ++ d).length (il .u8 (h ++ d)) ∧ Lies w v u ∧ Oth w w' jb v := by
  have hzl := (hri w (Oth.refl _ _ _)).length
  have HR := Lib.hid hri
  have HW := Lib.hid hW
  obtain ⟨hn, hhn⟩ : ∃ m, h.length = m := ⟨_, rfl⟩
  have hr := hj.row
  rw [hhn] at hr hl
  have hfew := hj.few
  rw [hhn] at hfew
  obtain ⟨va, vc, rfl⟩ := own_form hr
  have HJ := Lib.hid hj
  obtain ⟨da, dc, rfl, _, hdc, hdm, _⟩ := hri w (Oth.refl _ _ _)
  have HN := Lib.hid hhn
  have HZ := Lib.hid hzl
  clear hj hW hzl hhn hr
  rcases hk with ⟨rfl, rfl⟩ | ⟨rfl, rfl⟩
  · go_enter Tryz.func39, Tryz.ntmps39
    go_wp2
    go_step3
    go_wp2_with fail
    obtain ⟨w1, hw1⟩ : ∃ q, w.alloc (.cells (fA 1 ep (.slice da n dc)) 82) = q := ⟨_, rfl⟩
    rw [hw1]
    obtain ⟨fb, hfb⟩ : ∃ q, w.heap.size = q := ⟨_, rfl⟩
    have hb1 : Below w.heap.size w w1 := hw1 ▸ balloc w _
    have HF1 : Hid (FO w1 fb 1 ep (.slice da n dc)) := Lib.hid (by rw [← hw1, ← hfb]; exact FO.alloc w)
    have HB1 := Lib.hid hb1
    have HJ1 := Lib.hid (HJ.out.keep hb1)
    rw [hfb]
    clear hb1 hw1 hfb
    refine wp_region_held_drew (S := (fun w' => Below w1.heap.size w1 w')) (by kernel_rfl) ((Below.refl w1.heap.size w1).drew) (fun hS => ?_)
    refine rgw 0 ⟨some 11, .move (.tmp 0), 94, _, _, none⟩ hS ?_
    refine rgw 2 ⟨some 13, .move (.tmp 0), 94, _, _, none⟩ hS ?_
    refine rgw 3 ⟨some 14, .nilCheck (.tmp 13), 0, _, _, none⟩ hS ?_
    refine rgw 4 ⟨some 15, .fieldAddr 131 (.tmp 14) 1, 0, _, _, none⟩ hS ?_
    refine rgw 5 ⟨some 16, .load 49 (.tmp 15), 49, _, _, none⟩ hS ?_ (v := .slice va hn vc) (hy := by intro w hSw; (try dsimp only at hSw); have z := (HJ1.out.blk.keep hSw).cells.2; go_simp)
    refine rg_one 1 ⟨some 12, .call { callee := .value (.func 68), args := #[.tmp 11], argTypes := #[94] }, 4, _, _, none⟩ (by kernel_rfl) rfl (fun K hK => ?_)
    go_simp
    (go_at_call 68; (with_reducible refine (idle_any false (.slice va hn vc) jb _ (HJ1.out.blk.keep hS)).mono ?_); rintro e w6 ⟨rfl, rfl⟩)
    refine hK.out _ _ ?_ (fun hS1 => ?_)
    · (exact hS)
    clear hK K hS; have hS := hS1; clear hS1
    (try simp only [rgp])
    refine rgw 6 ⟨some 7, .assign (.tmp 12), 4, _, _, none⟩ hS ?_
    refine rgw 7 ⟨some 8, .assign (.tmp 16), 49, _, _, none⟩ hS ?_
    refine wpAnyH_done (by kernel_rfl) ?_ _
    obtain ⟨w2, hw2⟩ : ∃ q, World.drew w1 = q := ⟨_, rfl⟩
    rw [hw2] at hS
    simp only [hw2]
    have HB2 := Lib.hid (bch HB1.out hS)
    have HF2 := Lib.hid (HF1.out.keep hS)
    have HJ2 := Lib.hid (HJ1.out.keep hS)
    clear hS hw2
    go_wp2_with (first
      | (refine wpList_store_row rfl 131 _ _ rfl jb (jA false (.slice none 0 0)) rfl rfl _ _ HJ2.out.blk (jo_info _ _) rfl (jo_one _ _ _ _) ?_))
    obtain ⟨w3, hw3⟩ : ∃ q, w2.setRow jb (jA false (.slice none 0 0)) = q := ⟨_, rfl⟩
    rw [hw3]
    have HO3 : Hid (Oth w w3 jb (.slice va hn vc)) := Lib.hid (hw3 ▸ (Oth.of_below HB2.out).trans (Oth.row w2 jb _ _))
    have HF3 : Hid (FO w3 fb 1 ep (.slice da n dc)) := Lib.hid (hw3 ▸ HF2.out.apart (HJ2.out.blk.ne HF2.out (by decide)) _)
    have HR3 : Hid (w3.ownsRow W.heap.size 5 1 (.slice va hn vc) hn (il .u8 h)) := Lib.hid (by rw [← hw3]; have z := HJ2.out.blk.row_own (jA false (.slice none 0 0)) HJ2.out.row (by decide); rw [HN.out] at z; exact z)
    have HJ3 : Hid (JO w3 jb false (.slice none 0 0)) := Lib.hid (hw3 ▸ HJ2.out.blk.row _ _)
    obtain ⟨f30, f31, f32⟩ := HF3.out.cells
    have hlow := HJ.out.low
    clear hw3
    go_step3
    go_wp2_with (first
      | (at_builtin; go_loud (refine wpl_appw rfl (.tmp 39) (.tmp 41) 49 rfl 5 .u8 1 Tryz.underlying49 Tryz.info_u8 W.heap.size (.slice va hn vc) hn h rfl HR3.out _ n d rfl (HR.out _ HO3.out) (by omega) (by omega) (HW.out.trans (HJ.out.below HO3.out)).size ?_); intro v4 w4 HR4 HG4 HL4; have HO4 := Lib.hid (HO3.out.trans (Oth.grown HG4.out)); have HJ4 := Lib.hid (HJ3.out.grown HR3.out (by decide) HG4.out); obtain ⟨a4, c4, rfl⟩ := own_form HR4.out; obtain ⟨g0, g1, g2⟩ := (HF3.out.grown HR3.out HG4.out).cells))
    try rw [Exit.noGoto_ret]
    go_ret3
    refine ⟨.slice a4 (hn + n) c4, rfl, ⟨HJ4.out, World.ownsRow_nil _ _ _ _, fun _ => ⟨rfl, rfl⟩, by simp, hlow⟩, ?_, ?_, HO4.out⟩
    · rw [List.length_append, HN.out, HZ.out]; exact HR4.out
    · intro g hg
      rcases HL4.out with e | e
      · exact .inl (by rw [← e]; exact hg.symm)
      · rw [hg] at e; obtain rfl := Option.some.inj e; exact .inr HO3.out.size
  · go_enter Tryz.func39, Tryz.ntmps39
    go_wp2
    go_step3
    go_wp2_with fail
    obtain ⟨w1, hw1⟩ : ∃ q, w.alloc (.cells (fA 4 ep (.slice da n dc)) 82) = q := ⟨_, rfl⟩
    rw [hw1]
    obtain ⟨fb, hfb⟩ : ∃ q, w.heap.size = q := ⟨_, rfl⟩
    have hb1 : Below w.heap.size w w1 := hw1 ▸ balloc w _
    have HF1 : Hid (FO w1 fb 4 ep (.slice da n dc)) := Lib.hid (by rw [← hw1, ← hfb]; exact FO.alloc w)
    have HB1 := Lib.hid hb1
    have HJ1 := Lib.hid (HJ.out.keep hb1)
    rw [hfb]
    clear hb1 hw1 hfb
    refine wp_region_held_drew (S := (fun w' => Below w1.heap.size w1 w')) (by kernel_rfl) ((Below.refl w1.heap.size w1).drew) (fun hS => ?_)
    refine rgw 0 ⟨some 11, .move (.tmp 0), 94, _, _, none⟩ hS ?_
    refine rgw 2 ⟨some 13, .move (.tmp 0), 94, _, _, none⟩ hS ?_
    refine rgw 3 ⟨some 14, .nilCheck (.tmp 13), 0, _, _, none⟩ hS ?_
    refine rgw 4 ⟨some 15, .fieldAddr 131 (.tmp 14) 1, 0, _, _, none⟩ hS ?_
    refine rgw 5 ⟨some 16, .load 49 (.tmp 15), 49, _, _, none⟩ hS ?_ (v := .slice va hn vc) (hy := by intro w hSw; (try dsimp only at hSw); have z := (HJ1.out.blk.keep hSw).cells.2; go_simp)
    refine rg_one 1 ⟨some 12, .call { callee := .value (.func 68), args := #[.tmp 11], argTypes := #[94] }, 4, _, _, none⟩ (by kernel_rfl) rfl (fun K hK => ?_)
    go_simp
    (go_at_call 68; (with_reducible refine (idle_any true (.slice va hn vc) jb _ (HJ1.out.blk.keep hS)).mono ?_); rintro e w6 ⟨rfl, rfl⟩)
    refine hK.out _ _ ?_ (fun hS1 => ?_)
    · (exact hS)
    clear hK K hS; have hS := hS1; clear hS1
    (try simp only [rgp])
    refine rgw 6 ⟨some 7, .assign (.tmp 12), 4, _, _, none⟩ hS ?_
    refine rgw 7 ⟨some 8, .assign (.tmp 16), 49, _, _, none⟩ hS ?_
    refine wpAnyH_done (by kernel_rfl) ?_ _
    obtain ⟨w2, hw2⟩ : ∃ q, World.drew w1 = q := ⟨_, rfl⟩
    rw [hw2] at hS
    simp only [hw2]
    have HB2 := Lib.hid (bch HB1.out hS)
    have HF2 := Lib.hid (HF1.out.keep hS)
    have HJ2 := Lib.hid (HJ1.out.keep hS)
    clear hS hw2
    go_wp2_with (first
      | (refine wpList_store_row rfl 131 _ _ rfl jb (jA false (.slice none 0 0)) rfl rfl _ _ HJ2.out.blk (jo_info _ _) rfl (jo_one _ _ _ _) ?_))
    obtain ⟨w3, hw3⟩ : ∃ q, w2.setRow jb (jA false (.slice none 0 0)) = q := ⟨_, rfl⟩
    rw [hw3]
    have HO3 : Hid (Oth w w3 jb (.slice va hn vc)) := Lib.hid (hw3 ▸ (Oth.of_below HB2.out).trans (Oth.row w2 jb _ _))
    have HF3 : Hid (FO w3 fb 4 ep (.slice da n dc)) := Lib.hid (hw3 ▸ HF2.out.apart (HJ2.out.blk.ne HF2.out (by decide)) _)
    have HR3 : Hid (w3.ownsRow W.heap.size 5 1 (.slice va hn vc) hn (il .u8 h)) := Lib.hid (by rw [← hw3]; have z := HJ2.out.blk.row_own (jA false (.slice none 0 0)) HJ2.out.row (by decide); rw [HN.out] at z; exact z)
    have HJ3 : Hid (JO w3 jb false (.slice none 0 0)) := Lib.hid (hw3 ▸ HJ2.out.blk.row _ _)
    obtain ⟨f30, f31, f32⟩ := HF3.out.cells
    have hlow := HJ.out.low
    clear hw3
    go_step3
    go_wp2_with (first
      | (at_builtin; go_loud (refine wpl_appw rfl (.tmp 39) (.tmp 41) 49 rfl 5 .u8 1 Tryz.underlying49 Tryz.info_u8 W.heap.size (.slice va hn vc) hn h rfl HR3.out _ n d rfl (HR.out _ HO3.out) (by omega) (by omega) (HW.out.trans (HJ.out.below HO3.out)).size ?_); intro v4 w4 HR4 HG4 HL4; have HO4 := Lib.hid (HO3.out.trans (Oth.grown HG4.out)); have HJ4 := Lib.hid (HJ3.out.grown HR3.out (by decide) HG4.out); obtain ⟨a4, c4, rfl⟩ := own_form HR4.out; obtain ⟨g0, g1, g2⟩ := (HF3.out.grown HR3.out HG4.out).cells))
    try rw [Exit.noGoto_ret]
    go_ret3
    refine ⟨.slice a4 (hn + n) c4, rfl, ⟨HJ4.out, World.ownsRow_nil _ _ _ _, fun _ => ⟨rfl, rfl⟩, by simp, hlow⟩, ?_, ?_, HO4.out⟩
    · rw [List.length_append, HN.out, HZ.out]; exact HR4.out
    · intro g hg
      rcases HL4.out with e | e
      · exact .inl (by rw [← e]; exact hg.symm)
      · rw [hg] at e; obtain rfl := Option.some.inj e; exact .inr HO3.out.size
set_option maxRecDepth 8000 in
set_option maxHeartbeats 2000000 in
theorem feed_goes (W : World) (o : Bool) (jb : Nat) (v : Value) (h : List Int) (k ep : Int) (dv : Value) (n : Nat) (d : List Int) (w : World) (hW : Below W.heap.size W w) (hj : JB w W.heap.size jb o v h) (hri : ∀ w', Oth w w' jb v → RI .u8 w' dv n d)
    (hk : (o = false ∧ k = 2) ∨ (o = true ∧ k = 3)) (hl : ¬ h.length + n > 512) :
    Calls Tryz.prog 39 #[.pointer (some ⟨jb, 0, none⟩), .agg (fA k ep dv)] w fun e w' =>
      ∃ u, e = .returned (.tuple #[.slice none 0 0, .bool false, .int .i64 0]) ∧ JB w' W.heap.size jb true u (h ++ d) ∧ Lies w v u ∧ Oth w w' jb v := by
  have hzl := (hri w (Oth.refl _ _ _)).length
  have HR := Lib.hid hri
  have HW := Lib.hid hW
  obtain ⟨hn, hhn⟩ : ∃ m, h.length = m := ⟨_, rfl⟩
  have hr := hj.row
  rw [hhn] at hr hl
  have hfew := hj.few
  rw [hhn] at hfew
  obtain ⟨va, vc, rfl⟩ := own_form hr
  have HJ := Lib.hid hj
  obtain ⟨da, dc, rfl, _, hdc, hdm, _⟩ := hri w (Oth.refl _ _ _)
  have HN := Lib.hid hhn
  have HZ := Lib.hid hzl
  clear hj hW hzl hhn hr
  rcases hk with ⟨rfl, rfl⟩ | ⟨rfl, rfl⟩
  · go_enter Tryz.func39, Tryz.ntmps39
    go_wp2
    go_step3
    go_wp2_with fail
    obtain ⟨w1, hw1⟩ : ∃ q, w.alloc (.cells (fA 2 ep (.slice da n dc)) 82) = q := ⟨_, rfl⟩
    rw [hw1]
    obtain ⟨fb, hfb⟩ : ∃ q, w.heap.size = q := ⟨_, rfl⟩
    have hb1 : Below w.heap.size w w1 := hw1 ▸ balloc w _
    have HF1 : Hid (FO w1 fb 2 ep (.slice da n dc)) := Lib.hid (by rw [← hw1, ← hfb]; exact FO.alloc w)
    have HB1 := Lib.hid hb1
    have HJ1 := Lib.hid (HJ.out.keep hb1)
    rw [hfb]
    clear hb1 hw1 hfb
    refine wp_region_held_drew (S := (fun w' => Below w1.heap.size w1 w')) (by kernel_rfl) ((Below.refl w1.heap.size w1).drew) (fun hS => ?_)
    refine rgw 0 ⟨some 11, .move (.tmp 0), 94, _, _, none⟩ hS ?_
    refine rgw 2 ⟨some 13, .move (.tmp 0), 94, _, _, none⟩ hS ?_
    refine rgw 3 ⟨some 14, .nilCheck (.tmp 13), 0, _, _, none⟩ hS ?_
    refine rgw 4 ⟨some 15, .fieldAddr 131 (.tmp 14) 1, 0, _, _, none⟩ hS ?_
    refine rgw 5 ⟨some 16, .load 49 (.tmp 15), 49, _, _, none⟩ hS ?_ (v := .slice va hn vc) (hy := by intro w hSw; (try dsimp only at hSw); have z := (HJ1.out.blk.keep hSw).cells.2; go_simp)
    refine rg_one 1 ⟨some 12, .call { callee := .value (.func 68), args := #[.tmp 11], argTypes := #[94] }, 4, _, _, none⟩ (by kernel_rfl) rfl (fun K hK => ?_)
    go_simp
    (go_at_call 68; (with_reducible refine (idle_any false (.slice va hn vc) jb _ (HJ1.out.blk.keep hS)).mono ?_); rintro e w6 ⟨rfl, rfl⟩)
    refine hK.out _ _ ?_ (fun hS1 => ?_)
    · (exact hS)
    clear hK K hS; have hS := hS1; clear hS1
    (try simp only [rgp])
    refine rgw 6 ⟨some 7, .assign (.tmp 12), 4, _, _, none⟩ hS ?_
    refine rgw 7 ⟨some 8, .assign (.tmp 16), 49, _, _, none⟩ hS ?_
    refine wpAnyH_done (by kernel_rfl) ?_ _
    obtain ⟨w2, hw2⟩ : ∃ q, World.drew w1 = q := ⟨_, rfl⟩
    rw [hw2] at hS
    simp only [hw2]
    have HB2 := Lib.hid (bch HB1.out hS)
    have HF2 := Lib.hid (HF1.out.keep hS)
    have HJ2 := Lib.hid (HJ1.out.keep hS)
    clear hS hw2
    go_wp2_with (first
      | (refine wpList_store_row rfl 131 _ _ rfl jb (jA false (.slice none 0 0)) rfl rfl _ _ HJ2.out.blk (jo_info _ _) rfl (jo_one _ _ _ _) ?_))
    obtain ⟨w3, hw3⟩ : ∃ q, w2.setRow jb (jA false (.slice none 0 0)) = q := ⟨_, rfl⟩
    rw [hw3]
    have HO3 : Hid (Oth w w3 jb (.slice va hn vc)) := Lib.hid (hw3 ▸ (Oth.of_below HB2.out).trans (Oth.row w2 jb _ _))
    have HF3 : Hid (FO w3 fb 2 ep (.slice da n dc)) := Lib.hid (hw3 ▸ HF2.out.apart (HJ2.out.blk.ne HF2.out (by decide)) _)
    have HR3 : Hid (w3.ownsRow W.heap.size 5 1 (.slice va hn vc) hn (il .u8 h)) := Lib.hid (by rw [← hw3]; have z := HJ2.out.blk.row_own (jA false (.slice none 0 0)) HJ2.out.row (by decide); rw [HN.out] at z; exact z)
    have HJ3 : Hid (JO w3 jb false (.slice none 0 0)) := Lib.hid (hw3 ▸ HJ2.out.blk.row _ _)
    obtain ⟨f30, f31, f32⟩ := HF3.out.cells
    have hlow := HJ.out.low
    clear hw3
    go_step3
    go_wp2_with (first
      | (at_builtin; go_loud (refine wpl_appw rfl (.tmp 39) (.tmp 41) 49 rfl 5 .u8 1 Tryz.underlying49 Tryz.info_u8 W.heap.size (.slice va hn vc) hn h rfl HR3.out _ n d rfl (HR.out _ HO3.out) (by omega) (by omega) (HW.out.trans (HJ.out.below HO3.out)).size ?_); intro v4 w4 HR4 HG4 HL4; have HO4 := Lib.hid (HO3.out.trans (Oth.grown HG4.out)); have HJ4 := Lib.hid (HJ3.out.grown HR3.out (by decide) HG4.out); obtain ⟨a4, c4, rfl⟩ := own_form HR4.out; obtain ⟨g0, g1, g2⟩ := (HF3.out.grown HR3.out HG4.out).cells)
      | (refine wpList_store_row rfl 131 _ _ rfl jb (jA true (.slice a4 (hn + n) c4)) rfl rfl _ _ HJ4.out (jo_info _ _) rfl (jo_one _ _ _ _) ?_))
    try rw [Exit.noGoto_ret]
    go_ret3
    refine ⟨.slice a4 (hn + n) c4, rfl, ⟨HJ4.out.row _ _, ?_, fun e => by simp at e, by rw [List.length_append, HN.out, HZ.out]; omega, hlow⟩, ?_, HO4.out.trans (Oth.row _ _ _ _)⟩
    · rw [List.length_append, HN.out, HZ.out]; exact HJ4.out.row_own _ HR4.out (by decide)
    · intro g hg
      rcases HL4.out with e | e
      · exact .inl (by rw [← e]; exact hg.symm)
      · rw [hg] at e; obtain rfl := Option.some.inj e; exact .inr HO3.out.size
  · go_enter Tryz.func39, Tryz.ntmps39
    go_wp2
    go_step3
    go_wp2_with fail
    obtain ⟨w1, hw1⟩ : ∃ q, w.alloc (.cells (fA 3 ep (.slice da n dc)) 82) = q := ⟨_, rfl⟩
    rw [hw1]
    obtain ⟨fb, hfb⟩ : ∃ q, w.heap.size = q := ⟨_, rfl⟩
    have hb1 : Below w.heap.size w w1 := hw1 ▸ balloc w _
    have HF1 : Hid (FO w1 fb 3 ep (.slice da n dc)) := Lib.hid (by rw [← hw1, ← hfb]; exact FO.alloc w)
    have HB1 := Lib.hid hb1
    have HJ1 := Lib.hid (HJ.out.keep hb1)
    rw [hfb]
    clear hb1 hw1 hfb
    refine wp_region_held_drew (S := (fun w' => Below w1.heap.size w1 w')) (by kernel_rfl) ((Below.refl w1.heap.size w1).drew) (fun hS => ?_)
    refine rgw 0 ⟨some 11, .move (.tmp 0), 94, _, _, none⟩ hS ?_
    refine rgw 2 ⟨some 13, .move (.tmp 0), 94, _, _, none⟩ hS ?_
    refine rgw 3 ⟨some 14, .nilCheck (.tmp 13), 0, _, _, none⟩ hS ?_
    refine rgw 4 ⟨some 15, .fieldAddr 131 (.tmp 14) 1, 0, _, _, none⟩ hS ?_
    refine rgw 5 ⟨some 16, .load 49 (.tmp 15), 49, _, _, none⟩ hS ?_ (v := .slice va hn vc) (hy := by intro w hSw; (try dsimp only at hSw); have z := (HJ1.out.blk.keep hSw).cells.2; go_simp)
    refine rg_one 1 ⟨some 12, .call { callee := .value (.func 68), args := #[.tmp 11], argTypes := #[94] }, 4, _, _, none⟩ (by kernel_rfl) rfl (fun K hK => ?_)
    go_simp
    (go_at_call 68; (with_reducible refine (idle_any true (.slice va hn vc) jb _ (HJ1.out.blk.keep hS)).mono ?_); rintro e w6 ⟨rfl, rfl⟩)
    refine hK.out _ _ ?_ (fun hS1 => ?_)
    · (exact hS)
    clear hK K hS; have hS := hS1; clear hS1
    (try simp only [rgp])
    refine rgw 6 ⟨some 7, .assign (.tmp 12), 4, _, _, none⟩ hS ?_
    refine rgw 7 ⟨some 8, .assign (.tmp 16), 49, _, _, none⟩ hS ?_
    refine wpAnyH_done (by kernel_rfl) ?_ _
    obtain ⟨w2, hw2⟩ : ∃ q, World.drew w1 = q := ⟨_, rfl⟩
    rw [hw2] at hS
    simp only [hw2]
    have HB2 := Lib.hid (bch HB1.out hS)
    have HF2 := Lib.hid (HF1.out.keep hS)
    have HJ2 := Lib.hid (HJ1.out.keep hS)
    clear hS hw2
    go_wp2_with (first
      | (refine wpList_store_row rfl 131 _ _ rfl jb (jA false (.slice none 0 0)) rfl rfl _ _ HJ2.out.blk (jo_info _ _) rfl (jo_one _ _ _ _) ?_))
    obtain ⟨w3, hw3⟩ : ∃ q, w2.setRow jb (jA false (.slice none 0 0)) = q := ⟨_, rfl⟩
    rw [hw3]
    have HO3 : Hid (Oth w w3 jb (.slice va hn vc)) := Lib.hid (hw3 ▸ (Oth.of_below HB2.out).trans (Oth.row w2 jb _ _))
    have HF3 : Hid (FO w3 fb 3 ep (.slice da n dc)) := Lib.hid (hw3 ▸ HF2.out.apart (HJ2.out.blk.ne HF2.out (by decide)) _)
    have HR3 : Hid (w3.ownsRow W.heap.size 5 1 (.slice va hn vc) hn (il .u8 h)) := Lib.hid (by rw [← hw3]; have z := HJ2.out.blk.row_own (jA false (.slice none 0 0)) HJ2.out.row (by decide); rw [HN.out] at z; exact z)
    have HJ3 : Hid (JO w3 jb false (.slice none 0 0)) := Lib.hid (hw3 ▸ HJ2.out.blk.row _ _)
    obtain ⟨f30, f31, f32⟩ := HF3.out.cells
    have hlow := HJ.out.low
    clear hw3
    go_step3
    go_wp2_with (first
      | (at_builtin; go_loud (refine wpl_appw rfl (.tmp 39) (.tmp 41) 49 rfl 5 .u8 1 Tryz.underlying49 Tryz.info_u8 W.heap.size (.slice va hn vc) hn h rfl HR3.out _ n d rfl (HR.out _ HO3.out) (by omega) (by omega) (HW.out.trans (HJ.out.below HO3.out)).size ?_); intro v4 w4 HR4 HG4 HL4; have HO4 := Lib.hid (HO3.out.trans (Oth.grown HG4.out)); have HJ4 := Lib.hid (HJ3.out.grown HR3.out (by decide) HG4.out); obtain ⟨a4, c4, rfl⟩ := own_form HR4.out; obtain ⟨g0, g1, g2⟩ := (HF3.out.grown HR3.out HG4.out).cells)
      | (refine wpList_store_row rfl 131 _ _ rfl jb (jA true (.slice a4 (hn + n) c4)) rfl rfl _ _ HJ4.out (jo_info _ _) rfl (jo_one _ _ _ _) ?_))
    try rw [Exit.noGoto_ret]
    go_ret3
    refine ⟨.slice a4 (hn + n) c4, rfl, ⟨HJ4.out.row _ _, ?_, fun e => by simp at e, by rw [List.length_append, HN.out, HZ.out]; omega, hlow⟩, ?_, HO4.out.trans (Oth.row _ _ _ _)⟩
    · rw [List.length_append, HN.out, HZ.out]; exact HJ4.out.row_own _ HR4.out (by decide)
    · intro g hg
      rcases HL4.out with e | e
      · exact .inl (by rw [← e]; exact hg.symm)
      · rw [hg] at e; obtain rfl := Option.some.inj e; exact .inr HO3.out.size
set_option maxRecDepth 8000 in
set_option maxHeartbeats 2000000 in
theorem feed_long (W : World) (o : Bool) (jb : Nat) (v : Value) (h : List Int) (k ep : Int) (dv : Value) (n : Nat) (d : List Int) (w : World) (hW : Below W.heap.size W w) (hj : JB w W.heap.size jb o v h) (hri : ∀ w', Oth w w' jb v → RI .u8 w' dv n d)
    (hk : jFit o k = true) (hl : h.length + n > 512) :
    Calls Tryz.prog 39 #[.pointer (some ⟨jb, 0, none⟩), .agg (fA k ep dv)] w fun e w' =>
      e = .returned (.tuple #[.slice none 0 0, .bool false, .int .i64 5]) ∧ JB w' W.heap.size jb false (.slice none 0 0) [] ∧ Oth w w' jb v := by
  have hc : (o = false ∧ k = 1) ∨ (o = false ∧ k = 2) ∨ (o = true ∧ k = 3) ∨ (o = true ∧ k = 4) := by
    unfold jFit at hk
    cases o <;> simp at hk ⊢ <;> exact hk
  clear hk
  have hzl := (hri w (Oth.refl _ _ _)).length
  have HR := Lib.hid hri
  have HW := Lib.hid hW
  obtain ⟨hn, hhn⟩ : ∃ m, h.length = m := ⟨_, rfl⟩
  have hr := hj.row
  rw [hhn] at hr hl
  have hfew := hj.few
  rw [hhn] at hfew
  obtain ⟨va, vc, rfl⟩ := own_form hr
  have HJ := Lib.hid hj
  obtain ⟨da, dc, rfl, _, hdc, hdm, _⟩ := hri w (Oth.refl _ _ _)
  have HN := Lib.hid hhn
  have HZ := Lib.hid hzl
  clear hj hW hzl hhn hr
  rcases hc with ⟨rfl, rfl⟩ | ⟨rfl, rfl⟩ | ⟨rfl, rfl⟩ | ⟨rfl, rfl⟩
  · go_enter Tryz.func39, Tryz.ntmps39
    go_wp2
    go_step3
    go_wp2_with fail
    obtain ⟨w1, hw1⟩ : ∃ q, w.alloc (.cells (fA 1 ep (.slice da n dc)) 82) = q := ⟨_, rfl⟩
    rw [hw1]
    obtain ⟨fb, hfb⟩ : ∃ q, w.heap.size = q := ⟨_, rfl⟩
    have hb1 : Below w.heap.size w w1 := hw1 ▸ balloc w _
    have HF1 : Hid (FO w1 fb 1 ep (.slice da n dc)) := Lib.hid (by rw [← hw1, ← hfb]; exact FO.alloc w)
    have HB1 := Lib.hid hb1
    have HJ1 := Lib.hid (HJ.out.keep hb1)
    rw [hfb]
    clear hb1 hw1 hfb
    refine wp_region_held_drew (S := (fun w' => Below w1.heap.size w1 w')) (by kernel_rfl) ((Below.refl w1.heap.size w1).drew) (fun hS => ?_)
    refine rgw 0 ⟨some 11, .move (.tmp 0), 94, _, _, none⟩ hS ?_
    refine rgw 2 ⟨some 13, .move (.tmp 0), 94, _, _, none⟩ hS ?_
    refine rgw 3 ⟨some 14, .nilCheck (.tmp 13), 0, _, _, none⟩ hS ?_
    refine rgw 4 ⟨some 15, .fieldAddr 131 (.tmp 14) 1, 0, _, _, none⟩ hS ?_
    refine rgw 5 ⟨some 16, .load 49 (.tmp 15), 49, _, _, none⟩ hS ?_ (v := .slice va hn vc) (hy := by intro w hSw; (try dsimp only at hSw); have z := (HJ1.out.blk.keep hSw).cells.2; go_simp)
    refine rg_one 1 ⟨some 12, .call { callee := .value (.func 68), args := #[.tmp 11], argTypes := #[94] }, 4, _, _, none⟩ (by kernel_rfl) rfl (fun K hK => ?_)
    go_simp
    (go_at_call 68; (with_reducible refine (idle_any false (.slice va hn vc) jb _ (HJ1.out.blk.keep hS)).mono ?_); rintro e w6 ⟨rfl, rfl⟩)
    refine hK.out _ _ ?_ (fun hS1 => ?_)
    · (exact hS)
    clear hK K hS; have hS := hS1; clear hS1
    (try simp only [rgp])
    refine rgw 6 ⟨some 7, .assign (.tmp 12), 4, _, _, none⟩ hS ?_
    refine rgw 7 ⟨some 8, .assign (.tmp 16), 49, _, _, none⟩ hS ?_
    refine wpAnyH_done (by kernel_rfl) ?_ _
    obtain ⟨w2, hw2⟩ : ∃ q, World.drew w1 = q := ⟨_, rfl⟩
    rw [hw2] at hS
    simp only [hw2]
    have HB2 := Lib.hid (bch HB1.out hS)
    have HF2 := Lib.hid (HF1.out.keep hS)
    have HJ2 := Lib.hid (HJ1.out.keep hS)
    clear hS hw2
    go_wp2_with (first
      | (refine wpList_store_row rfl 131 _ _ rfl jb (jA false (.slice none 0 0)) rfl rfl _ _ HJ2.out.blk (jo_info _ _) rfl (jo_one _ _ _ _) ?_))
    obtain ⟨w3, hw3⟩ : ∃ q, w2.setRow jb (jA false (.slice none 0 0)) = q := ⟨_, rfl⟩
    rw [hw3]
    have HO3 : Hid (Oth w w3 jb (.slice va hn vc)) := Lib.hid (hw3 ▸ (Oth.of_below HB2.out).trans (Oth.row w2 jb _ _))
    have HF3 : Hid (FO w3 fb 1 ep (.slice da n dc)) := Lib.hid (hw3 ▸ HF2.out.apart (HJ2.out.blk.ne HF2.out (by decide)) _)
    have HR3 : Hid (w3.ownsRow W.heap.size 5 1 (.slice va hn vc) hn (il .u8 h)) := Lib.hid (by rw [← hw3]; have z := HJ2.out.blk.row_own (jA false (.slice none 0 0)) HJ2.out.row (by decide); rw [HN.out] at z; exact z)
    have HJ3 : Hid (JO w3 jb false (.slice none 0 0)) := Lib.hid (hw3 ▸ HJ2.out.blk.row _ _)
    obtain ⟨f30, f31, f32⟩ := HF3.out.cells
    have hlow := HJ.out.low
    clear hw3
    go_step3
    go_wp2
    try rw [Exit.noGoto_ret]
    go_ret3
    exact ⟨rfl, ⟨HJ3.out, World.ownsRow_nil _ _ _ _, fun _ => ⟨rfl, rfl⟩, by simp, hlow⟩, HO3.out⟩
  · go_enter Tryz.func39, Tryz.ntmps39
    go_wp2
    go_step3
    go_wp2_with fail
    obtain ⟨w1, hw1⟩ : ∃ q, w.alloc (.cells (fA 2 ep (.slice da n dc)) 82) = q := ⟨_, rfl⟩
    rw [hw1]
    obtain ⟨fb, hfb⟩ : ∃ q, w.heap.size = q := ⟨_, rfl⟩
    have hb1 : Below w.heap.size w w1 := hw1 ▸ balloc w _
    have HF1 : Hid (FO w1 fb 2 ep (.slice da n dc)) := Lib.hid (by rw [← hw1, ← hfb]; exact FO.alloc w)
    have HB1 := Lib.hid hb1
    have HJ1 := Lib.hid (HJ.out.keep hb1)
    rw [hfb]
    clear hb1 hw1 hfb
    refine wp_region_held_drew (S := (fun w' => Below w1.heap.size w1 w')) (by kernel_rfl) ((Below.refl w1.heap.size w1).drew) (fun hS => ?_)
    refine rgw 0 ⟨some 11, .move (.tmp 0), 94, _, _, none⟩ hS ?_
    refine rgw 2 ⟨some 13, .move (.tmp 0), 94, _, _, none⟩ hS ?_
    refine rgw 3 ⟨some 14, .nilCheck (.tmp 13), 0, _, _, none⟩ hS ?_
    refine rgw 4 ⟨some 15, .fieldAddr 131 (.tmp 14) 1, 0, _, _, none⟩ hS ?_
    refine rgw 5 ⟨some 16, .load 49 (.tmp 15), 49, _, _, none⟩ hS ?_ (v := .slice va hn vc) (hy := by intro w hSw; (try dsimp only at hSw); have z := (HJ1.out.blk.keep hSw).cells.2; go_simp)
    refine rg_one 1 ⟨some 12, .call { callee := .value (.func 68), args := #[.tmp 11], argTypes := #[94] }, 4, _, _, none⟩ (by kernel_rfl) rfl (fun K hK => ?_)
    go_simp
    (go_at_call 68; (with_reducible refine (idle_any false (.slice va hn vc) jb _ (HJ1.out.blk.keep hS)).mono ?_); rintro e w6 ⟨rfl, rfl⟩)
    refine hK.out _ _ ?_ (fun hS1 => ?_)
    · (exact hS)
    clear hK K hS; have hS := hS1; clear hS1
    (try simp only [rgp])
    refine rgw 6 ⟨some 7, .assign (.tmp 12), 4, _, _, none⟩ hS ?_
    refine rgw 7 ⟨some 8, .assign (.tmp 16), 49, _, _, none⟩ hS ?_
    refine wpAnyH_done (by kernel_rfl) ?_ _
    obtain ⟨w2, hw2⟩ : ∃ q, World.drew w1 = q := ⟨_, rfl⟩
    rw [hw2] at hS
    simp only [hw2]
    have HB2 := Lib.hid (bch HB1.out hS)
    have HF2 := Lib.hid (HF1.out.keep hS)
    have HJ2 := Lib.hid (HJ1.out.keep hS)
    clear hS hw2
    go_wp2_with (first
      | (refine wpList_store_row rfl 131 _ _ rfl jb (jA false (.slice none 0 0)) rfl rfl _ _ HJ2.out.blk (jo_info _ _) rfl (jo_one _ _ _ _) ?_))
    obtain ⟨w3, hw3⟩ : ∃ q, w2.setRow jb (jA false (.slice none 0 0)) = q := ⟨_, rfl⟩
    rw [hw3]
    have HO3 : Hid (Oth w w3 jb (.slice va hn vc)) := Lib.hid (hw3 ▸ (Oth.of_below HB2.out).trans (Oth.row w2 jb _ _))
    have HF3 : Hid (FO w3 fb 2 ep (.slice da n dc)) := Lib.hid (hw3 ▸ HF2.out.apart (HJ2.out.blk.ne HF2.out (by decide)) _)
    have HR3 : Hid (w3.ownsRow W.heap.size 5 1 (.slice va hn vc) hn (il .u8 h)) := Lib.hid (by rw [← hw3]; have z := HJ2.out.blk.row_own (jA false (.slice none 0 0)) HJ2.out.row (by decide); rw [HN.out] at z; exact z)
    have HJ3 : Hid (JO w3 jb false (.slice none 0 0)) := Lib.hid (hw3 ▸ HJ2.out.blk.row _ _)
    obtain ⟨f30, f31, f32⟩ := HF3.out.cells
    have hlow := HJ.out.low
    clear hw3
    go_step3
    go_wp2
    try rw [Exit.noGoto_ret]
    go_ret3
    exact ⟨rfl, ⟨HJ3.out, World.ownsRow_nil _ _ _ _, fun _ => ⟨rfl, rfl⟩, by simp, hlow⟩, HO3.out⟩
  · go_enter Tryz.func39, Tryz.ntmps39
    go_wp2
    go_step3
    go_wp2_with fail
    obtain ⟨w1, hw1⟩ : ∃ q, w.alloc (.cells (fA 3 ep (.slice da n dc)) 82) = q := ⟨_, rfl⟩
    rw [hw1]
    obtain ⟨fb, hfb⟩ : ∃ q, w.heap.size = q := ⟨_, rfl⟩
    have hb1 : Below w.heap.size w w1 := hw1 ▸ balloc w _
    have HF1 : Hid (FO w1 fb 3 ep (.slice da n dc)) := Lib.hid (by rw [← hw1, ← hfb]; exact FO.alloc w)
    have HB1 := Lib.hid hb1
    have HJ1 := Lib.hid (HJ.out.keep hb1)
    rw [hfb]
    clear hb1 hw1 hfb
    refine wp_region_held_drew (S := (fun w' => Below w1.heap.size w1 w')) (by kernel_rfl) ((Below.refl w1.heap.size w1).drew) (fun hS => ?_)
    refine rgw 0 ⟨some 11, .move (.tmp 0), 94, _, _, none⟩ hS ?_
    refine rgw 2 ⟨some 13, .move (.tmp 0), 94, _, _, none⟩ hS ?_
    refine rgw 3 ⟨some 14, .nilCheck (.tmp 13), 0, _, _, none⟩ hS ?_
    refine rgw 4 ⟨some 15, .fieldAddr 131 (.tmp 14) 1, 0, _, _, none⟩ hS ?_
    refine rgw 5 ⟨some 16, .load 49 (.tmp 15), 49, _, _, none⟩ hS ?_ (v := .slice va hn vc) (hy := by intro w hSw; (try dsimp only at hSw); have z := (HJ1.out.blk.keep hSw).cells.2; go_simp)
    refine rg_one 1 ⟨some 12, .call { callee := .value (.func 68), args := #[.tmp 11], argTypes := #[94] }, 4, _, _, none⟩ (by kernel_rfl) rfl (fun K hK => ?_)
    go_simp
    (go_at_call 68; (with_reducible refine (idle_any true (.slice va hn vc) jb _ (HJ1.out.blk.keep hS)).mono ?_); rintro e w6 ⟨rfl, rfl⟩)
    refine hK.out _ _ ?_ (fun hS1 => ?_)
    · (exact hS)
    clear hK K hS; have hS := hS1; clear hS1
    (try simp only [rgp])
    refine rgw 6 ⟨some 7, .assign (.tmp 12), 4, _, _, none⟩ hS ?_
    refine rgw 7 ⟨some 8, .assign (.tmp 16), 49, _, _, none⟩ hS ?_
    refine wpAnyH_done (by kernel_rfl) ?_ _
    obtain ⟨w2, hw2⟩ : ∃ q, World.drew w1 = q := ⟨_, rfl⟩
    rw [hw2] at hS
    simp only [hw2]
    have HB2 := Lib.hid (bch HB1.out hS)
    have HF2 := Lib.hid (HF1.out.keep hS)
    have HJ2 := Lib.hid (HJ1.out.keep hS)
    clear hS hw2
    go_wp2_with (first
      | (refine wpList_store_row rfl 131 _ _ rfl jb (jA false (.slice none 0 0)) rfl rfl _ _ HJ2.out.blk (jo_info _ _) rfl (jo_one _ _ _ _) ?_))
    obtain ⟨w3, hw3⟩ : ∃ q, w2.setRow jb (jA false (.slice none 0 0)) = q := ⟨_, rfl⟩
    rw [hw3]
    have HO3 : Hid (Oth w w3 jb (.slice va hn vc)) := Lib.hid (hw3 ▸ (Oth.of_below HB2.out).trans (Oth.row w2 jb _ _))
    have HF3 : Hid (FO w3 fb 3 ep (.slice da n dc)) := Lib.hid (hw3 ▸ HF2.out.apart (HJ2.out.blk.ne HF2.out (by decide)) _)
    have HR3 : Hid (w3.ownsRow W.heap.size 5 1 (.slice va hn vc) hn (il .u8 h)) := Lib.hid (by rw [← hw3]; have z := HJ2.out.blk.row_own (jA false (.slice none 0 0)) HJ2.out.row (by decide); rw [HN.out] at z; exact z)
    have HJ3 : Hid (JO w3 jb false (.slice none 0 0)) := Lib.hid (hw3 ▸ HJ2.out.blk.row _ _)
    obtain ⟨f30, f31, f32⟩ := HF3.out.cells
    have hlow := HJ.out.low
    clear hw3
    go_step3
    go_wp2
    try rw [Exit.noGoto_ret]
    go_ret3
    exact ⟨rfl, ⟨HJ3.out, World.ownsRow_nil _ _ _ _, fun _ => ⟨rfl, rfl⟩, by simp, hlow⟩, HO3.out⟩
  · go_enter Tryz.func39, Tryz.ntmps39
    go_wp2
    go_step3
    go_wp2_with fail
    obtain ⟨w1, hw1⟩ : ∃ q, w.alloc (.cells (fA 4 ep (.slice da n dc)) 82) = q := ⟨_, rfl⟩
    rw [hw1]
    obtain ⟨fb, hfb⟩ : ∃ q, w.heap.size = q := ⟨_, rfl⟩
    have hb1 : Below w.heap.size w w1 := hw1 ▸ balloc w _
    have HF1 : Hid (FO w1 fb 4 ep (.slice da n dc)) := Lib.hid (by rw [← hw1, ← hfb]; exact FO.alloc w)
    have HB1 := Lib.hid hb1
    have HJ1 := Lib.hid (HJ.out.keep hb1)
    rw [hfb]
    clear hb1 hw1 hfb
    refine wp_region_held_drew (S := (fun w' => Below w1.heap.size w1 w')) (by kernel_rfl) ((Below.refl w1.heap.size w1).drew) (fun hS => ?_)
    refine rgw 0 ⟨some 11, .move (.tmp 0), 94, _, _, none⟩ hS ?_
    refine rgw 2 ⟨some 13, .move (.tmp 0), 94, _, _, none⟩ hS ?_
    refine rgw 3 ⟨some 14, .nilCheck (.tmp 13), 0, _, _, none⟩ hS ?_
    refine rgw 4 ⟨some 15, .fieldAddr 131 (.tmp 14) 1, 0, _, _, none⟩ hS ?_
    refine rgw 5 ⟨some 16, .load 49 (.tmp 15), 49, _, _, none⟩ hS ?_ (v := .slice va hn vc) (hy := by intro w hSw; (try dsimp only at hSw); have z := (HJ1.out.blk.keep hSw).cells.2; go_simp)
    refine rg_one 1 ⟨some 12, .call { callee := .value (.func 68), args := #[.tmp 11], argTypes := #[94] }, 4, _, _, none⟩ (by kernel_rfl) rfl (fun K hK => ?_)
    go_simp
    (go_at_call 68; (with_reducible refine (idle_any true (.slice va hn vc) jb _ (HJ1.out.blk.keep hS)).mono ?_); rintro e w6 ⟨rfl, rfl⟩)
    refine hK.out _ _ ?_ (fun hS1 => ?_)
    · (exact hS)
    clear hK K hS; have hS := hS1; clear hS1
    (try simp only [rgp])
    refine rgw 6 ⟨some 7, .assign (.tmp 12), 4, _, _, none⟩ hS ?_
    refine rgw 7 ⟨some 8, .assign (.tmp 16), 49, _, _, none⟩ hS ?_
    refine wpAnyH_done (by kernel_rfl) ?_ _
    obtain ⟨w2, hw2⟩ : ∃ q, World.drew w1 = q := ⟨_, rfl⟩
    rw [hw2] at hS
    simp only [hw2]
    have HB2 := Lib.hid (bch HB1.out hS)
    have HF2 := Lib.hid (HF1.out.keep hS)
    have HJ2 := Lib.hid (HJ1.out.keep hS)
    clear hS hw2
    go_wp2_with (first
      | (refine wpList_store_row rfl 131 _ _ rfl jb (jA false (.slice none 0 0)) rfl rfl _ _ HJ2.out.blk (jo_info _ _) rfl (jo_one _ _ _ _) ?_))
    obtain ⟨w3, hw3⟩ : ∃ q, w2.setRow jb (jA false (.slice none 0 0)) = q := ⟨_, rfl⟩
    rw [hw3]
    have HO3 : Hid (Oth w w3 jb (.slice va hn vc)) := Lib.hid (hw3 ▸ (Oth.of_below HB2.out).trans (Oth.row w2 jb _ _))
    have HF3 : Hid (FO w3 fb 4 ep (.slice da n dc)) := Lib.hid (hw3 ▸ HF2.out.apart (HJ2.out.blk.ne HF2.out (by decide)) _)
    have HR3 : Hid (w3.ownsRow W.heap.size 5 1 (.slice va hn vc) hn (il .u8 h)) := Lib.hid (by rw [← hw3]; have z := HJ2.out.blk.row_own (jA false (.slice none 0 0)) HJ2.out.row (by decide); rw [HN.out] at z; exact z)
    have HJ3 : Hid (JO w3 jb false (.slice none 0 0)) := Lib.hid (hw3 ▸ HJ2.out.blk.row _ _)
    obtain ⟨f30, f31, f32⟩ := HF3.out.cells
    have hlow := HJ.out.low
    clear hw3
    go_step3
    go_wp2
    try rw [Exit.noGoto_ret]
    go_ret3
    exact ⟨rfl, ⟨HJ3.out, World.ownsRow_nil _ _ _ _, fun _ => ⟨rfl, rfl⟩, by simp, hlow⟩, HO3.out⟩
set_option maxRecDepth 8000 in
set_option maxHeartbeats 2000000 in
theorem feed_wrong (W : World) (o : Bool) (jb : Nat) (v : Value) (h : List Int) (k ep : Int) (dv : Value) (n : Nat) (d : List Int) (w : World) (hW : Below W.heap.size W w) (hj : JB w W.heap.size jb o v h) (hri : ∀ w', Oth w w' jb v → RI .u8 w' dv n d)
    (hk : jFit o k = false) :
    Calls Tryz.prog 39 #[.pointer (some ⟨jb, 0, none⟩), .agg (fA k ep dv)] w fun e w' =>
      e = .returned (.tuple #[.slice none 0 0, .bool false, .int .i64 2]) ∧ JB w' W.heap.size jb false (.slice none 0 0) [] ∧ Oth w w' jb v := by
  have hzl := (hri w (Oth.refl _ _ _)).length
  have HR := Lib.hid hri
  have HW := Lib.hid hW
  obtain ⟨hn, hhn⟩ : ∃ m, h.length = m := ⟨_, rfl⟩
  have hr := hj.row
  rw [hhn] at hr
  have hfew := hj.few
  rw [hhn] at hfew
  obtain ⟨va, vc, rfl⟩ := own_form hr
  have HJ := Lib.hid hj
  obtain ⟨da, dc, rfl, _, hdc, hdm, _⟩ := hri w (Oth.refl _ _ _)
  have HN := Lib.hid hhn
  have HZ := Lib.hid hzl
  clear hj hW hzl hhn hr
  cases o
  all_goals (unfold jFit at hk; simp only [Bool.false_eq_true, if_false, if_true, decide_eq_false_iff_not, not_or] at hk; obtain ⟨k1, k2⟩ := hk)
  · have e1 : (k == 1) = false := by simpa using k1
    have e2 : (k == 2) = false := by simpa using k2
    go_enter Tryz.func39, Tryz.ntmps39
    go_wp2
    go_step3
    go_wp2_with fail
    obtain ⟨w1, hw1⟩ : ∃ q, w.alloc (.cells (fA k ep (.slice da n dc)) 82) = q := ⟨_, rfl⟩
    rw [hw1]
    obtain ⟨fb, hfb⟩ : ∃ q, w.heap.size = q := ⟨_, rfl⟩
    have hb1 : Below w.heap.size w w1 := hw1 ▸ balloc w _
    have HF1 : Hid (FO w1 fb k ep (.slice da n dc)) := Lib.hid (by rw [← hw1, ← hfb]; exact FO.alloc w)
    have HB1 := Lib.hid hb1
    have HJ1 := Lib.hid (HJ.out.keep hb1)
    rw [hfb]
    clear hb1 hw1 hfb
    refine wp_region_held_drew (S := (fun w' => Below w1.heap.size w1 w')) (by kernel_rfl) ((Below.refl w1.heap.size w1).drew) (fun hS => ?_)
    refine rgw 0 ⟨some 11, .move (.tmp 0), 94, _, _, none⟩ hS ?_
    refine rgw 2 ⟨some 13, .move (.tmp 0), 94, _, _, none⟩ hS ?_
    refine rgw 3 ⟨some 14, .nilCheck (.tmp 13), 0, _, _, none⟩ hS ?_
    refine rgw 4 ⟨some 15, .fieldAddr 131 (.tmp 14) 1, 0, _, _, none⟩ hS ?_
    refine rgw 5 ⟨some 16, .load 49 (.tmp 15), 49, _, _, none⟩ hS ?_ (v := .slice va hn vc) (hy := by intro w hSw; (try dsimp only at hSw); have z := (HJ1.out.blk.keep hSw).cells.2; go_simp)
    refine rg_one 1 ⟨some 12, .call { callee := .value (.func 68), args := #[.tmp 11], argTypes := #[94] }, 4, _, _, none⟩ (by kernel_rfl) rfl (fun K hK => ?_)
    go_simp
    (go_at_call 68; (with_reducible refine (idle_any false (.slice va hn vc) jb _ (HJ1.out.blk.keep hS)).mono ?_); rintro e w6 ⟨rfl, rfl⟩)
    refine hK.out _ _ ?_ (fun hS1 => ?_)
    · (exact hS)
    clear hK K hS; have hS := hS1; clear hS1
    (try simp only [rgp])
    refine rgw 6 ⟨some 7, .assign (.tmp 12), 4, _, _, none⟩ hS ?_
    refine rgw 7 ⟨some 8, .assign (.tmp 16), 49, _, _, none⟩ hS ?_
    refine wpAnyH_done (by kernel_rfl) ?_ _
    obtain ⟨w2, hw2⟩ : ∃ q, World.drew w1 = q := ⟨_, rfl⟩
    rw [hw2] at hS
    simp only [hw2]
    have HB2 := Lib.hid (bch HB1.out hS)
    have HF2 := Lib.hid (HF1.out.keep hS)
    have HJ2 := Lib.hid (HJ1.out.keep hS)
    clear hS hw2
    go_wp2_with (first
      | (refine wpList_store_row rfl 131 _ _ rfl jb (jA false (.slice none 0 0)) rfl rfl _ _ HJ2.out.blk (jo_info _ _) rfl (jo_one _ _ _ _) ?_))
    obtain ⟨w3, hw3⟩ : ∃ q, w2.setRow jb (jA false (.slice none 0 0)) = q := ⟨_, rfl⟩
    rw [hw3]
    have HO3 : Hid (Oth w w3 jb (.slice va hn vc)) := Lib.hid (hw3 ▸ (Oth.of_below HB2.out).trans (Oth.row w2 jb _ _))
    have HF3 : Hid (FO w3 fb k ep (.slice da n dc)) := Lib.hid (hw3 ▸ HF2.out.apart (HJ2.out.blk.ne HF2.out (by decide)) _)
    have HR3 : Hid (w3.ownsRow W.heap.size 5 1 (.slice va hn vc) hn (il .u8 h)) := Lib.hid (by rw [← hw3]; have z := HJ2.out.blk.row_own (jA false (.slice none 0 0)) HJ2.out.row (by decide); rw [HN.out] at z; exact z)
    have HJ3 : Hid (JO w3 jb false (.slice none 0 0)) := Lib.hid (hw3 ▸ HJ2.out.blk.row _ _)
    obtain ⟨f30, f31, f32⟩ := HF3.out.cells
    have hlow := HJ.out.low
    clear hw3
    go_step3
    go_wp2
    try rw [Exit.noGoto_ret]
    go_ret3
    exact ⟨rfl, ⟨HJ3.out, World.ownsRow_nil _ _ _ _, fun _ => ⟨rfl, rfl⟩, by simp, hlow⟩, HO3.out⟩
  · have e1 : (k == 3) = false := by simpa using k1
    have e2 : (k == 4) = false := by simpa using k2
    go_enter Tryz.func39, Tryz.ntmps39
    go_wp2
    go_step3
    go_wp2_with fail
    obtain ⟨w1, hw1⟩ : ∃ q, w.alloc (.cells (fA k ep (.slice da n dc)) 82) = q := ⟨_, rfl⟩
    rw [hw1]
    obtain ⟨fb, hfb⟩ : ∃ q, w.heap.size = q := ⟨_, rfl⟩
    have hb1 : Below w.heap.size w w1 := hw1 ▸ balloc w _
    have HF1 : Hid (FO w1 fb k ep (.slice da n dc)) := Lib.hid (by rw [← hw1, ← hfb]; exact FO.alloc w)
    have HB1 := Lib.hid hb1
    have HJ1 := Lib.hid (HJ.out.keep hb1)
    rw [hfb]
    clear hb1 hw1 hfb
    refine wp_region_held_drew (S := (fun w' => Below w1.heap.size w1 w')) (by kernel_rfl) ((Below.refl w1.heap.size w1).drew) (fun hS => ?_)
    refine rgw 0 ⟨some 11, .move (.tmp 0), 94, _, _, none⟩ hS ?_
    refine rgw 2 ⟨some 13, .move (.tmp 0), 94, _, _, none⟩ hS ?_
    refine rgw 3 ⟨some 14, .nilCheck (.tmp 13), 0, _, _, none⟩ hS ?_
    refine rgw 4 ⟨some 15, .fieldAddr 131 (.tmp 14) 1, 0, _, _, none⟩ hS ?_
    refine rgw 5 ⟨some 16, .load 49 (.tmp 15), 49, _, _, none⟩ hS ?_ (v := .slice va hn vc) (hy := by intro w hSw; (try dsimp only at hSw); have z := (HJ1.out.blk.keep hSw).cells.2; go_simp)
    refine rg_one 1 ⟨some 12, .call { callee := .value (.func 68), args := #[.tmp 11], argTypes := #[94] }, 4, _, _, none⟩ (by kernel_rfl) rfl (fun K hK => ?_)
    go_simp
    (go_at_call 68; (with_reducible refine (idle_any true (.slice va hn vc) jb _ (HJ1.out.blk.keep hS)).mono ?_); rintro e w6 ⟨rfl, rfl⟩)
    refine hK.out _ _ ?_ (fun hS1 => ?_)
    · (exact hS)
    clear hK K hS; have hS := hS1; clear hS1
    (try simp only [rgp])
    refine rgw 6 ⟨some 7, .assign (.tmp 12), 4, _, _, none⟩ hS ?_
    refine rgw 7 ⟨some 8, .assign (.tmp 16), 49, _, _, none⟩ hS ?_
    refine wpAnyH_done (by kernel_rfl) ?_ _
    obtain ⟨w2, hw2⟩ : ∃ q, World.drew w1 = q := ⟨_, rfl⟩
    rw [hw2] at hS
    simp only [hw2]
    have HB2 := Lib.hid (bch HB1.out hS)
    have HF2 := Lib.hid (HF1.out.keep hS)
    have HJ2 := Lib.hid (HJ1.out.keep hS)
    clear hS hw2
    go_wp2_with (first
      | (refine wpList_store_row rfl 131 _ _ rfl jb (jA false (.slice none 0 0)) rfl rfl _ _ HJ2.out.blk (jo_info _ _) rfl (jo_one _ _ _ _) ?_))
    obtain ⟨w3, hw3⟩ : ∃ q, w2.setRow jb (jA false (.slice none 0 0)) = q := ⟨_, rfl⟩
    rw [hw3]
    have HO3 : Hid (Oth w w3 jb (.slice va hn vc)) := Lib.hid (hw3 ▸ (Oth.of_below HB2.out).trans (Oth.row w2 jb _ _))
    have HF3 : Hid (FO w3 fb k ep (.slice da n dc)) := Lib.hid (hw3 ▸ HF2.out.apart (HJ2.out.blk.ne HF2.out (by decide)) _)
    have HR3 : Hid (w3.ownsRow W.heap.size 5 1 (.slice va hn vc) hn (il .u8 h)) := Lib.hid (by rw [← hw3]; have z := HJ2.out.blk.row_own (jA false (.slice none 0 0)) HJ2.out.row (by decide); rw [HN.out] at z; exact z)
    have HJ3 : Hid (JO w3 jb false (.slice none 0 0)) := Lib.hid (hw3 ▸ HJ2.out.blk.row _ _)
    obtain ⟨f30, f31, f32⟩ := HF3.out.cells
    have hlow := HJ.out.low
    clear hw3
    go_step3
    go_wp2
    try rw [Exit.noGoto_ret]
    go_ret3
    exact ⟨rfl, ⟨HJ3.out, World.ownsRow_nil _ _ _ _, fun _ => ⟨rfl, rfl⟩, by simp, hlow⟩, HO3.out⟩
theorem feed_own (W : World) (o : Bool) (jb : Nat) (v : Value) (h : List Int) (k ep : Int) (dv : Value) (n : Nat) (d : List Int) (w : World) (hW : Below W.heap.size W w) (hj : JB w W.heap.size jb o v h) (hri : ∀ w', Oth w w' jb v → RI .u8 w' dv n d) :
    Calls Tryz.prog 39 #[.pointer (some ⟨jb, 0, none⟩), .agg (fA k ep dv)] w fun e w' =>
      ∃ u v', e = .returned (.tuple #[u, .bool (jEnds o h k d), .int .i64 (jErr o h k d)]) ∧ JB w' W.heap.size jb (jGoes o h k d) v' (jHad o h k d) ∧ w'.ownsRow W.heap.size 5 1 u (jTell o h k d).length (il .u8 (jTell o h k d)) ∧ Lies w v u ∧ Lies w v v' ∧ Oth w w' jb v := by
  have hz := (hri w (Oth.refl _ _ _)).length
  cases hf : jFit o k with
  | false =>
    obtain ⟨e1, e2, e3, e4, e5⟩ := j_wrong (h := h) (d := d) hf
    rw [e1, e2, e3, e4, e5]
    exact (feed_wrong W o jb v h k ep dv n d w hW hj hri hf).mono fun e w' ⟨h1, h2, h3⟩ => ⟨_, _, h1, h2, World.ownsRow_nil _ _ _ _, Lies.nil _ _ _ _, Lies.nil _ _ _ _, h3⟩
  | true =>
    by_cases hl : h.length + n > 512
    · obtain ⟨e1, e2, e3, e4, e5⟩ := j_long (h := h) (d := d) hf (by rw [hz]; exact hl)
      rw [e1, e2, e3, e4, e5]
      exact (feed_long W o jb v h k ep dv n d w hW hj hri hf hl).mono fun e w' ⟨h1, h2, h3⟩ => ⟨_, _, h1, h2, World.ownsRow_nil _ _ _ _, Lies.nil _ _ _ _, Lies.nil _ _ _ _, h3⟩
    · cases hk : jLast k with
      | true =>
        obtain ⟨e1, e2, e3, e4, e5⟩ := j_ends (h := h) (d := d) hf (by rw [hz]; exact hl) hk
        rw [e1, e2, e3, e4, e5]
        exact (feed_ends W o jb v h k ep dv n d w hW hj hri (by unfold jFit at hf; unfold jLast at hk; cases o <;> simp at hf hk ⊢ <;> omega) hl).mono fun e w' ⟨u, h1, h2, h3, h4, h5⟩ => ⟨u, _, h1, h2, h3, h4, Lies.nil _ _ _ _, h5⟩
      | false =>
        obtain ⟨e1, e2, e3, e4, e5⟩ := j_goes (h := h) (d := d) hf (by rw [hz]; exact hl) hk
        rw [e1, e2, e3, e4, e5]
        exact (feed_goes W o jb v h k ep dv n d w hW hj hri (by unfold jFit at hf; unfold jLast at hk; cases o <;> simp at hf hk ⊢ <;> omega) hl).mono fun e w' ⟨u, h1, h2, h4, h5⟩ => ⟨_, u, h1, h2, World.ownsRow_nil _ _ _ _, Lies.nil _ _ _ _, h4, h5⟩
end Go.Proofs.YtnmplnemnfonfaaGreatDoor
namespace Go.Proofs.YtnmplnemnfonfaaGreatDoor
open Go.RowKit
attribute [local go_sem] Oper.semAt_some
def FromF (R : Option (List Int × Nat)) (w : World) (r : Ending) (w' : World) : Prop :=
  Below w.heap.size w w' ∧ match R with
  | none => r = .returned (.tuple #[.slice none 0 0, .int .i64 0, .bool false])
  | some (z, e) => ∃ y c, r = .returned (.tuple #[.slice y z.length c, .int .i64 (e : Nat), .bool true]) ∧ w'.ownsRow w.heap.size 5 1 (.slice y z.length c) z.length (il .u8 z)
structure FI (w : World) (jb p9 Ba : Nat) (jo : Nat → Bool) (jh : Nat → List Int) (f : Nat → Bool) (k : Nat) (W : World) : Prop where
  r1 : W.heap[w.heap.size]? = some (.cells #[.slice none 0 0] 49 (0, 0))
  r2 : W.heap[w.heap.size + 1]? = some (.cells #[.int .i64 0] 3 (0, 0))
  r3 : W.heap[w.heap.size + 1 + 1]? = some (.cells #[.bool false] 4 (0, 0))
  pj : W.heap[p9]? = some (.cells #[.pointer (some ⟨jb, 0, none⟩)] 94 (0, 0))
  j : ∃ v, JB W w.heap.size jb (jo k) v (jh k) ∧ ∀ g, v.ownBlock = some g → f g = true
  fj : f jb = true
  fa : f Ba = false
  below : Below w.heap.size w W
  ba : w.heap.size ≤ Ba
  big : Ba < W.heap.size
  ne : Ba ≠ w.heap.size ∧ Ba ≠ w.heap.size + 1 ∧ Ba ≠ w.heap.size + 1 + 1 ∧ Ba ≠ p9 ∧ Ba ≠ jb
theorem JB.freeG {Ba b base jb : Nat} {o : Bool} {v : Value} {h : List Int} {A B : World} (j : JB A base jb o v h) (hf : FreeG Ba b A B) (h1 : Ba ≠ jb) (h2 : ∀ g, v.ownBlock = some g → g ≠ Ba) : JB B base jb o v h := by
  refine ⟨hf.cells _ _ (Ne.symm h1) j.blk rfl, ⟨j.row.1, ?_⟩, j.idle, j.few, j.low⟩
  rcases j.row.2 with h3 | ⟨g, cap, cur, hv, hg, hcur, h4⟩
  · exact .inl h3
  · exact .inr ⟨g, cap, cur, hv, hg, hf.cells _ _ (h2 g (by rw [hv]; rfl)) hcur rfl, h4⟩
theorem FI.free {w : World} {jb p9 Ba : Nat} {jo : Nat → Bool} {jh : Nat → List Int} {f : Nat → Bool} {k : Nat} {A B : World} {b : Nat} (h : FI w jb p9 Ba jo jh f k A) (hf : FreeG Ba b A B) (hb : w.heap.size ≤ b) : FI w jb p9 Ba jo jh f k B := by
  obtain ⟨n1, n2, n3, n4, n5⟩ := h.ne
  refine ⟨hf.cells _ _ (Ne.symm n1) h.r1 rfl, hf.cells _ _ (Ne.symm n2) h.r2 rfl, hf.cells _ _ (Ne.symm n3) h.r3 rfl, hf.cells _ _ (Ne.symm n4) h.pj rfl, ?_, h.fj, h.fa, h.below.trans (hf.below hb h.ba), h.ba, Nat.lt_of_lt_of_le h.big hf.size, h.ne⟩
  obtain ⟨v, hj, hv⟩ := h.j
  exact ⟨v, hj.freeG hf n5 (fun g hg e => by have := hv g hg; rw [e, h.fa] at this; cases this), hv⟩
structure FX (w : World) (Ba : Nat) (R : Option (List Int × Nat)) (W : World) : Prop where
  cells : match R with
    | none => W.heap[w.heap.size]? = some (.cells #[.slice none 0 0] 49 (0, 0)) ∧ W.heap[w.heap.size + 1]? = some (.cells #[.int .i64 0] 3 (0, 0)) ∧ W.heap[w.heap.size + 1 + 1]? = some (.cells #[.bool false] 4 (0, 0))
    | some (z, e) => ∃ y c, W.heap[w.heap.size]? = some (.cells #[.slice y z.length c] 49 (0, 0)) ∧ W.heap[w.heap.size + 1]? = some (.cells #[.int .i64 (e : Nat)] 3 (0, 0)) ∧ W.heap[w.heap.size + 1 + 1]? = some (.cells #[.bool true] 4 (0, 0)) ∧
        W.ownsRow w.heap.size 5 1 (.slice y z.length c) z.length (il .u8 z) ∧ ∀ g, (Value.slice y z.length c).ownBlock = some g → g ≠ Ba
  below : Below w.heap.size w W
  ba : w.heap.size ≤ Ba
  ne : Ba ≠ w.heap.size ∧ Ba ≠ w.heap.size + 1 ∧ Ba ≠ w.heap.size + 1 + 1
theorem FX.free {w : World} {Ba : Nat} {R : Option (List Int × Nat)} {A B : World} {b : Nat} (h : FX w Ba R A) (hf : FreeG Ba b A B) (hb : w.heap.size ≤ b) : FX w Ba R B := by
  obtain ⟨n1, n2, n3⟩ := h.ne
  refine ⟨?_, h.below.trans (hf.below hb h.ba), h.ba, h.ne⟩
  have hc := h.cells
  cases R with
  | none => exact ⟨hf.cells _ _ (Ne.symm n1) hc.1 rfl, hf.cells _ _ (Ne.symm n2) hc.2.1 rfl, hf.cells _ _ (Ne.symm n3) hc.2.2 rfl⟩
  | some q =>
    obtain ⟨z, e⟩ := q
    obtain ⟨y, c, h1, h2, h3, h4, h5⟩ := hc
    refine ⟨y, c, hf.cells _ _ (Ne.symm n1) h1 rfl, hf.cells _ _ (Ne.symm n2) h2 rfl, hf.cells _ _ (Ne.symm n3) h3 rfl, ⟨h4.1, ?_⟩, h5⟩
    rcases h4.2 with h6 | ⟨g, cap, cur, hv, hg, hcur, h7⟩
    · exact .inl h6
    · exact .inr ⟨g, cap, cur, hv, hg, hf.cells _ _ (h5 g (by rw [hv]; rfl)) hcur rfl, h7⟩
def pxF (R : Option (List Int × Nat)) : Option Nat := match R with
  | none => some 0
  | some _ => none
theorem JB.base {w : World} {base base' jb : Nat} {o : Bool} {v : Value} {h : List Int} (j : JB w base jb o v h) (hb : base' ≤ base) : JB w base' jb o v h := ⟨j.blk, own_mono j.row hb, j.idle, j.few, Nat.le_trans hb j.low⟩
theorem rd_alloc3 (w : World) (a b c : Obj) : (((w.alloc a).alloc b).alloc c).heap[w.heap.size]? = some a ∧ (((w.alloc a).alloc b).alloc c).heap[w.heap.size + 1]? = some b ∧ (((w.alloc a).alloc b).alloc c).heap[w.heap.size + 1 + 1]? = some c ∧ Below w.heap.size w (((w.alloc a).alloc b).alloc c) ∧ (((w.alloc a).alloc b).alloc c).heap.size = w.heap.size + 1 + 1 + 1 := by
  obtain ⟨h1, h2, h3, h4⟩ := alloc2 w a b
  have h5 := balloc ((w.alloc a).alloc b) c
  have h6 := heap_alloc_last ((w.alloc a).alloc b) c
  rw [h4] at h6
  exact ⟨(h5.block _ (by omega)).trans h1, (h5.block _ (by omega)).trans h2, h6, bch h3 h5, by rw [alloc_size, h4]⟩
theorem own_oth {w w' : World} {base base' jb s n : Nat} {v u : Value} {o : Bool} {h : List Int} {t : TypeId} {xs : List Value} (j : JB w base' jb o v h) (k : Oth w w' jb v) (ho : w.ownsRow base t s u n xs) (ht : t ≠ 131) (hv : ∀ g, v.ownBlock = some g → g < base) : w'.ownsRow base t s u n xs :=
  j.oth k ho ht fun g hg e => by
    have h1 := (ho.lt g hg).1
    have h2 := hv g e.symm
    omega
theorem noc_oth {W W2 : World} {q base jb : Nat} {o : Bool} {v : Value} {h : List Int} (hq : NoC W q) (j : JB W base jb o v h) (k : Oth W W2 jb v) : W2.heap[q]? = W.heap[q]? := by
  refine k.block q ?_ (hq.ne j.blk) fun e => ?_
  · obtain ⟨o, ho, _⟩ := hq
    exact (Array.getElem?_eq_some_iff.1 ho).1
  · rcases j.row.2 with ⟨rfl, _⟩ | ⟨g, cap, cur, rfl, _, hcur, _⟩
    · simp [Value.ownBlock] at e
    · simp only [Value.ownBlock, Option.some.injEq] at e
      exact hq.ne hcur e
theorem FI.fed {w : World} {jb p9 Ba : Nat} {jo : Nat → Bool} {jh : Nat → List Int} {f : Nat → Bool} {k : Nat} {W W2 : World} {v v' : Value} (h : FI w jb p9 Ba jo jh f k W) (j : JB W w.heap.size jb (jo k) v (jh k)) (hv : ∀ g, v.ownBlock = some g → f g = true) (hk : Oth W W2 jb v)
    (j2 : JB W2 w.heap.size jb (jo (k + 1)) v' (jh (k + 1))) (hl : Lies W v v') : ∃ f', KpI w.heap.size f W f' W2 ∧ FI w jb p9 Ba jo jh f' (k + 1) W2 := by
  refine ⟨fun q => f q || decide (v'.ownBlock = some q), ⟨hk.size, fun _ => j.below hk, fun q o hf ho _ => ?_, fun hf q hq => ?_, fun q hq => ?_⟩, ?_⟩
  · refine (hk.block q (Array.getElem?_eq_some_iff.1 ho).1 (fun e => ?_) (fun e => ?_)).trans ho
    · rw [e, h.fj] at hf; cases hf
    · rw [hv q e.symm] at hf; cases hf
  · simp only [Bool.or_eq_true, decide_eq_true_eq] at hq
    rcases hq with hq | hq
    · exact Nat.lt_of_lt_of_le (hf q hq) hk.size
    · exact (j2.row.lt q hq).2
  · show (f q || decide (v'.ownBlock = some q)) = f q
    by_cases e : v'.ownBlock = some q
    · rcases hl q e with h1 | h1
      · rw [hv q h1.symm]; rfl
      · omega
    · rw [decide_eq_false e, Bool.or_false]
  · refine ⟨j.oth_blk hk h.r1 (by decide) (by decide), j.oth_blk hk h.r2 (by decide) (by decide), j.oth_blk hk h.r3 (by decide) (by decide), j.oth_blk hk h.pj (by decide) (by decide), ⟨v', j2, fun g hg => by simp [hg]⟩, by simp [h.fj], ?_, h.below.trans (j.below hk), h.ba, Nat.lt_of_lt_of_le h.big hk.size, h.ne⟩
    show (f Ba || decide (v'.ownBlock = some Ba)) = false
    rw [h.fa, Bool.false_or, decide_eq_false]
    intro e
    rcases hl Ba e with h1 | h1
    · have := hv Ba h1.symm
      rw [h.fa] at this; cases this
    · have := h.big; omega
set_option maxRecDepth 100000 in
set_option maxHeartbeats 4000000 in
theorem from_gen (x : Int) (hx : U64 x) (w : World) (v : Value) (m : Nat) (fs : List Int) (hbf : Bytes fs) (hfs : FS w v m fs) (pl : Nat → Int) (fr : Nat → FR × Nat) (jo : Nat → Bool) (jh : Nat → List Int) (k0 : Nat) (st : Bool) (oc : Option (List Int × Nat))
    (hfr : ∀ k, k ≤ k0 → ∀ (w' : World) (bv kv : Value), Below w.heap.size w w' → RI .u8 w' bv 832 (flatB x m fs 16) → BS w' kv 16 (flatK x m fs 16) → Calls Tryz.prog 66 #[.agg (rbA (x % 4294967296) bv kv), .int .i64 (pl k)] w' (BFragT (fr k) (pl k) w'))
    (hst : (fr k0).2 = 0 ↔ st = true) (hgo : ∀ k, k < k0 → (fr k).2 ≠ 0)
    (hpl : ∀ k, k < k0 → pl (k + 1) = (beginN (nr (pl k + ((fr k).2 : Nat))) : Nat) ∧ I63 (pl k + ((fr k).2 : Nat)) ∧ pl k < pl (k + 1) ∧ pl (k + 1) ≤ 832)
    (hj0 : jo 0 = false ∧ jh 0 = [])
    (hjn : ∀ k, k < k0 → jErr (jo k) (jh k) (fr k).1.kind (fr k).1.data = 0 ∧ jEnds (jo k) (jh k) (fr k).1.kind (fr k).1.data = false ∧ jo (k + 1) = jGoes (jo k) (jh k) (fr k).1.kind (fr k).1.data ∧ jh (k + 1) = jHad (jo k) (jh k) (fr k).1.kind (fr k).1.data)
    (hen : st = false → (jErr (jo k0) (jh k0) (fr k0).1.kind (fr k0).1.data ≠ 0 ∧ oc = none) ∨ (jErr (jo k0) (jh k0) (fr k0).1.kind (fr k0).1.data = 0 ∧ jEnds (jo k0) (jh k0) (fr k0).1.kind (fr k0).1.data = true ∧ ∃ e : Nat, pl k0 + ((fr k0).2 : Nat) = (e : Int) ∧ oc = some (jTell (jo k0) (jh k0) (fr k0).1.kind (fr k0).1.data, e)))
    (hno : st = true → oc = none) :
    Calls Tryz.prog 17 #[.int .u64 x, v, .int .i64 (pl 0)] w (FromF oc w) := by
  have HS : Hid (∀ n, 1 ≤ n → ∀ (w1 : World) (Be Bl Ba : Nat), Below w.heap.size w w1 → Be < w1.heap.size → Bl < w1.heap.size → Ba < w1.heap.size → w.heap.size ≤ Ba → w1.heap[Be]? = some (.cells #[.int .u64 x] 22 (0, 0)) → w1.heap[Bl]? = some (.cells #[v] 29 (0, 0)) → w1.heap[Ba]? = some (.cells #[.int .i64 (pl 0)] 3 (0, 0)) →
      SeqG Fence.wide n Tryz.prog 64 #[.pointer (some ⟨Be, 0, none⟩), .pointer (some ⟨Bl, 0, none⟩), .pointer (some ⟨Ba, 0, none⟩)] Ba (encG pl fr) (TG fr) (badG k0 st) (KpI w.heap.size) (OkG Ba) (st = true) (st = false) (numG k0 st) w1) :=
    Lib.hid fun n hn w1 Be Bl Ba h1 h2 h3 h4 h5 h6 h7 h8 => frags_told n hn x hx w v m fs hbf hfs pl fr k0 st hfr hst hgo hpl w1 Be Bl Ba h1 h2 h3 h4 h5 h6 h7 h8
  obtain ⟨va, vc, rfl⟩ : ∃ a c, v = .slice a m c := by obtain ⟨a, c, q, _⟩ := hfs; exact ⟨a, c, q⟩
  have HJ0 := Lib.hid hj0
  have HJN := Lib.hid hjn
  have HEN := Lib.hid hen
  have HNO := Lib.hid hno
  obtain ⟨p0, hp0⟩ : ∃ p, pl 0 = p := ⟨_, rfl⟩
  rw [hp0] at HS
  rw [hp0]
  have HP0 := Lib.hid hp0
  clear hbf hfs hfr hst hgo hpl hj0 hjn hen hno hx hp0
  refine (callsIn_wide (n := 8)).1 ?_
  refine callsIn_of_wp_marks Tryz.func17 rfl trivial ?_ rfl
  simp only [Tryz.ntmps17, List.size_toArray, List.length_cons, List.length_nil, Nat.reduceAdd, Nat.reduceSub, Array.replicate_succ, Array.replicate_zero, List.push_toArray, List.append_toArray, List.nil_append, List.cons_append]
  gi_wp2_with (first
    | (refine ⟨trivial, ?_⟩; gi_at_call 37; refine (callsIn_wide.2 (new_any _)).mono ?_; rintro e w1 ⟨rfl, hj1, hb1⟩; have HJB1 := Lib.hid hj1; have HB1 := Lib.hid hb1; clear hj1 hb1)
    | (refine ⟨trivial, ?_⟩; gi_at_call 38; refine (callsIn_wide.2 (callsIn_wide.1 (frags_any x va m vc p0 _))).mono ?_; rintro e w2 ⟨rfl, rfl⟩))
  obtain ⟨q1, q2, q3, q4, q5⟩ := rd_alloc3 w (.cells #[.slice none 0 0] 49) (.cells #[.int .i64 0] 3) (.cells #[.bool false] 4)
  have hbs := HB1.out
  have hjb := HJB1.out
  generalize ((w.alloc (.cells #[.slice none 0 0] 49)).alloc (.cells #[.int .i64 0] 3)).alloc (.cells #[.bool false] 4) = w0 at *
  rw [q5] at hjb
  obtain ⟨jb, hjbe⟩ : ∃ q, w.heap.size + 1 + 1 + 1 = q := ⟨_, rfl⟩
  rw [hjbe] at hjb q5
  have p1 := (hbs.block _ (by omega)).trans q1
  have p2 := (hbs.block _ (by omega)).trans q2
  have p3 := (hbs.block _ (by omega)).trans q3
  have hb1 := bch q4 hbs
  have hjl := hjb.blk.lt
  have hjb1 : JB w1 w.heap.size jb false (.slice none 0 0) [] := hjb.base (by omega)
  clear HB1 HJB1 hbs q1 q2 q3 q4 hjb
  obtain ⟨s1, s2, s3, s4, s5, s6⟩ := alloc4 w1 (.cells #[.pointer (some ⟨jb, 0, none⟩)] 94) (.cells #[.int .u64 x] 22) (.cells #[.slice va m vc] 29) (.cells #[.int .i64 p0] 3)
  simp only [hjbe]
  obtain ⟨w3, hw3⟩ : ∃ q, (((w1.alloc (.cells #[.pointer (some ⟨jb, 0, none⟩)] 94)).alloc (.cells #[.int .u64 x] 22)).alloc (.cells #[.slice va m vc] 29)).alloc (.cells #[.int .i64 p0] 3) = q := ⟨_, rfl⟩
  rw [hw3] at s1 s2 s3 s4 s5 s6
  rw [hw3]
  have k1 : ∀ (q : Nat) (o : Obj), w1.heap[q]? = some o → w3.heap[q]? = some o := fun q o h => (s5.block q (Array.getElem?_eq_some_iff.1 h).1).trans h
  have hb3 : Below w.heap.size w w3 := bch hb1 s5
  obtain ⟨p9, hp9⟩ : ∃ q, w1.heap.size = q := ⟨_, rfl⟩
  rw [hp9] at s1 s2 s3 s4 s6 hjl
  rw [hp9]
  obtain ⟨Ba, hBa⟩ : ∃ q, p9 + 1 + 1 + 1 = q := ⟨_, rfl⟩
  rw [hBa] at s4
  rw [hBa]
  have hn3 : Ba < w3.heap.size := by omega
  have HI0 : FI w jb p9 Ba jo jh (fun q => q == jb) 0 w3 := ⟨k1 _ _ p1, k1 _ _ p2, k1 _ _ p3, s1, ⟨.slice none 0 0, by rw [HJ0.out.1, HJ0.out.2]; exact hjb1.keep s5, fun g hg => by simp [Value.ownBlock] at hg⟩, by simp, by simp; omega, hb3, by omega, hn3, by omega, by omega, by omega, by omega, by omega⟩
  have HB3 := Lib.hid hb3
  have HNB := Lib.hid (show p9 + 1 < w3.heap.size ∧ p9 + 1 + 1 < w3.heap.size ∧ w.heap.size + 1 + 1 < jb ∧ jb < p9 ∧ p9 + 1 + 1 < Ba ∧ Ba < w3.heap.size from ⟨by omega, by omega, by omega, by omega, by omega, hn3⟩)
  have HI0 := Lib.hid HI0
  have HSEQ := Lib.hid (HS.out 7 (by omega) w3 (p9 + 1) (p9 + 1 + 1) Ba hb3 (by omega) (by omega) hn3 (by omega) s2 s3 s4)
  clear p1 p2 p3 hb1 hjl hjb1 s1 s2 s3 s4 s5 s6 k1 hb3 hn3 hw3 hp9 hBa hjbe q5
  refine wpIn_rangeFunc_exit (pxF oc) rfl (by omega) (gf := 64) (lb := #[.pointer (some ⟨p9 + 1, 0, none⟩), .pointer (some ⟨p9 + 1 + 1, 0, none⟩), .pointer (some ⟨Ba, 0, none⟩)]) rfl trivial (enters_of Tryz.func64 (by kernel_rfl) rfl)
    HNB.out.2.2.2.2.2 HSEQ.out (Below.refl _ _) (fun _ _ => rfl) (fun q => q == jb)
    ?ok KpI.trans KpI.of
    (FI w jb p9 Ba jo jh) (FX w Ba oc) (fun f s A B h hf => h.free hf HB3.out.size) (fun A B h hf => h.free hf HB3.out.size) (fun f k x A B h hf => h.free hf) ?kb ?start
    (fun _ k y a' W => ∃ bfx, Ba < bfx ∧ FO W bfx (fr k).1.kind (fr k).1.epoch (.slice y.1 (fr k).1.data.length y.2) ∧ a' = { tmps := #[.int .u64 x, .slice va m vc, .int .i64 p0, undef, undef, undef, .pointer (some ⟨w.heap.size, 0, none⟩), .pointer (some ⟨w.heap.size + 1, 0, none⟩), .pointer (some ⟨w.heap.size + 1 + 1, 0, none⟩), .pointer (some ⟨p9, 0, none⟩), .pointer (some ⟨bfx, 0, none⟩), .int .i64 (pl k + ((fr k).2 : Nat)), undef, undef, undef, .pointer (some ⟨jb, 0, none⟩), .int .u64 x, .slice va m vc, .int .i64 p0, .func (.func 64) #[] #[.pointer (some ⟨p9 + 1, 0, none⟩), .pointer (some ⟨p9 + 1 + 1, 0, none⟩), .pointer (some ⟨Ba, 0, none⟩)], .agg (fA (fr k).1.kind (fr k).1.epoch (.slice y.1 (fr k).1.data.length y.2)), .int .i64 (pl k + ((fr k).2 : Nat)), undef, undef, undef, undef, undef, undef, undef, undef, undef, undef, undef, undef], defers := [] })
    (fun _ k y a' A B h hf => by obtain ⟨bfx, h1, h2, h3⟩ := h; exact ⟨bfx, h1, hf.2 _ _ h2 rfl, h3⟩) ?assign ?body ?done ?stop
  case ok =>
    intro o o'
    refine ⟨fun q hq => ?_, ?_⟩
    · simp only [beq_iff_eq] at hq
      have := HNB.out
      simp only [alloc_size]; omega
    · have := HNB.out
      simp only [beq_eq_false_iff_ne]; omega
  case kb =>
    intro f s W o o' h ho hc
    have hlt := (Array.getElem?_eq_some_iff.1 ho).1
    have hpf := Free.put (b := w.heap.size) o' (by have := HB3.out.size; omega) ho hc
    exact ⟨hpf.1.size, fun _ => hpf.1, fun i c _ hi hcc => hpf.2 i c hi hcc, fun hf => hf.mono hpf.1.size, fun _ _ => rfl⟩
  case start =>
    intro o o'
    exact HI0.out.free (.of (Free.of (bch (balloc w3 o) (balloc _ o')) (Nat.le_refl _))) HB3.out.size
  case assign =>
    rintro l f k ⟨da, dc⟩ W K hI ht hK
    simp only [encG]
    have hbl := hI.big
    generalize fr k = F at *
    obtain ⟨⟨fk, fe, fd⟩, m1⟩ := F
    obtain ⟨t, ht⟩ : ∃ t, pl k + (m1 : Nat) = t := ⟨_, rfl⟩
    simp only [ht]
    gi_wp2_with (refine wplIn_store_row rfl 82 _ _ rfl W.heap.size (fA fk fe (.slice da fd.length dc)) rfl rfl _ _ (heap_alloc_last W _) (fr_info _ rfl) rfl (fr_one _ _ _ _ _) ?_)
    subst ht
    exact hK _ _ (bnew W _ _) ⟨W.heap.size, hbl, setRow_heap _ _ _ _ _ _ (heap_alloc_last W _), rfl⟩
  case body =>
    rintro l f k ⟨da, dc⟩ a' W hD hL hI ht ⟨bfx, hBx, hM, rfl⟩ hkN
    obtain ⟨v, hj, hv⟩ := hI.j
    obtain ⟨base, hown, hbase⟩ := ht
    have HFD0 : Calls Tryz.prog 39 #[.pointer (some ⟨jb, 0, none⟩), .agg (fA (fr k).1.kind (fr k).1.epoch (.slice da (fr k).1.data.length dc))] W fun e w' =>
        ∃ u v', e = .returned (.tuple #[u, .bool (jEnds (jo k) (jh k) (fr k).1.kind (fr k).1.data), .int .i64 (jErr (jo k) (jh k) (fr k).1.kind (fr k).1.data)]) ∧ JB w' w.heap.size jb (jGoes (jo k) (jh k) (fr k).1.kind (fr k).1.data) v' (jHad (jo k) (jh k) (fr k).1.kind (fr k).1.data) ∧
          w'.ownsRow w.heap.size 5 1 u (jTell (jo k) (jh k) (fr k).1.kind (fr k).1.data).length (il .u8 (jTell (jo k) (jh k) (fr k).1.kind (fr k).1.data)) ∧ Lies W v u ∧ Lies W v v' ∧ Oth W w' jb v :=
      feed_own w (jo k) jb v (jh k) (fr k).1.kind (fr k).1.epoch (.slice da (fr k).1.data.length dc) (fr k).1.data.length (fr k).1.data W hI.below hj fun w' hk => RI.own (own_oth hj hk hown (by decide) fun g hg => hbase g (hv g hg))
    have c9 := cell1 hI.pj
    have HI := Lib.hid hI
    have HM := Lib.hid hM
    have HJ := Lib.hid (show JB W w.heap.size jb (jo k) v (jh k) ∧ (∀ g, v.ownBlock = some g → f g = true) from ⟨hj, hv⟩)
    have HD := Lib.hid hD
    have HL := Lib.hid hL
    have HJK := Lib.hid (HJN.out k)
    have HEK := Lib.hid HEN.out
    have HKN : Hid (k < numG k0 st) := Lib.hid hkN
    clear hj hv hown hbase hI hM hD hL hkN
    by_cases hlt : k < k0
    · have hbad : badG k0 st k = false := by unfold badG; rw [decide_eq_false (by omega)]; rfl
      obtain ⟨h1, h2, h3, h4⟩ := HJK.out hlt
      rw [h1, h2, ← h3, ← h4] at HFD0
      have HFD := Lib.hid HFD0
      rw [hbad]
      clear HFD0 h1 h2 h3 h4 hbad
      generalize (fr k).1.kind = fk at *
      generalize (fr k).1.epoch = fe at *
      generalize (fr k).1.data = fd at *
      gi_wp2_with (first
        | (refine wplIn_load_row rfl 82 _ rfl bfx rfl HM.out.load ?_)
        | (refine ⟨trivial, ?_⟩; gi_at_call 39; refine (CallsIn.inRound l (callsIn_wide.2 HFD.out)).mono ?_; rintro e W2 ⟨u, v', rfl, hj2, hu2, hl2, hl3, ho2⟩; have HF2 := Lib.hid (HI.out.fed HJ.out.1 HJ.out.2 ho2 hj2 hl3); have HO2 := Lib.hid ho2; clear hj2 hu2 hl2 hl3 ho2))
      obtain ⟨f', hk2, hi2⟩ := HF2.out
      exact ⟨rfl, f', noc_oth HD.out HJ.out.1 HO2.out, noc_oth HL.out HJ.out.1 HO2.out, hk2, hi2⟩
    · have hk0 : k = k0 ∧ st = false := by
        have := HKN.out
        unfold numG at this
        cases st with
        | false => exact ⟨by rw [if_neg (by decide)] at this; omega, rfl⟩
        | true => rw [if_pos rfl] at this; omega
      obtain ⟨rfl, hst⟩ := hk0
      have hbad : badG k st k = true := by unfold badG; rw [hst]; simp
      rw [hbad]
      obtain ⟨e1, e2, e3, e4, e5⟩ := HI.out.ne
      rcases HEK.out hst with ⟨h1, rfl⟩ | ⟨h1, h2, en, h3, rfl⟩
      · generalize jErr (jo k) (jh k) (fr k).1.kind (fr k).1.data = er at *
        have hx1 : (er == 0) = false := by simpa using h1
        generalize jEnds (jo k) (jh k) (fr k).1.kind (fr k).1.data = ed at *
        generalize jGoes (jo k) (jh k) (fr k).1.kind (fr k).1.data = eg at *
        generalize jHad (jo k) (jh k) (fr k).1.kind (fr k).1.data = eh at *
        generalize jTell (jo k) (jh k) (fr k).1.kind (fr k).1.data = et at *
        have HFD := Lib.hid HFD0
        clear HFD0 hbad hlt hst
        generalize (fr k).1.kind = fk at *
        generalize (fr k).1.epoch = fe at *
        generalize (fr k).1.data = fd at *
        gi_wp2_with (first
          | (refine wplIn_load_row rfl 82 _ rfl bfx rfl HM.out.load ?_)
          | (refine ⟨trivial, ?_⟩; gi_at_call 39; refine (CallsIn.inRound l (callsIn_wide.2 HFD.out)).mono ?_; rintro e W2 ⟨u, v', rfl, hj2, hu2, hl2, hl3, ho2⟩; have HO2 := Lib.hid ho2; clear hj2 hu2 hl2 hl3 ho2))
        have hj := HJ.out.1
        have hk := HO2.out
        exact ⟨rfl, rfl, noc_oth HD.out hj hk, noc_oth HL.out hj hk, ⟨⟨hj.oth_blk hk HI.out.r1 (by decide) (by decide), hj.oth_blk hk HI.out.r2 (by decide) (by decide), hj.oth_blk hk HI.out.r3 (by decide) (by decide)⟩, HI.out.below.trans (hj.below hk), HI.out.ba, e1, e2, e3⟩⟩
      · rw [h1, h2] at HFD0
        generalize jGoes (jo k) (jh k) (fr k).1.kind (fr k).1.data = eg at *
        generalize jHad (jo k) (jh k) (fr k).1.kind (fr k).1.data = eh at *
        generalize jTell (jo k) (jh k) (fr k).1.kind (fr k).1.data = et at *
        have HFD := Lib.hid HFD0
        rw [h3]
        have HH3 := Lib.hid h3
        clear HFD0 hbad hlt hst h1 h2 h3
        generalize (fr k).1.kind = fk at *
        generalize (fr k).1.epoch = fe at *
        generalize (fr k).1.data = fd at *
        gi_wp2_with (first
          | (refine wplIn_load_row rfl 82 _ rfl bfx rfl HM.out.load ?_)
          | (refine ⟨trivial, ?_⟩; gi_at_call 39; refine (CallsIn.inRound l (callsIn_wide.2 HFD.out)).mono ?_; rintro e W2 ⟨u, v', rfl, hj2, hu2, hl2, hl3, ho2⟩; obtain ⟨ua, uc, rfl⟩ := own_form hu2; have HU2 := Lib.hid (show W2.ownsRow w.heap.size 5 1 (.slice ua et.length uc) et.length (il .u8 et) ∧ Lies W v (.slice ua et.length uc) from ⟨hu2, hl2⟩); have HO2 := Lib.hid ho2; have HJ2 := Lib.hid hj2; have R1 := Lib.hid (HJ.out.1.oth_blk ho2 HI.out.r1 (by decide) (by decide)); have R2 := Lib.hid (HJ.out.1.oth_blk ho2 HI.out.r2 (by decide) (by decide)); have R3 := Lib.hid (HJ.out.1.oth_blk ho2 HI.out.r3 (by decide) (by decide)); have c1 := cell1 R1.out; have c2 := cell1 R2.out; have c3 := cell1 R3.out; have f1 := frozen1 R1.out; have f2 := frozen1 R2.out; have f3 := frozen1 R3.out; clear hj2 hu2 hl2 hl3 ho2))
        have hj := HJ.out.1
        have hk := HO2.out
        have hD2 : NoC W2 w3.heap.size := by obtain ⟨o, ho, hc⟩ := HD.out; exact ⟨o, (noc_oth HD.out hj hk).trans ho, hc⟩
        have hL2 : NoC W2 (w3.heap.size + 1) := by obtain ⟨o, ho, hc⟩ := HL.out; exact ⟨o, (noc_oth HL.out hj hk).trans ho, hc⟩
        have hu := HU2.out.1
        have hne : ∀ g, (Value.slice ua et.length uc).ownBlock = some g → g ≠ w.heap.size ∧ g ≠ w.heap.size + 1 ∧ g ≠ w.heap.size + 1 + 1 ∧ g ≠ Ba := fun g hg => by
          have hcur : ∃ cur : Array Value, W2.heap[g]? = some (.cells cur 5 (0, 0)) := by
            rcases hu.2 with ⟨h, _⟩ | ⟨g', cap, cur, h, _, hcur, _⟩
            · rw [h] at hg; simp [Value.ownBlock] at hg
            · rw [h] at hg; simp only [Value.ownBlock, Option.some.injEq] at hg; subst hg; exact ⟨cur, hcur⟩
          obtain ⟨cur, hcur⟩ := hcur
          refine ⟨fun e => ?_, fun e => ?_, fun e => ?_, fun e => ?_⟩
          · rw [e, R1.out] at hcur; simp only [Option.some.injEq, Obj.cells.injEq] at hcur; exact absurd hcur.2.1 (by decide)
          · rw [e, R2.out] at hcur; simp only [Option.some.injEq, Obj.cells.injEq] at hcur; exact absurd hcur.2.1 (by decide)
          · rw [e, R3.out] at hcur; simp only [Option.some.injEq, Obj.cells.injEq] at hcur; exact absurd hcur.2.1 (by decide)
          · subst e
            rcases HU2.out.2 g hg with h1 | h1
            · have := HJ.out.2 g h1.symm
              rw [HI.out.fa] at this; cases this
            · have := HI.out.big; omega
        refine ⟨rfl, rfl, ?_, ?_, ?_⟩
        · rw [set_other (hD2.ne R3.out), set_other (hD2.ne R2.out), set_other (hD2.ne R1.out)]; exact noc_oth HD.out hj hk
        · rw [set_other (hL2.ne R3.out), set_other (hL2.ne R2.out), set_other (hL2.ne R1.out)]; exact noc_oth HL.out hj hk
        · refine ⟨⟨ua, uc, ?_, ?_, ?_, ?_, fun g hg => (hne g hg).2.2.2⟩, ?_, HI.out.ba, e1, e2, e3⟩
          · rw [set_other (by omega), set_other (by omega)]; exact set1 R1.out _
          · rw [set_other (by omega)]; exact set1 (by rw [set_other (by omega)]; exact R2.out) _
          · exact set1 (by rw [set_other (by omega), set_other (by omega)]; exact R3.out) _
          · refine own_over (own_over (own_over hu (grownBy_setCell' _ _ _) fun g hg e => ?_) (grownBy_setCell' _ _ _) fun g hg e => ?_) (grownBy_setCell' _ _ _) fun g hg e => ?_
            · exact (hne g hg).1 (Option.some.inj e)
            · exact (hne g hg).2.1 (Option.some.inj e)
            · exact (hne g hg).2.2.1 (Option.some.inj e)
          · exact bset (bset (bset (HI.out.below.trans (hj.below hk)) (Nat.le_refl _) (Nat.le_refl _) 0 _) (by omega) (Nat.le_refl _) 0 _) (by omega) (Nat.le_refl _) 0 _
  case stop =>
    intro W hB hX hK
    have hbw := hX.below
    cases oc with
    | none =>
      obtain ⟨r1, r2, r3⟩ := hX.cells
      have c1 := cell1 r1
      have c2 := cell1 r2
      have c3 := cell1 r3
      have f1 := frozen1 r1
      have f2 := frozen1 r2
      have f3 := frozen1 r3
      show (Code.exit 0).wpIn _ _ _ _ _ _
      have hD : NoC W w3.heap.size := ⟨_, hK, rfl⟩
      gi_wp2
      obtain ⟨W5, hW5⟩ : ∃ q, ((W.setCell ⟨w.heap.size, 0, none⟩ (.slice none 0 0)).setCell ⟨w.heap.size + 1, 0, none⟩ (.int .i64 0)).setCell ⟨w.heap.size + 1 + 1, 0, none⟩ (.bool false) = q := ⟨_, rfl⟩
      rw [hW5]
      have hK5 : W5.heap[w3.heap.size]? = some (.deferred (some [])) := by rw [← hW5, set_other (hD.ne r3), set_other (hD.ne r2), set_other (hD.ne r1)]; exact hK
      have s1 : W5.heap[w.heap.size]? = some (.cells #[.slice none 0 0] 49 (0, 0)) := by rw [← hW5, set_other (by omega), set_other (by omega)]; exact set1 r1 _
      have s2 : W5.heap[w.heap.size + 1]? = some (.cells #[.int .i64 0] 3 (0, 0)) := by rw [← hW5, set_other (by omega)]; exact set1 (by rw [set_other (by omega)]; exact r2) _
      have s3 : W5.heap[w.heap.size + 1 + 1]? = some (.cells #[.bool false] 4 (0, 0)) := by rw [← hW5]; exact set1 (by rw [set_other (by omega), set_other (by omega)]; exact r3) _
      have hb5 : Below w.heap.size w W5 := by rw [← hW5]; exact bset (bset (bset hbw (Nat.le_refl _) (Nat.le_refl _) 0 _) (by omega) (Nat.le_refl _) 0 _) (by omega) (Nat.le_refl _) 0 _
      have hf := Free.put (b := w.heap.size) (.deferred none) HB3.out.size hK5 rfl
      have d1 := cell1 (hf.2 _ _ s1 rfl)
      have d2 := cell1 (hf.2 _ _ s2 rfl)
      have d3 := cell1 (hf.2 _ _ s3 rfl)
      refine ⟨by simp, .inl ⟨_, _, rfl, run_takeDeferred hK5, ?_⟩⟩
      refine ⟨.tuple #[.slice none 0 0, .int .i64 0, .bool false], ?_, ⟨hb5.trans hf.1, rfl⟩⟩
      simp [results, Tryz.f17, go_sem, d1, d2, d3]
    | some q =>
      obtain ⟨z, e⟩ := q
      obtain ⟨y, c, r1, r2, r3, hu, hn⟩ := hX.cells
      show Code.ret.wpIn _ _ _ _ _ _
      gi_wp2
      have hf := Free.put (b := w.heap.size) (.deferred none) HB3.out.size hK rfl
      have d1 := cell1 (hf.2 _ _ r1 rfl)
      have d2 := cell1 (hf.2 _ _ r2 rfl)
      have d3 := cell1 (hf.2 _ _ r3 rfl)
      refine ⟨by simp, .inl ⟨_, _, rfl, run_takeDeferred hK, ?_⟩⟩
      refine ⟨.tuple #[.slice y z.length c, .int .i64 (e : Nat), .bool true], ?_, ⟨hbw.trans hf.1, y, c, rfl, own_free' hu hf⟩⟩
      simp [results, Tryz.f17, go_sem, d1, d2, d3]
  case done =>
    intro f W hS hI hK
    have hbw := hI.below
    have hoc := HNO.out hS
    have r1 := hI.r1
    have r2 := hI.r2
    have r3 := hI.r3
    subst hoc
    focus
      have c1 := cell1 r1
      have c2 := cell1 r2
      have c3 := cell1 r3
      have f1 := frozen1 r1
      have f2 := frozen1 r2
      have f3 := frozen1 r3
      have hD : NoC W w3.heap.size := ⟨_, hK, rfl⟩
      gi_wp2
      obtain ⟨W5, hW5⟩ : ∃ q, ((W.setCell ⟨w.heap.size, 0, none⟩ (.slice none 0 0)).setCell ⟨w.heap.size + 1, 0, none⟩ (.int .i64 0)).setCell ⟨w.heap.size + 1 + 1, 0, none⟩ (.bool false) = q := ⟨_, rfl⟩
      rw [hW5]
      have hK5 : W5.heap[w3.heap.size]? = some (.deferred (some [])) := by rw [← hW5, set_other (hD.ne r3), set_other (hD.ne r2), set_other (hD.ne r1)]; exact hK
      have s1 : W5.heap[w.heap.size]? = some (.cells #[.slice none 0 0] 49 (0, 0)) := by rw [← hW5, set_other (by omega), set_other (by omega)]; exact set1 r1 _
      have s2 : W5.heap[w.heap.size + 1]? = some (.cells #[.int .i64 0] 3 (0, 0)) := by rw [← hW5, set_other (by omega)]; exact set1 (by rw [set_other (by omega)]; exact r2) _
      have s3 : W5.heap[w.heap.size + 1 + 1]? = some (.cells #[.bool false] 4 (0, 0)) := by rw [← hW5]; exact set1 (by rw [set_other (by omega), set_other (by omega)]; exact r3) _
      have hb5 : Below w.heap.size w W5 := by rw [← hW5]; exact bset (bset (bset hbw (Nat.le_refl _) (Nat.le_refl _) 0 _) (by omega) (Nat.le_refl _) 0 _) (by omega) (Nat.le_refl _) 0 _
      have hf := Free.put (b := w.heap.size) (.deferred none) HB3.out.size hK5 rfl
      have d1 := cell1 (hf.2 _ _ s1 rfl)
      have d2 := cell1 (hf.2 _ _ s2 rfl)
      have d3 := cell1 (hf.2 _ _ s3 rfl)
      refine ⟨by simp, .inl ⟨_, _, rfl, run_takeDeferred hK5, ?_⟩⟩
      refine ⟨.tuple #[.slice none 0 0, .int .i64 0, .bool false], ?_, ⟨hb5.trans hf.1, rfl⟩⟩
      simp [results, Tryz.f17, go_sem, d1, d2, d3]
end Go.Proofs.YtnmplnemnfonfaaGreatDoor
namespace Go.Proofs.YtnmplnemnfonfaaGreatDoor
open Go.RowKit
theorem Tryz.info_sl : (Tryz.prog.info? 49).map (fun i => (i.zero, i.size, i.bytes)) = some (some (.slice none 0 0), 1, 24) := by kernel_rfl
structure SR (base : Nat) (w : World) (v : Value) (m : Nat) (es : List (List Int × Value)) (bl : Value) : Prop where
  row : w.ownsRow base 49 1 v m (es.map Prod.snd)
  data : ∀ e ∈ es, w.ownsRow base 5 1 e.2 e.1.length (il .u8 e.1)
  apart : ∀ e ∈ es, ∀ g, e.2.ownBlock = some g → some g ≠ bl.ownBlock
section
variable {base jb : Nat} {w w' : World} {v v' bl bl' hv hv' : Value} {m : Nat} {es : List (List Int × Value)} {o : Bool} {h : List Int}
theorem SR.len (r : SR base w v m es bl) : es.length = m := by have := r.row.1; simpa using this
theorem SR.nil (base : Nat) (w : World) (bl : Value) : SR base w (.slice none 0 0) 0 [] bl := ⟨World.ownsRow_nil _ _ _ _, fun e he => by simp at he, fun e he => by simp at he⟩
theorem SR.keep (r : SR base w v m es bl) (hb : Below w.heap.size w w') : SR base w' v m es bl := ⟨own_keep r.row hb, fun e he => own_keep (r.data e he) hb, r.apart⟩
theorem SR.rl (r : SR base w v m es bl) : RL .u8 w v m (es.map Prod.fst) := by
  have hl := r.len
  refine ⟨es.map Prod.snd, RV.own r.row, by simpa using hl, fun j e l he hl => ?_⟩
  have hj : j < es.length := by have := (List.getElem?_eq_some_iff.1 he).1; simpa using this
  simp [hj] at he hl
  subst he hl
  exact RI.own (r.data _ (List.getElem_mem hj))
theorem SR.feed (r : SR base w v m es hv) (j : JB w base jb o hv h) (k : Oth w w' jb hv) (l : Lies w hv hv') : SR base w' v m es hv' := by
  refine ⟨j.oth k r.row (by decide) (own_types r.row j.row (by decide)), fun e he => j.oth k (r.data e he) (by decide) (r.apart e he), fun e he g hg e2 => ?_⟩
  have h1 := ((r.data e he).lt g hg).2
  rcases l g e2.symm with h2 | h2
  · exact r.apart e he g hg h2
  · omega
theorem SR.snoc (r : SR base w v m es bl) (hg : w.grownBy w' v.ownBlock) (e : List Int × Value) (hd : w.ownsRow base 5 1 e.2 e.1.length (il .u8 e.1)) (ha : ∀ g, e.2.ownBlock = some g → some g ≠ bl.ownBlock)
    (ho : w'.ownsRow base 49 1 v' (m + 1) (es.map Prod.snd ++ [e.2])) : SR base w' v' (m + 1) (es ++ [e]) bl := by
  refine ⟨by rw [List.map_append]; exact ho, fun x hx => ?_, fun x hx => ?_⟩
  · rcases List.mem_append.1 hx with hx | hx
    · exact own_over (r.data x hx) hg (own_types (r.data x hx) r.row (by decide))
    · obtain rfl : x = e := by simpa using hx
      exact own_over hd hg (own_types hd r.row (by decide))
  · rcases List.mem_append.1 hx with hx | hx
    · exact r.apart x hx
    · obtain rfl : x = e := by simpa using hx
      exact ha
theorem SR.other (r : SR base w v m es bl) (hg : w.grownBy w' v.ownBlock) {t : TypeId} {k n base' : Nat} {u : Value} {xs : List Value} (ho : w.ownsRow base' t k u n xs) (ht : t ≠ 49) : w'.ownsRow base' t k u n xs :=
  own_over ho hg (own_types ho r.row ht)
theorem SR.blk (r : SR base w v m es bl) (hg : w.grownBy w' v.ownBlock) {g : Nat} {c : Array Value} {t : TypeId} (hk : w.heap[g]? = some (.cells c t (0, 0))) (ht : t ≠ 49) : w'.heap[g]? = some (.cells c t (0, 0)) := by
  refine (hg.block g (Array.getElem?_eq_some_iff.1 hk).1 (fun e => ?_)).trans hk
  rcases r.row.2 with ⟨rfl, _⟩ | ⟨q, cap, cur, rfl, _, hcur, _⟩
  · simp [Value.ownBlock] at e
  · simp only [Value.ownBlock, Option.some.injEq] at e
    subst e
    rw [hk] at hcur
    simp only [Option.some.injEq, Obj.cells.injEq] at hcur
    exact ht hcur.2.1
theorem SR.joiner (r : SR base w v m es bl) (hg : w.grownBy w' v.ownBlock) (j : JB w base jb o hv h) : JB w' base jb o hv h :=
  ⟨r.blk hg j.blk (by decide), r.other hg j.row (by decide), j.idle, j.few, j.low⟩
theorem wpl_app_sr {ops : Array Oper} {rest : List Oper} {o : Oper} {a : Act} {Q : Exit → Act → World → Prop} (hgd : o.guard = none) (s x : Operand)
    (ho : o.op = .call { callee := .builtin .append, args := #[s, x], argTypes := #[23, 23] }) (hs : a.eval s = v) (r : SR base w v m es bl)
    (g : Nat) (e : List Int × Value) (hx : a.eval x = .slice (some ⟨g, 0, none⟩) 1 1) (hblk : w.heap[g]? = some (.cells #[e.2] 49 (0, 0)))
    (hd : w.ownsRow base 5 1 e.2 e.1.length (il .u8 e.1)) (ha : ∀ g, e.2.ownBlock = some g → some g ≠ bl.ownBlock) (hm : m ≤ 1000000) (hbase : base ≤ w.heap.size)
    (hq : ∀ v' w', Hid (SR base w' v' (m + 1) (es ++ [e]) bl) → Hid (w.grownBy w' v.ownBlock) → wpList Tryz.prog ops Q rest (a.put o.dst v') w') : wpList Tryz.prog ops Q (o :: rest) a w := by
  obtain ⟨i, hi, hz0, hz1, hz2⟩ := info_parts Tryz.info_sl
  obtain ⟨p, c, hv⟩ := own_form hd
  refine wpList_append_own_wide w hgd s x 23 ho base 49 i (.slice none 0 0) 1 24 Tryz.underlying23 hi hz0 hz1 hz2 rfl (by omega) v m (es.map Prod.snd) hs r.row ⟨g, 0, none⟩ 1 1 [e.2] hx rfl ?_ (by simp [Value.oneCell', hv]) (by unfold maxLen; omega) (by omega) hbase ?_
  · intro j u hj
    match j, hj with
    | 0, hj => simp at hj; subst hj; simpa [Addr.add] using cell_of_row w g 0 _ _ _ hblk
  · intro v' w' ho' hg _
    exact hq v' w' (r.snoc hg e hd ha ho') hg
end
end Go.Proofs.YtnmplnemnfonfaaGreatDoor
namespace Go.Proofs.YtnmplnemnfonfaaGreatDoor
open Go.RowKit
abbrev sA (ep : Int) (bv kv : Value) (jb : Nat) (a b : Int) (rv pv : Value) (e k : Int) : Array Value :=
  #[.int .u32 ep, bv, kv, .pointer (some ⟨jb, 0, none⟩), .int .i64 a, .int .i64 b, rv, pv, .int .i64 e, .int .i64 k]
def SO (w : World) (sb : Nat) (ep : Int) (bv kv : Value) (jb : Nat) (a b : Int) (rv pv : Value) (e k : Int) : Prop := w.heap[sb]? = some (.cells (sA ep bv kv jb a b rv pv e k) 115 (0, 0))
section
variable {w w' : World} {sb jb : Nat} {ep a b e k : Int} {bv kv rv pv : Value}
theorem SO.lt (h : SO w sb ep bv kv jb a b rv pv e k) : sb < w.heap.size := (Array.getElem?_eq_some_iff.1 h).1
theorem SO.keep (h : SO w sb ep bv kv jb a b rv pv e k) (hb : Below w.heap.size w w') : SO w' sb ep bv kv jb a b rv pv e k := (hb.block sb h.lt).trans h
theorem SO.cells (h : SO w sb ep bv kv jb a b rv pv e k) :
    w.cell? ⟨sb, 0, none⟩ = some (.int .u32 ep) ∧ w.cell? ⟨sb, 1, none⟩ = some bv ∧ w.cell? ⟨sb, 2, none⟩ = some kv ∧ w.cell? ⟨sb, 3, none⟩ = some (.pointer (some ⟨jb, 0, none⟩)) ∧ w.cell? ⟨sb, 4, none⟩ = some (.int .i64 a) ∧
      w.cell? ⟨sb, 5, none⟩ = some (.int .i64 b) ∧ w.cell? ⟨sb, 6, none⟩ = some rv ∧ w.cell? ⟨sb, 7, none⟩ = some pv ∧ w.cell? ⟨sb, 8, none⟩ = some (.int .i64 e) ∧ w.cell? ⟨sb, 9, none⟩ = some (.int .i64 k) :=
  ⟨cell_of_row w sb 0 _ _ _ h, cell_of_row w sb 1 _ _ _ h, cell_of_row w sb 2 _ _ _ h, cell_of_row w sb 3 _ _ _ h, cell_of_row w sb 4 _ _ _ h, cell_of_row w sb 5 _ _ _ h, cell_of_row w sb 6 _ _ _ h, cell_of_row w sb 7 _ _ _ h, cell_of_row w sb 8 _ _ _ h, cell_of_row w sb 9 _ _ _ h⟩
theorem SO.frozen (h : SO w sb ep bv kv jb a b rv pv e k) (j : Nat) : w.frozen? ⟨sb, j, none⟩ = false := Joins.unfrozen_of_block h j
theorem SO.set4 (h : SO w sb ep bv kv jb a b rv pv e k) (x : Int) : SO (w.setCell ⟨sb, 4, none⟩ (.int .i64 x)) sb ep bv kv jb x b rv pv e k := Joins.block_setCell h _
theorem SO.set5 (h : SO w sb ep bv kv jb a b rv pv e k) (x : Int) : SO (w.setCell ⟨sb, 5, none⟩ (.int .i64 x)) sb ep bv kv jb a x rv pv e k := Joins.block_setCell h _
theorem SO.set6 (h : SO w sb ep bv kv jb a b rv pv e k) (x : Value) : SO (w.setCell ⟨sb, 6, none⟩ x) sb ep bv kv jb a b x pv e k := Joins.block_setCell h _
theorem SO.set7 (h : SO w sb ep bv kv jb a b rv pv e k) (x : Value) : SO (w.setCell ⟨sb, 7, none⟩ x) sb ep bv kv jb a b rv x e k := Joins.block_setCell h _
theorem SO.set8 (h : SO w sb ep bv kv jb a b rv pv e k) (x : Int) : SO (w.setCell ⟨sb, 8, none⟩ (.int .i64 x)) sb ep bv kv jb a b rv pv x k := Joins.block_setCell h _
theorem SO.set9 (h : SO w sb ep bv kv jb a b rv pv e k) (x : Int) : SO (w.setCell ⟨sb, 9, none⟩ (.int .i64 x)) sb ep bv kv jb a b rv pv e x := Joins.block_setCell h _
theorem SO.ne_own (h : SO w sb ep bv kv jb a b rv pv e k) {base n c : Nat} {t : TypeId} {u : Value} {xs : List Value} (ho : w.ownsRow base t c u n xs) (ht : t ≠ 115) : ∀ q, u.ownBlock = some q → q ≠ sb := by
  rintro q hq rfl
  rcases ho.2 with ⟨rfl, _⟩ | ⟨q', cap, cur, rfl, _, hcur, _⟩
  · simp [Value.ownBlock] at hq
  · simp only [Value.ownBlock, Option.some.injEq] at hq
    subst hq
    unfold SO at h
    rw [h] at hcur
    simp only [Option.some.injEq, Obj.cells.injEq] at hcur
    exact ht hcur.2.1.symm
theorem SO.grown (h : SO w sb ep bv kv jb a b rv pv e k) {base n c : Nat} {t : TypeId} {u : Value} {xs : List Value} (ho : w.ownsRow base t c u n xs) (ht : t ≠ 115) (hg : w.grownBy w' u.ownBlock) : SO w' sb ep bv kv jb a b rv pv e k :=
  (hg.block sb h.lt (fun q => h.ne_own ho ht sb q.symm rfl)).trans h
theorem grown_store (w : World) (g j : Nat) (v : Value) : w.grownBy (w.setCell ⟨g, j, none⟩ v) (some g) :=
  ⟨rfl, rfl, rfl, by simp, fun i _ hne => heap_setCell_other w ⟨g, j, none⟩ i v (fun e => hne (by rw [e]))⟩
end
structure SC (W w : World) (sb jb : Nat) (ep : Int) (bv kv : Value) (a b e : Nat) (o : Bool) (h : List Int) (hv rv : Value) (es : List (List Int × Value)) (pv : Value) (ps : List Int) : Prop where
  blk : SO w sb ep bv kv jb a b rv pv e 0
  low : W.heap.size ≤ sb
  jn : JB w W.heap.size jb o hv h
  recs : SR W.heap.size w rv es.length es hv
  places : w.ownsRow W.heap.size 3 1 pv ps.length (il .i64 ps)
  below : Below W.heap.size W w
section
variable {W w w' : World} {sb jb : Nat} {ep : Int} {bv kv : Value} {a b e : Nat} {o o' : Bool} {h h' : List Int} {hv hv' rv rv' pv pv' : Value} {es es' : List (List Int × Value)} {ps ps' : List Int}
theorem SC.keep (c : SC W w sb jb ep bv kv a b e o h hv rv es pv ps) (hb : Below w.heap.size w w') : SC W w' sb jb ep bv kv a b e o h hv rv es pv ps :=
  ⟨c.blk.keep hb, c.low, c.jn.keep hb, c.recs.keep hb, own_keep c.places hb, bch c.below hb⟩
theorem SC.feed (c : SC W w sb jb ep bv kv a b e o h hv rv es pv ps) (j : JB w' W.heap.size jb o' hv' h') (l : Lies w hv hv') (k : Oth w w' jb hv) : SC W w' sb jb ep bv kv a b e o' h' hv' rv es pv ps :=
  ⟨c.jn.oth_blk k c.blk (by decide) (by decide), c.low, j, c.recs.feed c.jn k l, c.jn.oth k c.places (by decide) (own_types c.places c.jn.row (by decide)), c.below.trans (c.jn.below k)⟩
theorem SC.turn (c : SC W w sb jb ep bv kv a b e o h hv rv es pv ps) (hg : w.grownBy w' (some sb)) {a' b' e' : Nat} (hs : SO w' sb ep bv kv jb a' b' rv pv e' 0) : SC W w' sb jb ep bv kv a' b' e' o h hv rv es pv ps := by
  have hne : ∀ {base n q : Nat} {t : TypeId} {u : Value} {xs : List Value}, w.ownsRow base t q u n xs → t ≠ 115 → w'.ownsRow base t q u n xs := fun ho ht =>
    own_over ho hg (fun q hq x => c.blk.ne_own ho ht q hq (Option.some.inj x))
  refine ⟨hs, c.low, ⟨(hg.block jb c.jn.blk.lt (fun x => ?_)).trans c.jn.blk, hne c.jn.row (by decide), c.jn.idle, c.jn.few, c.jn.low⟩, ⟨hne c.recs.row (by decide), fun x hx => hne (c.recs.data x hx) (by decide), c.recs.apart⟩, hne c.places (by decide), ?_⟩
  · exact c.jn.blk.ne c.blk (by decide) (Option.some.inj x).symm
  · exact c.below.grown hg c.below.size (fun q hq => by cases hq; exact c.low)
theorem SC.set4 (c : SC W w sb jb ep bv kv a b e o h hv rv es pv ps) (x : Nat) : SC W (w.setCell ⟨sb, 4, none⟩ (.int .i64 (x : Int))) sb jb ep bv kv x b e o h hv rv es pv ps := c.turn (grown_store _ _ _ _) (c.blk.set4 x)
theorem SC.set5 (c : SC W w sb jb ep bv kv a b e o h hv rv es pv ps) (x : Nat) : SC W (w.setCell ⟨sb, 5, none⟩ (.int .i64 (x : Int))) sb jb ep bv kv a x e o h hv rv es pv ps := c.turn (grown_store _ _ _ _) (c.blk.set5 x)
theorem SC.set8 (c : SC W w sb jb ep bv kv a b e o h hv rv es pv ps) (x : Nat) : SC W (w.setCell ⟨sb, 8, none⟩ (.int .i64 (x : Int))) sb jb ep bv kv a b x o h hv rv es pv ps := c.turn (grown_store _ _ _ _) (c.blk.set8 x)
theorem SC.more (c : SC W w sb jb ep bv kv a b e o h hv rv es pv ps) (hg : w.grownBy w' rv.ownBlock) (hr : SR W.heap.size w' rv' es'.length es' hv) : SC W (w'.setCell ⟨sb, 6, none⟩ rv') sb jb ep bv kv a b e o h hv rv' es' pv ps := by
  have hs : SO w' sb ep bv kv jb a b rv pv e 0 := c.blk.grown c.recs.row (by decide) hg
  have hj := c.recs.joiner hg c.jn
  have hp := c.recs.other hg c.places (by decide)
  have hb : Below W.heap.size W w' := c.below.grown hg c.below.size (fun q hq => (c.recs.row.lt q hq).1)
  have hg2 := grown_store w' sb 6 rv'
  have hne : ∀ {base n q : Nat} {t : TypeId} {u : Value} {xs : List Value}, w'.ownsRow base t q u n xs → t ≠ 115 → (w'.setCell ⟨sb, 6, none⟩ rv').ownsRow base t q u n xs := fun ho ht =>
    own_over ho hg2 (fun q hq x => hs.ne_own ho ht q hq (Option.some.inj x))
  exact ⟨hs.set6 rv', c.low, ⟨(hg2.block jb hj.blk.lt (fun x => hj.blk.ne hs (by decide) (Option.some.inj x).symm)).trans hj.blk, hne hj.row (by decide), hj.idle, hj.few, hj.low⟩, ⟨hne hr.row (by decide), fun x hx => hne (hr.data x hx) (by decide), hr.apart⟩, hne hp (by decide),
    hb.grown hg2 hb.size (fun q hq => by cases hq; exact c.low)⟩
theorem SC.more7 (c : SC W w sb jb ep bv kv a b e o h hv rv es pv ps) (hg : w.grownBy w' pv.ownBlock) (hp : w'.ownsRow W.heap.size 3 1 pv' ps'.length (il .i64 ps')) : SC W (w'.setCell ⟨sb, 7, none⟩ pv') sb jb ep bv kv a b e o h hv rv es pv' ps' := by
  have hs : SO w' sb ep bv kv jb a b rv pv e 0 := c.blk.grown c.places (by decide) hg
  have hne1 : ∀ {base n q : Nat} {t : TypeId} {u : Value} {xs : List Value}, w.ownsRow base t q u n xs → t ≠ 3 → w'.ownsRow base t q u n xs := fun ho ht => own_over ho hg (own_types ho c.places ht)
  have hjb : JO w' jb o hv := c.jn.blk.grown c.places (by decide) hg
  have hb : Below W.heap.size W w' := c.below.grown hg c.below.size (fun q hq => (c.places.lt q hq).1)
  have hg2 := grown_store w' sb 7 pv'
  have hne : ∀ {base n q : Nat} {t : TypeId} {u : Value} {xs : List Value}, w'.ownsRow base t q u n xs → t ≠ 115 → (w'.setCell ⟨sb, 7, none⟩ pv').ownsRow base t q u n xs := fun ho ht =>
    own_over ho hg2 (fun q hq x => hs.ne_own ho ht q hq (Option.some.inj x))
  exact ⟨hs.set7 pv', c.low, ⟨(hg2.block jb hjb.lt (fun x => hjb.ne hs (by decide) (Option.some.inj x).symm)).trans hjb, hne (hne1 c.jn.row (by decide)) (by decide), c.jn.idle, c.jn.few, c.jn.low⟩, ⟨hne (hne1 c.recs.row (by decide)) (by decide), fun x hx => hne (hne1 (c.recs.data x hx) (by decide)) (by decide), c.recs.apart⟩, hne hp (by decide),
    hb.grown hg2 hb.size (fun q hq => by cases hq; exact c.low)⟩
end
end Go.Proofs.YtnmplnemnfonfaaGreatDoor
namespace Go.Proofs.YtnmplnemnfonfaaGreatDoor
open Go.RowKit
set_option maxRecDepth 8000 in
set_option maxHeartbeats 1000000 in
theorem has_any {W w : World} {sb jb : Nat} {ep a0 b0 e0 k0 : Int} {bv kv rv pv : Value} {K : List Bool} (hs : SO w sb ep bv kv jb a0 b0 rv pv e0 k0) (hb : Below W.heap.size W w) (hk : BS W kv 16 K) (f n : Nat) (hf : f ≤ 832) (hn : n ≤ 100000) :
    Calls Tryz.prog 98 #[.pointer (some ⟨sb, 0, none⟩), .int .i64 f, .int .i64 n] w fun e w' => e = .returned (.bool (covAt K (f : Int) ((f + n : Nat) : Int))) ∧ Below w.heap.size w w' := by
  obtain ⟨_, _, z2, _⟩ := hs.cells
  obtain ⟨t, ht⟩ : ∃ t, f + n = t := ⟨_, rfl⟩
  have htI : (f : Int) + (n : Int) = (t : Int) := by omega
  have htb : (t : Int) ≤ 1000000 := by omega
  have HC : Hid (Calls Tryz.prog 89 #[kv, .int .i64 (f : Int), .int .i64 (t : Int)] w fun e w' => e = .returned (.bool (covAt K (f : Int) (t : Int))) ∧ Below w.heap.size w w') := Lib.hid (covered_any kv 16 K f t (by unfold I63; omega) (by unfold I63; omega) w (hk.kin (Kin.below hb)))
  rw [ht]
  clear hs hb hk ht hn
  go_enter Tryz.func98, Tryz.ntmps98
  go_wp2_with (first
    | (go_at_call 89; (with_reducible refine (HC.out).mono ?_); rintro e w1 ⟨rfl, hb⟩; have HB1 := Lib.hid hb; clear hb))
  go_ret
  exact ⟨rfl, HB1.out⟩
def FragT (ep : Int) (B : List Int) (K : List Bool) (a : Nat) (w : World) (r : Ending) (w' : World) : Prop :=
  Below w.heap.size w w' ∧ (((scF ep B K a).2 = 0 ∧ ∃ k e x n c m, r = .returned (.tuple #[.agg (fA k e (.slice x n c)), .int .i64 m, .bool false])) ∨
    ((scF ep B K a).2 ≠ 0 ∧ ∃ x c, r = .returned (.tuple #[.agg (fA (scF ep B K a).1.kind (scF ep B K a).1.epoch (.slice x (scF ep B K a).1.data.length c)), .int .i64 ((scF ep B K a).2 : Nat), .bool true]) ∧
      w'.ownsRow w.heap.size 5 1 (.slice x (scF ep B K a).1.data.length c) (scF ep B K a).1.data.length (il .u8 (scF ep B K a).1.data)))
set_option maxRecDepth 8000 in
set_option maxHeartbeats 4000000 in
theorem fragment_any {W w : World} {sb jb : Nat} {ep a0 b0 e0 k0 : Int} {bv kv rv pv : Value} {B : List Int} {K : List Bool} (hs : SO w sb ep bv kv jb a0 b0 rv pv e0 k0) (hb : Below W.heap.size W w) (hT : Tab W) (hB : B.length = 832) (hBb : isB B) (hbv : RI .u8 W bv 832 B) (hk : BS W kv 16 K) (a : Nat) (ha : a ≤ 832) :
    Calls Tryz.prog 75 #[.pointer (some ⟨sb, 0, none⟩), .int .i64 a] w (FragT ep B K a w) := by
  obtain ⟨wa, hwa⟩ : ∃ q, w.alloc (.cells (fA 0 0 (.slice none 0 0)) 82) = q := ⟨_, rfl⟩
  have HA : Hid (FO wa w.heap.size 0 0 (.slice none 0 0)) := Lib.hid (by rw [← hwa]; exact FO.alloc w)
  have hba : Below w.heap.size w wa := by rw [← hwa]; exact balloc w _
  have HBA := Lib.hid hba
  have HSA := Lib.hid (hs.keep hba)
  have hbw : Below W.heap.size W wa := bch hb hba
  have HB0 := Lib.hid hbw
  have HT := Lib.hid hT
  have HK := Lib.hid hk
  have HHAS : Hid (∀ (w : World) (n : Nat), SO w sb ep bv kv jb a0 b0 rv pv e0 k0 → Below W.heap.size W w → n ≤ 100000 → Calls Tryz.prog 98 #[.pointer (some ⟨sb, 0, none⟩), .int .i64 a, .int .i64 n] w fun e w' => e = .returned (.bool (covAt K (a : Int) ((a + n : Nat) : Int))) ∧ Below w.heap.size w w') := Lib.hid fun w n h1 h2 h3 => has_any h1 h2 hk a n ha h3
  by_cases h8 : a = 832
  · have HR := Lib.hid (scF_far (ep := ep) (B := B) (K := K) h8)
    have h8i : (a : Int) = 832 := by omega
    clear hs hb hT hBb hbv hk hba hbw h8 hB
    go_enter Tryz.func75, Tryz.ntmps75
    go_wp2_with (first
      | (rw [hwa])
      | (refine wpl_put_fr rfl (.tmp 4) (.tmp 18) rfl w.heap.size HA.out 0 0 none 0 0 rfl rfl ?_; intro wz HZ HGZ))
    refine bodyPost_ret_by (results_row_tmp2 rfl _ _ w.heap.size _ rfl HZ.out.load) rfl ?_
    exact ⟨below_over HBA.out HGZ.out (Nat.le_refl _) HBA.out.size, .inl ⟨by rw [HR.out], _, _, _, _, _, _, rfl⟩⟩
  have h8i : ¬ (a : Int) = 832 := by omega
  cases h11 : covAt K (a : Int) ((a + 11 : Nat) : Int) with
  | false =>
    have HR := Lib.hid (scF_head (ep := ep) (B := B) (K := K) h11)
    have HH : Hid (Calls Tryz.prog 98 #[.pointer (some ⟨sb, 0, none⟩), .int .i64 a, .int .i64 11] wa fun e w' => e = .returned (.bool false) ∧ Below wa.heap.size wa w') := Lib.hid (by
      have := HHAS.out wa 11 HSA.out hbw (by omega); rwa [h11] at this)
    clear hs hb hT hBb hbv hk hba hbw h8 hB h11
    go_enter Tryz.func75, Tryz.ntmps75
    go_wp2_with (first
      | (rw [hwa])
      | (go_at_call 98; (with_reducible refine (HH.out).mono ?_); rintro e w1 ⟨rfl, hb1⟩; have HA1 := Lib.hid (HA.out.keep hb1); have HB1 := Lib.hid (bch HBA.out hb1); clear hb1)
      | (refine wpl_put_fr rfl (.tmp 4) (.tmp 18) rfl w.heap.size HA1.out 0 0 none 0 0 rfl rfl ?_; intro wz HZ HGZ))
    refine bodyPost_ret_by (results_row_tmp2 rfl _ _ w.heap.size _ rfl HZ.out.load) rfl ?_
    exact ⟨below_over HB1.out HGZ.out (Nat.le_refl _) HB1.out.size, .inl ⟨by rw [HR.out], _, _, _, _, _, _, rfl⟩⟩
  | true =>
    have HH : Hid (Calls Tryz.prog 98 #[.pointer (some ⟨sb, 0, none⟩), .int .i64 a, .int .i64 11] wa fun e w' => e = .returned (.bool true) ∧ Below wa.heap.size wa w') := Lib.hid (by
      have := HHAS.out wa 11 HSA.out hbw (by omega); rwa [h11] at this)
    have hlt0 := hs.lt
    have hwz := hb.size
    obtain ⟨ba, bc, rfl, _, hbc, _⟩ := id hbv
    obtain ⟨l, hl⟩ : ∃ l, leftN a = l := ⟨_, rfl⟩
    have hla := left_le a ha
    rw [hl] at hla
    have hna : nr (a : Int) = a := nr_nat a ha
    have HLF : Hid (∀ w, Calls Tryz.prog 88 #[.int .i64 a] w fun e w' => e = .returned (.int .i64 (l : Int)) ∧ Below w.heap.size w w') := Lib.hid fun w => by
      have := left_any (a : Int) (by unfold I63; omega) w; rwa [hna, hl] at this
    obtain ⟨t, ht⟩ : ∃ t, a + l = t := ⟨_, rfl⟩
    have htI : (a : Int) + (l : Int) = (t : Int) := by omega
    have ht8 : (t : Int) ≤ 832 := by omega
    obtain ⟨q, qc, hq⟩ := sliced_form ba a l bc 1
    have HSL := Lib.hid hq
    have hcut : ∀ w, Below W.heap.size W w → RI .u8 w (.slice q l qc) l (bSl B a) := fun w h => by
      have := (hbv.keep h).cut a l bc (by omega) (by omega) (Nat.le_refl _)
      rw [hq] at this
      unfold bSl
      rw [hl]
      exact this
    have hbs : isB (bSl B a) := (hBb.drop _).take _
    have HDC : Hid (∀ w, Below W.heap.size W w → Calls Tryz.prog 87 #[.slice q l qc, .int .u32 ep] w (DecF (bSl B a) ep w)) := Lib.hid fun w h => fdec_any _ l _ ep w (hT.keep h) (hcut w h) hbs
    have HTL := Lib.hid ht
    have HWT : Hid (IntKind.i64.wrap (t : Int) = (t : Int)) := Lib.hid (wrap_id _ (by omega))
    have HBC : Hid (t ≤ bc) := Lib.hid (by omega)
    obtain ⟨f, m, x, hD⟩ : ∃ f m x, scD ep B a = (f, m, x) := ⟨_, _, _, rfl⟩
    have HDF : Hid (∀ w w' r, DecF (bSl B a) ep w r w' → ∃ p n c, r = .returned (.tuple #[.agg (fA f.kind f.epoch (.slice p n c)), .int .i64 (m : Nat), .int .i64 x]) ∧ w'.ownsRow w.heap.size 5 1 (.slice p n c) n (il .u8 f.data) ∧ Below w.heap.size w w') := Lib.hid fun w w' r h => by
      obtain ⟨p, n, c, h1, h2, h3⟩ := h
      rw [show fragD (bSl B a) ep = (f, m, x) from hD] at h1 h2
      exact ⟨p, n, c, h1, h2, h3⟩
    have HW0 : Hid (∀ w', Below wa.heap.size wa w' → Below W.heap.size W w' ∧ Below w.heap.size w w' ∧ FO w' w.heap.size 0 0 (.slice none 0 0) ∧ SO w' sb ep (.slice ba 832 bc) kv jb a0 b0 rv pv e0 k0) := Lib.hid fun w' h => ⟨bch HB0.out h, bch HBA.out h, HA.out.keep h, HSA.out.keep h⟩
    have hx : (x = 0 ∧ 11 ≤ m ∧ a + m ≤ 832 ∧ (∀ n, covAt K (a : Int) ((a + m : Nat) : Int) = n → if n = true then scF ep B K a = (f, m) else scF ep B K a = (noFr, 0))) ∨ (x ≠ 0 ∧ scF ep B K a = (noFr, 0)) := by
      by_cases h0 : x = 0
      · have h3 : (scD ep B a).2.2 = 0 := by rw [hD]; exact h0
        have hp := scD_parts hB ha h3
        rw [hD] at hp
        refine .inl ⟨h0, hp.1, hp.2.2.1, fun n hn => ?_⟩
        cases n with
        | true =>
          have := scF_yes h8 h11 h3 (by rw [hD]; exact hn)
          rw [hD] at this
          exact this
        | false => exact scF_cov (by rw [hD]; exact hn)
      · exact .inr ⟨h0, scF_err (by rw [hD]; exact h0)⟩
    obtain ⟨fk, fe, fd⟩ := f
    dsimp only at HDF
    obtain ⟨s0, s1, _⟩ := HSA.out.cells
    clear hs hb hT hBb hbv hk hba hbw h8 hB h11 hbc hl hla hna hq hcut hbs ht
    go_enter Tryz.func75, Tryz.ntmps75
    go_wp2_with (first
      | (rw [hwa])
      | (go_at_call 98; (with_reducible refine (HH.out).mono ?_); rintro e w1 ⟨rfl, hb1⟩; have HB1 := Lib.hid hb1; clear hb1))
    have HS3 : Hid (∀ w', Below wa.heap.size wa w' → w'.cell? ⟨sb, 0, none⟩ = some (.int .u32 ep) ∧ w'.cell? ⟨sb, 1, none⟩ = some (.slice ba 832 bc) ∧ Below wa.heap.size wa w') := Lib.hid fun w' h => by
      obtain ⟨q0, q1, _⟩ := (HW0.out w' h).2.2.2.cells
      exact ⟨q0, q1, h⟩
    clear s0 s1
    have HSW : Hid (sb < w.heap.size ∧ W.heap.size ≤ w.heap.size) := Lib.hid ⟨hlt0, hwz⟩
    have HWA : Hid (w.heap.size + 1 = wa.heap.size) := Lib.hid (by rw [← hwa, alloc_size])
    clear hwa hlt0 hwz
    go_wp2_with fail
    refine wp_region_held_drew (S := (fun w' => w'.cell? ⟨sb, 0, none⟩ = some (.int .u32 ep) ∧ w'.cell? ⟨sb, 1, none⟩ = some (.slice ba 832 bc) ∧ Below wa.heap.size wa w')) (by kernel_rfl) (HS3.out _ HB1.out.drew) (fun hS => ?_)
    refine rgw 0 ⟨some 20, .move (.tmp 0), 111, _, _, none⟩ hS ?_
    refine rgw 1 ⟨some 21, .nilCheck (.tmp 20), 0, _, _, none⟩ hS ?_
    refine rgw 2 ⟨some 22, .fieldAddr 115 (.tmp 21) 1, 0, _, _, none⟩ hS ?_
    refine rgw 3 ⟨some 23, .load 49 (.tmp 22), 49, _, _, none⟩ hS ?_
    refine rgw 4 ⟨some 24, .move (.tmp 1), 3, _, _, none⟩ hS ?_
    refine rgw 5 ⟨some 25, .move (.tmp 1), 3, _, _, none⟩ hS ?_
    refine rgw 6 ⟨some 26, .move (.tmp 1), 3, _, _, none⟩ hS ?_
    refine rgw 10 ⟨some 30, .move (.tmp 0), 111, _, _, none⟩ hS ?_
    refine rgw 11 ⟨some 31, .nilCheck (.tmp 30), 0, _, _, none⟩ hS ?_
    refine rgw 12 ⟨some 32, .fieldAddr 115 (.tmp 31) 0, 0, _, _, none⟩ hS ?_
    refine rgw 13 ⟨some 33, .load 80 (.tmp 32), 80, _, _, none⟩ hS ?_
    refine rg_both 7 19 ⟨some 27, .call { callee := .value (.func 88), args := #[.tmp 26], argTypes := #[3] }, 3, _, _, none⟩ ⟨some 7, .alloc 82, 0, _, _, none⟩ (by kernel_rfl) rfl rfl (fun K hK => ?_) (fun K hK => ?_)
    focus
      go_simp
      (go_at_call 88; (with_reducible refine (HLF.out _).mono ?_); rintro r w2 ⟨rfl, hb⟩; have hN := HS3.out _ (bch hS.2.2 hb); (try (have q := Lib.hid (HG.out.keep hb); clear HG; have HG := q; clear q)); clear hb)
      refine hK.out _ _ ?_ (fun hS1 => ?_)
      · (first | exact hN | exact hS)
      clear hK K hS; have hS := hS1; clear hS1
      (try simp only [rgp])
      refine rgw 8 ⟨some 28, .binOp .add 3 (.tmp 25) (.tmp 27) 3, 3, _, _, none⟩ hS ?_ (v := .int .i64 (t : Int)) (hy := by intro w hSw; (try dsimp only at hSw); have z := HWT.out; go_simp; (try exact z))
      refine rgw 9 ⟨some 29, .slice 49 (.tmp 23) (some (.tmp 24)) (some (.tmp 28)) none, 49, _, _, none⟩ hS ?_ (v := .slice q l qc) (hy := by intro w hSw; (try dsimp only at hSw); exact (exec_cut_lh (.tmp 23) (.tmp 24) (.tmp 28) rfl ba 832 bc a l rfl rfl (by rw [HTL.out]; rfl) (by rw [HTL.out]; exact HBC.out)).trans (by rw [HSL.out]))
      refine rg_both 14 19 ⟨some 34, .call { callee := .value (.func 87), args := #[.tmp 29, .tmp 33], argTypes := #[49, 80] }, 120, _, _, none⟩ ⟨some 7, .alloc 82, 0, _, _, none⟩ (by kernel_rfl) rfl rfl (fun K hK => ?_) (fun K hK => ?_)
      focus
        go_simp
        (go_at_call 87; (refine (HDC.out _ (bch HB0.out hS.2.2)).mono ?_); rintro r w4 hd; obtain ⟨p4, n4, c4, rfl, ho, hb⟩ := HDF.out _ _ _ hd; have hN := HS3.out _ (bch hS.2.2 hb); (try (have q := Lib.hid (HG.out.keep hb); clear HG; have HG := q; clear q)); have HO := Lib.hid (own_mono ho (show w.heap.size ≤ _ from Nat.le_trans (by have := HWA.out; omega) hS.2.2.size)); clear hb ho hd)
        refine hK.out _ _ ?_ (fun hS1 => ?_)
        · (first | exact hN | exact hS)
        clear hK K hS; have hS := hS1; clear hS1
        (try simp only [rgp])
        refine rgw 15 ⟨some 19, .move (.tmp 34), 120, _, _, none⟩ hS ?_
        refine rgw 16 ⟨some 35, .extract (.tmp 19) 0, 82, _, _, none⟩ hS ?_
        refine rgw 17 ⟨some 36, .extract (.tmp 19) 1, 3, _, _, none⟩ hS ?_
        refine rgw 18 ⟨some 37, .extract (.tmp 19) 2, 36, _, _, none⟩ hS ?_
        refine rg_one 19 ⟨some 7, .alloc 82, 0, _, _, none⟩ (by kernel_rfl) rfl (fun K hK => ?_)
        rw [if_pos (by rfl)]; refine wp_new_fr rfl ?_; intro g w5 HG hgl hb; have hN := HS3.out _ (bch hS.2.2 hb.out); (try (have q := Lib.hid (own_keep HO.out hb.out); clear HO; have HO := q; clear q)); have HGL := Lib.hid (Nat.le_trans hS.2.2.size hgl.out); clear hgl hb
        refine hK.out _ _ ?_ (fun hS1 => ?_)
        · (first | exact hN | exact hS)
        clear hK K hS; have hS := hS1; clear hS1
        (try simp only [rgp])
      rotate_left
      focus
        rw [if_pos (by rfl)]; refine wp_new_fr rfl ?_; intro g w5 HG hgl hb; have hN := HS3.out _ (bch hS.2.2 hb.out); (try (have q := Lib.hid (own_keep HO.out hb.out); clear HO; have HO := q; clear q)); have HGL := Lib.hid (Nat.le_trans hS.2.2.size hgl.out); clear hgl hb
        refine hK.out _ _ ?_ (fun hS1 => ?_)
        · (first | exact hN | exact hS)
        clear hK K hS; have hS := hS1; clear hS1
        (try simp only [rgp])
        refine rg_one 14 ⟨some 34, .call { callee := .value (.func 87), args := #[.tmp 29, .tmp 33], argTypes := #[49, 80] }, 120, _, _, none⟩ (by kernel_rfl) rfl (fun K hK => ?_)
        go_simp
        (go_at_call 87; (refine (HDC.out _ (bch HB0.out hS.2.2)).mono ?_); rintro r w4 hd; obtain ⟨p4, n4, c4, rfl, ho, hb⟩ := HDF.out _ _ _ hd; have hN := HS3.out _ (bch hS.2.2 hb); (try (have q := Lib.hid (HG.out.keep hb); clear HG; have HG := q; clear q)); have HO := Lib.hid (own_mono ho (show w.heap.size ≤ _ from Nat.le_trans (by have := HWA.out; omega) hS.2.2.size)); clear hb ho hd)
        refine hK.out _ _ ?_ (fun hS1 => ?_)
        · (first | exact hN | exact hS)
        clear hK K hS; have hS := hS1; clear hS1
        (try simp only [rgp])
        refine rgw 15 ⟨some 19, .move (.tmp 34), 120, _, _, none⟩ hS ?_
        refine rgw 16 ⟨some 35, .extract (.tmp 19) 0, 82, _, _, none⟩ hS ?_
        refine rgw 17 ⟨some 36, .extract (.tmp 19) 1, 3, _, _, none⟩ hS ?_
        refine rgw 18 ⟨some 37, .extract (.tmp 19) 2, 36, _, _, none⟩ hS ?_
      rotate_left
    rotate_left 2
    focus
      rw [if_pos (by rfl)]; refine wp_new_fr rfl ?_; intro g w5 HG hgl hb; have hN := HS3.out _ (bch hS.2.2 hb.out); (try (have q := Lib.hid (own_keep HO.out hb.out); clear HO; have HO := q; clear q)); have HGL := Lib.hid (Nat.le_trans hS.2.2.size hgl.out); clear hgl hb
      refine hK.out _ _ ?_ (fun hS1 => ?_)
      · (first | exact hN | exact hS)
      clear hK K hS; have hS := hS1; clear hS1
      (try simp only [rgp])
      refine rg_one 7 ⟨some 27, .call { callee := .value (.func 88), args := #[.tmp 26], argTypes := #[3] }, 3, _, _, none⟩ (by kernel_rfl) rfl (fun K hK => ?_)
      go_simp
      (go_at_call 88; (with_reducible refine (HLF.out _).mono ?_); rintro r w2 ⟨rfl, hb⟩; have hN := HS3.out _ (bch hS.2.2 hb); (try (have q := Lib.hid (HG.out.keep hb); clear HG; have HG := q; clear q)); clear hb)
      refine hK.out _ _ ?_ (fun hS1 => ?_)
      · (first | exact hN | exact hS)
      clear hK K hS; have hS := hS1; clear hS1
      (try simp only [rgp])
      refine rgw 8 ⟨some 28, .binOp .add 3 (.tmp 25) (.tmp 27) 3, 3, _, _, none⟩ hS ?_ (v := .int .i64 (t : Int)) (hy := by intro w hSw; (try dsimp only at hSw); have z := HWT.out; go_simp; (try exact z))
      refine rgw 9 ⟨some 29, .slice 49 (.tmp 23) (some (.tmp 24)) (some (.tmp 28)) none, 49, _, _, none⟩ hS ?_ (v := .slice q l qc) (hy := by intro w hSw; (try dsimp only at hSw); exact (exec_cut_lh (.tmp 23) (.tmp 24) (.tmp 28) rfl ba 832 bc a l rfl rfl (by rw [HTL.out]; rfl) (by rw [HTL.out]; exact HBC.out)).trans (by rw [HSL.out]))
      refine rg_one 14 ⟨some 34, .call { callee := .value (.func 87), args := #[.tmp 29, .tmp 33], argTypes := #[49, 80] }, 120, _, _, none⟩ (by kernel_rfl) rfl (fun K hK => ?_)
      go_simp
      (go_at_call 87; (refine (HDC.out _ (bch HB0.out hS.2.2)).mono ?_); rintro r w4 hd; obtain ⟨p4, n4, c4, rfl, ho, hb⟩ := HDF.out _ _ _ hd; have hN := HS3.out _ (bch hS.2.2 hb); (try (have q := Lib.hid (HG.out.keep hb); clear HG; have HG := q; clear q)); have HO := Lib.hid (own_mono ho (show w.heap.size ≤ _ from Nat.le_trans (by have := HWA.out; omega) hS.2.2.size)); clear hb ho hd)
      refine hK.out _ _ ?_ (fun hS1 => ?_)
      · (first | exact hN | exact hS)
      clear hK K hS; have hS := hS1; clear hS1
      (try simp only [rgp])
      refine rgw 15 ⟨some 19, .move (.tmp 34), 120, _, _, none⟩ hS ?_
      refine rgw 16 ⟨some 35, .extract (.tmp 19) 0, 82, _, _, none⟩ hS ?_
      refine rgw 17 ⟨some 36, .extract (.tmp 19) 1, 3, _, _, none⟩ hS ?_
      refine rgw 18 ⟨some 37, .extract (.tmp 19) 2, 36, _, _, none⟩ hS ?_
    rotate_left
    all_goals
      refine rg_one 20 ⟨none, .store 82 (.tmp 7) (.tmp 35), 0, _, _, none⟩ (by kernel_rfl) rfl (fun K hK => ?_)
      rw [if_pos (by rfl)]; refine wp_put_fr (.tmp 7) (.tmp 35) rfl g HG.out fk fe p4 n4 c4 rfl rfl ?_; intro w6 HF6 HG6; have HO6 := Lib.hid (own_over HO.out HG6.out (fun q hq e => HG.out.ne_own HO.out q hq (Option.some.inj e))); have hN := HS3.out _ (below_over hS.2.2 HG6.out HGL.out hS.2.2.size); clear HG HO HG6
      refine hK.out _ _ ?_ (fun hS1 => ?_)
      · (first | exact hN | exact hS)
      clear hK K hS; have hS := hS1; clear hS1
      (try simp only [Act.put])
      refine rgw 21 ⟨some 8, .assign (.tmp 36), 3, _, _, none⟩ hS ?_
      refine rgw 22 ⟨some 9, .assign (.tmp 37), 36, _, _, none⟩ hS ?_
      refine wpAnyH_done (by kernel_rfl) ?_ _
      have HB6 := Lib.hid hS.2.2
      clear hS
      (try clear hN)
      have HW6 := Lib.hid (HW0.out _ HB6.out)
      have HGN := Lib.hid (show w.heap.size ≠ g from by have := HGL.out; have := HWA.out; omega)
      have HA7 := Lib.hid (HW6.out.2.2.1.keep (Below.refl _ w6).drew)
      have HO7 := Lib.hid (own_keep HO6.out (Below.refl _ w6).drew)
      have HST : Hid (Below w.heap.size w w6.drew ∧ Below W.heap.size W w6.drew ∧ SO w6.drew sb ep (.slice ba 832 bc) kv jb a0 b0 rv pv e0 k0 ∧ FO w6.drew g fk fe (.slice p4 n4 c4)) := Lib.hid ⟨HW6.out.2.1.drew, HW6.out.1.drew, HW6.out.2.2.2.keep (Below.refl _ w6).drew, HF6.out.keep (Below.refl _ w6).drew⟩
      rcases hx with ⟨rfl, hm1, hm2, hyes⟩ | ⟨hx0, hno⟩
      · obtain ⟨y, hy⟩ : ∃ y, covAt K (a : Int) ((a + m : Nat) : Int) = y := ⟨_, rfl⟩
        have HY := Lib.hid (hyes y hy)
        have HH2 : Hid (∀ w, SO w sb ep (.slice ba 832 bc) kv jb a0 b0 rv pv e0 k0 → Below W.heap.size W w → Calls Tryz.prog 98 #[.pointer (some ⟨sb, 0, none⟩), .int .i64 a, .int .i64 m] w fun e w' => e = .returned (.bool y) ∧ Below w.heap.size w w') := Lib.hid fun w h1 h2 => by
          have := HHAS.out w m h1 h2 (by omega); rwa [hy] at this
        clear hyes hy
        go_wp2_with fail
        refine wp_region_held_drew (S := (fun w' => Below w.heap.size w w' ∧ Below W.heap.size W w' ∧ SO w' sb ep (.slice ba 832 bc) kv jb a0 b0 rv pv e0 k0 ∧ FO w' g fk fe (.slice p4 n4 c4))) (by kernel_rfl) HST.out (fun hS => ?_)
        refine rgw 0 ⟨some 38, .load 82 (.tmp 7), 82, _, _, none⟩ hS ?_ (hy := by intro w hSw; (try dsimp only at hSw); refine exec_load_fr (.tmp 7) ?_ ?_ hSw.2.2.2 <;> rfl)
        refine rgw 1 ⟨some 39, .move (.tmp 8), 3, _, _, none⟩ hS ?_
        refine rgw 2 ⟨some 40, .move (.tmp 9), 36, _, _, none⟩ hS ?_
        refine rgw 3 ⟨some 41, .binOp .eql 36 (.tmp 40) (.const (.int .i64 0)) 36, 4, _, _, none⟩ hS ?_
        refine rgw 4 ⟨some 42, .move (.tmp 41), 4, _, _, none⟩ hS ?_
        refine rgw 5 ⟨some 43, .move (.tmp 0), 111, _, _, some (4, true)⟩ hS ?_
        refine rgw 6 ⟨some 44, .move (.tmp 1), 3, _, _, some (4, true)⟩ hS ?_
        refine rgw 7 ⟨some 45, .move (.tmp 8), 3, _, _, some (4, true)⟩ hS ?_
        refine rg_one 8 ⟨some 46, .call { callee := .value (.func 98), args := #[.tmp 43, .tmp 44, .tmp 45], argTypes := #[111, 3, 3] }, 4, _, _, some (4, true)⟩ (by kernel_rfl) rfl (fun K hK => ?_)
        go_simp
        (go_at_call 98; (with_reducible refine (HH2.out _ hS.2.2.1 hS.2.1).mono ?_); rintro r w7 ⟨rfl, hb⟩; have hN := (show Below w.heap.size w w7 ∧ Below W.heap.size W w7 ∧ SO w7 sb ep (.slice ba 832 bc) kv jb a0 b0 rv pv e0 k0 ∧ FO w7 g fk fe (.slice p4 n4 c4) from ⟨bch hS.1 hb, bch hS.2.1 hb, hS.2.2.1.keep hb, hS.2.2.2.keep hb⟩); have HA8 := Lib.hid (HA7.out.keep hb); have HO8 := Lib.hid (own_keep HO7.out hb); clear hb)
        refine hK.out _ _ ?_ (fun hS1 => ?_)
        · (first | exact hN | exact hS)
        clear hK K hS; have hS := hS1; clear hS1
        (try simp only [rgp])
        refine rgw 9 ⟨some 47, .pick (.tmp 42) (.tmp 46) (.const (.bool false)), 4, _, _, none⟩ hS ?_
        refine rg_one 10 ⟨none, .store 82 (.tmp 4) (.tmp 38), 0, _, _, none⟩ (by kernel_rfl) rfl (fun K hK => ?_)
        rw [if_pos (by rfl)]; refine wp_put_fr (.tmp 4) (.tmp 38) rfl w.heap.size HA8.out fk fe p4 n4 c4 rfl rfl ?_; intro w8 HF8 HG8; have hN := (show Below w.heap.size w w8 ∧ Below W.heap.size W w8 ∧ SO w8 sb ep (.slice ba 832 bc) kv jb a0 b0 rv pv e0 k0 ∧ FO w8 g fk fe (.slice p4 n4 c4) from ⟨below_over hS.1 HG8.out (Nat.le_refl _) hS.1.size, below_over hS.2.1 HG8.out HSW.out.2 hS.2.1.size, (HG8.out.block sb hS.2.2.1.lt (fun x => by have := HSW.out.1; have := Option.some.inj x; omega)).trans hS.2.2.1, hS.2.2.2.over HG8.out (Ne.symm HGN.out)⟩); have HO9 := Lib.hid (own_over HO8.out HG8.out (fun q hq e => HA8.out.ne_own HO8.out q hq (Option.some.inj e)))
        refine hK.out _ _ ?_ (fun hS1 => ?_)
        · (first | exact hN | exact hS)
        clear hK K hS; have hS := hS1; clear hS1
        (try simp only [Act.put])
        refine rgw 11 ⟨some 5, .assign (.tmp 39), 3, _, _, none⟩ hS ?_
        refine rgw 12 ⟨some 6, .assign (.tmp 47), 4, _, _, none⟩ hS ?_
        refine wpAnyH_done (by kernel_rfl) ?_ _
        have HB8 := Lib.hid hS.1
        clear hS
        go_wp2
        refine bodyPost_ret_by (results_row_tmp2 rfl _ _ w.heap.size _ rfl HF8.out.load) rfl ?_
        have hn4 : fd.length = n4 := (il_length .u8 fd).symm.trans (HO9.out.1.trans (Nat.mul_one _))
        subst hn4
        have hyy := HY.out
        cases y with
        | true =>
          rw [if_pos rfl] at hyy
          refine ⟨HB8.out, .inr ⟨by rw [hyy]; show m ≠ 0; omega, p4, c4, by rw [hyy]; rfl, ?_⟩⟩
          rw [hyy]; exact HO9.out
        | false =>
          rw [if_neg (by decide)] at hyy
          exact ⟨HB8.out, .inl ⟨by rw [hyy], _, _, _, _, _, _, rfl⟩⟩
      · have hx1 : (x == 0) = false := by simpa using hx0
        have HNO := Lib.hid hno
        clear hno
        go_wp2_with fail
        refine wp_region_held_drew (S := (fun w' => Below w.heap.size w w' ∧ FO w' g fk fe (.slice p4 n4 c4))) (by kernel_rfl) ⟨HST.out.1, HST.out.2.2.2⟩ (fun hS => ?_)
        refine rgw 0 ⟨some 38, .load 82 (.tmp 7), 82, _, _, none⟩ hS ?_ (hy := by intro w hSw; (try dsimp only at hSw); refine exec_load_fr (.tmp 7) ?_ ?_ hSw.2 <;> rfl)
        refine rgw 1 ⟨some 39, .move (.tmp 8), 3, _, _, none⟩ hS ?_
        refine rgw 2 ⟨some 40, .move (.tmp 9), 36, _, _, none⟩ hS ?_
        refine rgw 3 ⟨some 41, .binOp .eql 36 (.tmp 40) (.const (.int .i64 0)) 36, 4, _, _, none⟩ hS ?_
        refine rgw 4 ⟨some 42, .move (.tmp 41), 4, _, _, none⟩ hS ?_
        refine rgt 5 (oi := ⟨some 43, .move (.tmp 0), 111, _, _, some (4, true)⟩) (v := undef) rfl (.inr ⟨by rfl, rfl⟩) hS ?_
        (try simp only [rgp])
        refine rgt 6 (oi := ⟨some 44, .move (.tmp 1), 3, _, _, some (4, true)⟩) (v := undef) rfl (.inr ⟨by rfl, rfl⟩) hS ?_
        (try simp only [rgp])
        refine rgt 7 (oi := ⟨some 45, .move (.tmp 8), 3, _, _, some (4, true)⟩) (v := undef) rfl (.inr ⟨by rfl, rfl⟩) hS ?_
        (try simp only [rgp])
        refine rgt 8 (oi := ⟨some 46, .call { callee := .value (.func 98), args := #[.tmp 43, .tmp 44, .tmp 45], argTypes := #[111, 3, 3] }, 4, _, _, some (4, true)⟩) (v := undef) rfl (.inr ⟨by rfl, rfl⟩) hS ?_
        (try simp only [rgp])
        refine rgw 9 ⟨some 47, .pick (.tmp 42) (.tmp 46) (.const (.bool false)), 4, _, _, none⟩ hS ?_
        refine rg_one 10 ⟨none, .store 82 (.tmp 4) (.tmp 38), 0, _, _, none⟩ (by kernel_rfl) rfl (fun K hK => ?_)
        rw [if_pos (by rfl)]; refine wp_put_fr (.tmp 4) (.tmp 38) rfl w.heap.size HA7.out fk fe p4 n4 c4 rfl rfl ?_; intro w8 HF8 HG8; have hN := (show Below w.heap.size w w8 ∧ FO w8 g fk fe (.slice p4 n4 c4) from ⟨below_over hS.1 HG8.out (Nat.le_refl _) hS.1.size, hS.2.over HG8.out (Ne.symm HGN.out)⟩)
        refine hK.out _ _ ?_ (fun hS1 => ?_)
        · (first | exact hN | exact hS)
        clear hK K hS; have hS := hS1; clear hS1
        (try simp only [Act.put])
        refine rgw 11 ⟨some 5, .assign (.tmp 39), 3, _, _, none⟩ hS ?_
        refine rgw 12 ⟨some 6, .assign (.tmp 47), 4, _, _, none⟩ hS ?_
        refine wpAnyH_done (by kernel_rfl) ?_ _
        have HB8 := Lib.hid hS.1
        clear hS
        go_wp2
        refine bodyPost_ret_by (results_row_tmp2 rfl _ _ w.heap.size _ rfl HF8.out.load) rfl ?_
        exact ⟨HB8.out, .inl ⟨by rw [HNO.out], _, _, _, _, _, _, rfl⟩⟩
end Go.Proofs.YtnmplnemnfonfaaGreatDoor
namespace Go.Proofs.YtnmplnemnfonfaaGreatDoor
open Go.RowKit
theorem Tryz.info_int : (Tryz.prog.info? 3).map (fun i => (i.zero, i.size, i.bytes)) = some (some (.int .i64 0), 1, 8) := by kernel_rfl
theorem ri_int1 (w : World) (x : Int) : RI .i64 (w.alloc (.cells #[.int .i64 x] 3)) (.slice (some ⟨w.heap.size, 0, none⟩) 1 1) 1 [x] := by
  refine ⟨_, 1, rfl, rfl, Nat.le_refl _, by omega, fun h => by simp at h, fun _ => ⟨w.heap.size, 0, rfl, fun j hj => ?_⟩⟩
  obtain rfl : j = 0 := by omega
  rw [Nat.zero_add, cell_of_row _ w.heap.size 0 _ _ _ (heap_alloc_last w _)]
  rfl
theorem keep_drew (w : World) (o : Obj) : Below w.heap.size w (w.alloc o).drew := (balloc w o).drew
set_option maxRecDepth 8000 in
set_option maxHeartbeats 4000000 in
theorem tell_any {W w : World} {sb jb : Nat} {ep : Int} {bv kv : Value} {a b e : Nat} {o : Bool} {h : List Int} {hv rv : Value} {es : List (List Int × Value)} {pv : Value} {ps : List Int}
    (c : SC W w sb jb ep bv kv a b e o h hv rv es pv ps) (u : Value) (r : List Int) (hu : w.ownsRow W.heap.size 5 1 u r.length (il .u8 r)) (hap : ∀ g, u.ownBlock = some g → some g ≠ hv.ownBlock) (hm : es.length ≤ 1000) (hp : ps.length ≤ 1000) :
    Calls Tryz.prog 76 #[.pointer (some ⟨sb, 0, none⟩), u] w fun e' w' => e' = .returned (.tuple #[]) ∧ ∃ rv' pv', SC W w' sb jb ep bv kv a b a o h hv rv' (es ++ [(r, u)]) pv' (ps ++ [(b : Int)]) := by
  obtain ⟨ua, uc, rfl⟩ := own_form hu
  obtain ⟨ra, rc, rfl⟩ := own_form c.recs.row
  obtain ⟨pa, pc, rfl⟩ := own_form c.places
  obtain ⟨wa, hwa⟩ : ∃ q, w.alloc (.cells #[.slice ua r.length uc] 49) = q := ⟨_, rfl⟩
  have hba : Below w.heap.size w wa := by rw [← hwa]; exact balloc w _
  have HCA := Lib.hid (c.keep hba)
  have HUA := Lib.hid (own_keep hu hba)
  have HKA : Hid (wa.heap[w.heap.size]? = some (.cells #[.slice ua r.length uc] 49 (0, 0))) := Lib.hid (by rw [← hwa]; exact heap_alloc_last w _)
  have HAP := Lib.hid hap
  obtain ⟨_, _, _, _, _, _, z6, _⟩ := c.blk.cells
  clear c hu hap hba
  go_enter Tryz.func76, Tryz.ntmps76
  go_wp2_with (first
    | (at_builtin; refine wpl_app_sr rfl (.tmp 9) (.tmp 11) rfl rfl HCA.out.recs w.heap.size (r, .slice ua r.length uc) rfl HKA.out HUA.out HAP.out (by omega) HCA.out.below.size ?_; intro v8 w8 HR8 HG8; obtain ⟨a8, c8, rfl⟩ := own_form HR8.out.row; have hs8 := HCA.out.blk.grown HCA.out.recs.row (by decide) HG8.out; have z68 := hs8.cells.2.2.2.2.2.2.1; have f68 := hs8.frozen 6; have HC9 := Lib.hid (HCA.out.more (es' := es ++ [(r, .slice ua r.length uc)]) HG8.out (by rw [List.length_append]; exact HR8.out)); obtain ⟨w9, hw9⟩ : ∃ q, w8.setCell ⟨sb, 6, none⟩ (.slice a8 (es.length + 1) c8) = q := ⟨_, rfl⟩; rw [hw9] at HC9; clear hs8))
  clear z6 z68 f68 HCA HUA HKA HAP HR8 HG8
  have HCD := Lib.hid (HC9.out.keep (Below.refl _ w9).drew)
  obtain ⟨_, _, _, _, _, y5, _, y7, _⟩ := HCD.out.blk.cells
  go_wp2_with fail
  refine wp_region_held_drew (S := (fun w' => w'.cell? ⟨sb, 5, none⟩ = some (.int .i64 (b : Int)))) (by kernel_rfl) y5 (fun hS => ?_)
  refine rgw 0 ⟨some 16, .move (.tmp 0), 111, _, _, none⟩ hS ?_
  refine rgw 1 ⟨some 17, .move (.tmp 0), 111, _, _, none⟩ hS ?_
  refine rgw 2 ⟨some 18, .nilCheck (.tmp 17), 0, _, _, none⟩ hS ?_
  refine rgw 3 ⟨some 19, .fieldAddr 115 (.tmp 18) 6, 0, _, _, none⟩ hS ?_
  refine rgw 4 ⟨some 20, .fieldAddr 45 (.tmp 19) 1, 0, _, _, none⟩ hS ?_
  refine rgw 6 ⟨some 22, .move (.tmp 0), 111, _, _, none⟩ hS ?_
  refine rgw 7 ⟨some 23, .nilCheck (.tmp 22), 0, _, _, none⟩ hS ?_
  refine rgw 8 ⟨some 24, .fieldAddr 115 (.tmp 23) 5, 0, _, _, none⟩ hS ?_
  refine rgw 9 ⟨some 25, .load 3 (.tmp 24), 3, _, _, none⟩ hS ?_
  refine rg_both 5 10 ⟨some 21, .load 43 (.tmp 20), 43, _, _, none⟩ ⟨some 26, .buildSlice 43 1 #[(0, .tmp 25)], 43, _, _, none⟩ (by kernel_rfl) rfl rfl (fun K hK => ?_) (fun K hK => ?_)
  focus
    go_simp
    refine hK.out _ _ ?_ (fun hS1 => ?_)
    · (first | exact hN | exact hS)
    clear hK K hS; have hS := hS1; clear hS1
    (try simp only [rgp])
    refine rg_one 10 ⟨some 26, .buildSlice 43 1 #[(0, .tmp 25)], 43, _, _, none⟩ (by kernel_rfl) rfl (fun K hK => ?_)
    go_simp
    (obtain ⟨wA, hwA⟩ : ∃ q, (w9.alloc (.cells #[.int .i64 (b : Int)] 3)).drew = q := ⟨_, rfl⟩; rw [hwA]; have HCA := Lib.hid (HC9.out.keep (hwA ▸ keep_drew w9 _)); have y7 := HCA.out.blk.cells.2.2.2.2.2.2.2.1; have hN := HCA.out.blk.cells.2.2.2.2.2.1; have HRI : Hid (RI .i64 wA (.slice (some ⟨w9.heap.size, 0, none⟩) 1 1) 1 [(b : Int)]) := Lib.hid (hwA ▸ (ri_int1 w9 (b : Int)).keep (Below.refl _ _).drew))
  rotate_left
  focus
    go_simp
    (obtain ⟨wA, hwA⟩ : ∃ q, (w9.alloc (.cells #[.int .i64 (b : Int)] 3)).drew = q := ⟨_, rfl⟩; rw [hwA]; have HCA := Lib.hid (HC9.out.keep (hwA ▸ keep_drew w9 _)); have y7 := HCA.out.blk.cells.2.2.2.2.2.2.2.1; have hN := HCA.out.blk.cells.2.2.2.2.2.1; have HRI : Hid (RI .i64 wA (.slice (some ⟨w9.heap.size, 0, none⟩) 1 1) 1 [(b : Int)]) := Lib.hid (hwA ▸ (ri_int1 w9 (b : Int)).keep (Below.refl _ _).drew))
    refine hK.out _ _ ?_ (fun hS1 => ?_)
    · (first | exact hN | exact hS)
    clear hK K hS; have hS := hS1; clear hS1
    (try simp only [rgp])
    refine rg_one 5 ⟨some 21, .load 43 (.tmp 20), 43, _, _, none⟩ (by kernel_rfl) rfl (fun K hK => ?_)
    go_simp
  rotate_left
  all_goals
    refine hK.out _ _ ?_ (fun hS1 => ?_)
    · (first | exact hN | exact hS)
    clear hK K hS; have hS := hS1; clear hS1
    (try simp only [rgp])
    refine rg_one 11 ⟨some 27, .call { callee := .builtin Builtin.append, args := #[.tmp 21, .tmp 26], argTypes := #[43, 43] }, 43, _, _, none⟩ (by kernel_rfl) rfl (fun K hK => ?_)
    rw [if_pos (by rfl)]; refine wp_appn (.tmp 21) (.tmp 26) 43 rfl 3 .i64 8 Tryz.underlying43 Tryz.info_int W.heap.size (.slice pa ps.length pc) ps.length ps rfl HCA.out.places _ 1 [(b : Int)] rfl HRI.out (by omega) (by omega) HCA.out.below.size ?_; intro v5 w5 ho5 hg5 _; obtain ⟨a5, c5, rfl⟩ := own_form ho5; have hs5 := HCA.out.blk.grown HCA.out.places (by decide) hg5; have hN := hs5.cells.2.2.2.2.2.1; have z75 := hs5.cells.2.2.2.2.2.2.2.1; have f75 := hs5.frozen 7; have HC6 := Lib.hid (HCA.out.more7 (ps' := ps ++ [(b : Int)]) hg5 (by rw [List.length_append]; exact ho5)); clear hs5
    refine hK.out _ _ ?_ (fun hS1 => ?_)
    · (first | exact hN | exact hS)
    clear hK K hS; have hS := hS1; clear hS1
    (try simp only [rgp])
    refine rgw 12 ⟨some 28, .nilCheck (.tmp 16), 0, _, _, none⟩ hS ?_
    refine rgw 13 ⟨some 29, .fieldAddr 115 (.tmp 28) 6, 0, _, _, none⟩ hS ?_
    refine rgw 14 ⟨some 30, .fieldAddr 45 (.tmp 29) 1, 0, _, _, none⟩ hS ?_
    refine rg_one 15 ⟨none, .store 43 (.tmp 30) (.tmp 27), 0, _, _, none⟩ (by kernel_rfl) rfl (fun K hK => ?_)
    go_simp
    (obtain ⟨w6, hw6⟩ : ∃ q, w5.setCell ⟨sb, 7, none⟩ (.slice a5 (ps.length + 1) c5) = q := ⟨_, rfl⟩; rw [hw6]; rw [hw6] at HC6; clear hN; have hN := HC6.out.blk.cells.2.2.2.2.2.1)
    refine hK.out _ _ ?_ (fun hS1 => ?_)
    · (first | exact hN | exact hS)
    clear hK K hS; have hS := hS1; clear hS1
    (try simp only [Act.put])
    refine wpAnyH_done (by kernel_rfl) ?_ _
    clear hS hN
    (try clear y7)
    (try clear z75 f75 hw6)
    obtain ⟨_, _, _, _, x4, _, _, _, x8, _⟩ := HC6.out.blk.cells
    have f8 := HC6.out.blk.frozen 8
    go_wp2
    go_end0
    exact ⟨rfl, _, _, HC6.out.set8 a⟩
end Go.Proofs.YtnmplnemnfonfaaGreatDoor
namespace Go.Proofs.YtnmplnemnfonfaaGreatDoor
open Go.RowKit
def SX (W w : World) (sb jb : Nat) (ep : Int) (bv kv : Value) (s : SS) : Prop :=
  ∃ hv rv es pv, SC W w sb jb ep bv kv s.at_ s.first s.fin s.o s.h hv rv es pv s.places ∧ es.map Prod.fst = s.recs
theorem scStep_ends (s : SS) (f : FR) (n : Nat) (he : jEnds s.o s.h f.kind f.data = true) :
    scStep s f n = ⟨beginN s.at_ + n, scFirst s, jGoes s.o s.h f.kind f.data, jHad s.o s.h f.kind f.data, s.recs ++ [jTell s.o s.h f.kind f.data], s.places ++ [((scFirst s : Nat) : Int)], beginN s.at_ + n⟩ := by unfold scStep; rw [he]; rfl
theorem scStep_goes (s : SS) (f : FR) (n : Nat) (he : jEnds s.o s.h f.kind f.data = false) :
    scStep s f n = ⟨beginN s.at_ + n, scFirst s, jGoes s.o s.h f.kind f.data, jHad s.o s.h f.kind f.data, s.recs, s.places, s.fin⟩ := by unfold scStep; rw [he]; rfl
def StepT (ep : Int) (B : List Int) (K : List Bool) (W : World) (sb jb : Nat) (bv kv : Value) (s : SS) (r : Ending) (w' : World) : Prop :=
  (∃ t, scNext ep B K s = some t ∧ r = .returned (.bool true) ∧ SX W w' sb jb ep bv kv t) ∨
  (scNext ep B K s = none ∧ r = .returned (.bool false) ∧ ∃ t, SX W w' sb jb ep bv kv t ∧ t.recs = s.recs ∧ t.places = s.places ∧ t.fin = s.fin)
set_option maxRecDepth 8000 in
set_option maxHeartbeats 8000000 in
theorem step_scan {W w : World} {sb jb : Nat} {ep : Int} {bv kv : Value} {B : List Int} {K : List Bool} (s : SS) (hs : s.Ok) (hx : SX W w sb jb ep bv kv s) (hT : Tab W) (hB : B.length = 832) (hBb : isB B) (hbv : RI .u8 W bv 832 B) (hk : BS W kv 16 K) :
    Calls Tryz.prog 53 #[.pointer (some ⟨sb, 0, none⟩)] w (StepT ep B K W sb jb bv kv s) := by
  obtain ⟨at0, first, o, h, recs, places, fin⟩ := s
  obtain ⟨hv, rv, es, pv, hc, hes0⟩ := hx
  dsimp only at hc hes0
  have ha0 : at0 ≤ 832 := hs.at_
  have hroom : 11 * recs.length ≤ at0 := hs.room
  have hfew : recs.length = places.length := hs.few
  have hesl : es.length = recs.length := by rw [← hes0, List.length_map]
  have hes : es.length ≤ 1000 := by omega
  have hpl : places.length ≤ 1000 := by omega
  have HC := Lib.hid hc
  have HES := Lib.hid hes0
  have hble := begin_le at0 ha0
  have HNXF : ∀ f m, scF ep B K (beginN at0) = (f, m) → (m = 0 ∨ jErr o h f.kind f.data ≠ 0) → scNext ep B K ⟨at0, first, o, h, recs, places, fin⟩ = none := fun f m e q => scNext_none (by dsimp only; rw [e]; exact q)
  have HNXT : ∀ f m, scF ep B K (beginN at0) = (f, m) → m ≠ 0 → jErr o h f.kind f.data = 0 → scNext ep B K ⟨at0, first, o, h, recs, places, fin⟩ = some (scStep ⟨at0, first, o, h, recs, places, fin⟩ f m) := fun f m e q1 q2 => by
    have := scNext_some (ep := ep) (B := B) (K := K) (s := ⟨at0, first, o, h, recs, places, fin⟩) (by dsimp only; rw [e]; exact q1) (by dsimp only; rw [e]; exact q2)
    dsimp only at this
    rw [e] at this
    exact this
  have HSE : ∀ f m, jEnds o h f.kind f.data = true → scStep ⟨at0, first, o, h, recs, places, fin⟩ f m = ⟨beginN at0 + m, if o = true then first else beginN at0, jGoes o h f.kind f.data, jHad o h f.kind f.data, recs ++ [jTell o h f.kind f.data], places ++ [(((if o = true then first else beginN at0) : Nat) : Int)], beginN at0 + m⟩ := fun f m q => scStep_ends _ f m q
  have HSG : ∀ f m, jEnds o h f.kind f.data = false → scStep ⟨at0, first, o, h, recs, places, fin⟩ f m = ⟨beginN at0 + m, if o = true then first else beginN at0, jGoes o h f.kind f.data, jHad o h f.kind f.data, recs, places, fin⟩ := fun f m q => scStep_goes _ f m q
  have HBG : Hid (∀ w, Calls Tryz.prog 67 #[.int .i64 at0] w fun e w' => e = .returned (.int .i64 (beginN at0 : Int)) ∧ Below w.heap.size w w') := Lib.hid fun w => by
    have := begin_any (at0 : Int) (by unfold I63; omega) w; rwa [nr_nat at0 ha0] at this
  obtain ⟨a, hab⟩ : ∃ a, beginN at0 = a := ⟨_, rfl⟩
  rw [hab] at hble HBG HNXF HNXT HSE HSG
  have HFA : ∀ w, SO w sb ep bv kv jb at0 first rv pv fin 0 → Below W.heap.size W w → Calls Tryz.prog 75 #[.pointer (some ⟨sb, 0, none⟩), .int .i64 a] w (FragT ep B K a w) := fun w h1 h2 => fragment_any h1 h2 hT hB hBb hbv hk a hble
  obtain ⟨⟨⟨k, e, d⟩, m⟩, hF⟩ : ∃ F, scF ep B K a = F := ⟨_, rfl⟩
  obtain ⟨p0, q0, hrv⟩ := own_form hc.recs.row
  have hsz : ∀ hm : m ≠ 0, a + m ≤ 832 ∧ d.length ≤ 197 := fun hm => by
    obtain ⟨_, _, h3, _, h5⟩ := scF_some (ep := ep) (B := B) (K := K) (a := a) (by rw [hF]; exact hm)
    have hp := scD_parts hB hble h3
    rw [hF] at h5
    simp only [Prod.mk.injEq] at h5
    rw [← h5.1, ← h5.2] at hp
    exact ⟨hp.2.2.1, hp.2.2.2.2⟩
  by_cases hm : m = 0
  · have HFR : Hid (∀ w, SO w sb ep bv kv jb at0 first rv pv fin 0 → Below W.heap.size W w → Calls Tryz.prog 75 #[.pointer (some ⟨sb, 0, none⟩), .int .i64 a] w fun r w' => ∃ k e x n c m, r = .returned (.tuple #[.agg (fA k e (.slice x n c)), .int .i64 m, .bool false]) ∧ Below w.heap.size w w') := Lib.hid fun w h1 h2 => (HFA w h1 h2).mono fun r w' ⟨hb, hq⟩ => by
      rcases hq with ⟨_, k, e, x, n, c, m, hr⟩ | ⟨h0, _⟩
      · exact ⟨k, e, x, n, c, m, hr, hb⟩
      · rw [hF] at h0; exact absurd hm h0
    have HNX := Lib.hid (HNXF _ _ hF (.inl hm))
    clear HNXF HNXT HSE HSG HFA hF hsz hm hc hs hT hB hBb hbv hk hes0 hrv hroom hfew hesl
    have z4 := HC.out.blk.cells.2.2.2.2.1
    go_enter Tryz.func53, Tryz.ntmps53
    go_wp2_with (first
      | (go_at_call 67; (with_reducible refine (HBG.out _).mono ?_); rintro r w1 ⟨rfl, hb⟩; have HC1 := Lib.hid (HC.out.keep hb); clear hb)
      | (go_at_call 75; (refine (HFR.out _ HC1.out.blk HC1.out.below).mono ?_); rintro r w2 ⟨k2, e2, x2, n2, c2, m2, rfl, hb⟩; have HC2 := Lib.hid (HC1.out.keep hb); clear hb)
      | (refine wpl_put_fr rfl (.tmp 4) (.tmp 19) rfl w2.heap.size (FO.alloc w2) k2 e2 x2 n2 c2 rfl rfl ?_; intro w3 HF3 HG3; have HC3 := Lib.hid (HC2.out.keep (below_over (balloc w2 _) HG3.out (Nat.le_refl _) (balloc w2 _).size))))
    go_ret
    exact .inr ⟨HNX.out, rfl, ⟨at0, first, o, h, recs, places, fin⟩, ⟨_, _, _, _, HC3.out, HES.out⟩, rfl, rfl, rfl⟩
  · have HFR : Hid (∀ w, SO w sb ep bv kv jb at0 first rv pv fin 0 → Below W.heap.size W w → Calls Tryz.prog 75 #[.pointer (some ⟨sb, 0, none⟩), .int .i64 a] w fun r w' => ∃ x c, r = .returned (.tuple #[.agg (fA k e (.slice x d.length c)), .int .i64 (m : Int), .bool true]) ∧ w'.ownsRow w.heap.size 5 1 (.slice x d.length c) d.length (il .u8 d) ∧ Below w.heap.size w w') := Lib.hid fun w h1 h2 => (HFA w h1 h2).mono fun r w' ⟨hb, hq⟩ => by
      rcases hq with ⟨h0, _⟩ | ⟨_, x, c, hr, ho⟩
      · rw [hF] at h0; exact absurd h0 hm
      · rw [hF] at hr ho; exact ⟨x, c, hr, ho, hb⟩
    obtain ⟨ham, hdl⟩ := hsz hm
    have HNXT := HNXT _ _ hF hm
    have HNXF := HNXF _ _ hF
    have HFD : ∀ (w : World) (x : Option Addr) (c : Nat), Below W.heap.size W w → JB w W.heap.size jb o hv h → (∀ w', Oth w w' jb hv → RI .u8 w' (.slice x d.length c) d.length d) → Calls Tryz.prog 39 #[.pointer (some ⟨jb, 0, none⟩), .agg (fA k e (.slice x d.length c))] w fun r w' =>
        ∃ u v', r = .returned (.tuple #[u, .bool (jEnds o h k d), .int .i64 (jErr o h k d)]) ∧ JB w' W.heap.size jb (jGoes o h k d) v' (jHad o h k d) ∧ w'.ownsRow W.heap.size 5 1 u (jTell o h k d).length (il .u8 (jTell o h k d)) ∧ Lies w hv u ∧ Lies w hv v' ∧ Oth w w' jb hv := fun w x c h1 h2 h3 =>
      feed_own W o jb hv h k e (.slice x d.length c) d.length d w h1 h2 h3
    have hGE : jEnds o h k d = true → jGoes o h k d = false := fun q => jGoes_ends q
    have HSE := HSE ⟨k, e, d⟩ m
    have HSG := HSG ⟨k, e, d⟩ m
    dsimp only at HNXT HNXF HSE HSG
    obtain ⟨t, ht⟩ : ∃ t, a + m = t := ⟨_, rfl⟩
    rw [ht] at HSE HSG ham
    have htI : (a : Int) + (m : Int) = (t : Int) := by omega
    have htb : (t : Int) ≤ 832 := by omega
    by_cases her : jErr o h k d = 0
    · have HNX1 := HNXT her
      rw [her] at HFD
      cases hen : jEnds o h k d with
      | true =>
        have HNX2 := HNX1
        rw [HSE hen] at HNX2
        have HGO := Lib.hid (hGE hen)
        rw [hen] at HFD
        clear HNX1 HNXF HNXT HSE HSG HFA hF hsz hm hc hs hT hB hBb hbv hk hes0 hrv hroom hfew hesl hGE her hen ht ham
        generalize jGoes o h k d = g6 at *
        generalize jHad o h k d = h6 at *
        generalize jTell o h k d = t6 at *
        have HFD := Lib.hid HFD
        cases o with
        | true =>
          rw [if_pos rfl] at HNX2
          have HNX := Lib.hid HNX2
          clear HNX2
          have z4 := HC.out.blk.cells.2.2.2.2.1
          go_enter Tryz.func53, Tryz.ntmps53
          go_wp2_with (first
            | (go_at_call 67; (with_reducible refine (HBG.out _).mono ?_); rintro r w1 ⟨rfl, hb⟩; have HC1 := Lib.hid (HC.out.keep hb); clear hb)
            | (go_at_call 75; (refine (HFR.out _ HC1.out.blk HC1.out.below).mono ?_); rintro r w2 ⟨x2, c2, rfl, ho, hb⟩; have HC2 := Lib.hid (HC1.out.keep hb); have HO2 := Lib.hid ho; have HNE : Hid (∀ g, (Value.slice x2 d.length c2).ownBlock = some g → some g ≠ hv.ownBlock) := Lib.hid (fun g hg e => by have h1 := (HO2.out.lt g hg).1; have h2 := (HC1.out.jn.row.lt g e.symm).2; omega); clear ho hb)
            | (refine wpl_put_fr rfl (.tmp 4) (.tmp 19) rfl w2.heap.size (FO.alloc w2) k e x2 d.length c2 rfl rfl ?_; intro w3 HF3 HG3; have hb3 : Below w2.heap.size w2 w3 := below_over (balloc w2 _) HG3.out (Nat.le_refl _) (balloc w2 _).size; have HC3 := Lib.hid (HC2.out.keep hb3); have HO3 := Lib.hid (own_keep HO2.out hb3); clear hb3; have z3 := HC3.out.blk.cells.2.2.2.1; have HC4 := HC3; have HF4 := HF3; have HO4 := HO3)
            | (go_at_call 68; (with_reducible refine (idle_any true _ jb _ HC3.out.jn.blk).mono ?_); rintro r w9 ⟨rfl, rfl⟩))
          have HC5 := Lib.hid (HC4.out.keep (Below.refl _ w3).drew)
          have HF5 := Lib.hid (HF4.out.keep (Below.refl _ w3).drew)
          have HO5 := Lib.hid (own_keep HO4.out (Below.refl _ w3).drew)
          clear z3 z4 HC3 HF3 HO3 HC1 HC2 HO2 HBG HFR
          (try go_wp2_with fail)
          refine wp_region_held_drew (S := (fun w' => w'.cell? ⟨sb, 3, none⟩ = some (.pointer (some ⟨jb, 0, none⟩)) ∧ FO w' w2.heap.size k e (.slice x2 d.length c2))) (by kernel_rfl) ⟨HC5.out.blk.cells.2.2.2.1, HF5.out⟩ (fun hS => ?_)
          refine rgw 0 ⟨some 34, .move (.tmp 0), 111, _, _, none⟩ hS ?_
          refine rgw 1 ⟨some 35, .nilCheck (.tmp 34), 0, _, _, none⟩ hS ?_
          refine rgw 2 ⟨some 36, .fieldAddr 115 (.tmp 35) 3, 0, _, _, none⟩ hS ?_
          refine rgw 3 ⟨some 37, .load 94 (.tmp 36), 94, _, _, none⟩ hS ?_
          refine rgw 4 ⟨some 38, .load 82 (.tmp 4), 82, _, _, none⟩ hS ?_ (hy := by intro w hSw; (try dsimp only at hSw); refine exec_load_fr (.tmp 4) ?_ ?_ hSw.2 <;> rfl)
          refine rg_one 5 ⟨some 39, .call { callee := .value (.func 39), args := #[.tmp 37, .tmp 38], argTypes := #[94, 82] }, 99, _, _, none⟩ (by kernel_rfl) rfl (fun K hK => ?_)
          go_simp
          (go_at_call 39; (refine (HFD.out _ x2 c2 HC5.out.below HC5.out.jn (fun w' k => RI.own (HC5.out.jn.oth k HO5.out (by decide) HNE.out))).mono ?_); rintro r w6 ⟨u, v6, rfl, hj6, ho6, hl6, hl7, hk6⟩; obtain ⟨ua, uc, rfl⟩ := own_form ho6; have HC6 := Lib.hid (HC5.out.feed hj6 hl7 hk6); have HF6 := Lib.hid (HC5.out.jn.oth_blk hk6 HF5.out (by decide) (by decide)); have HO6 := Lib.hid ho6; have hN := And.intro HC6.out.blk.cells.2.2.2.1 HF6.out; clear hj6 ho6 hl6 hl7 hk6)
          refine hK.out _ _ ?_ (fun hS1 => ?_)
          · (first | exact hN | exact hS)
          clear hK K hS; have hS := hS1; clear hS1
          (try simp only [rgp])
          refine rgw 6 ⟨some 33, .move (.tmp 39), 99, _, _, none⟩ hS ?_
          refine rgw 7 ⟨some 40, .extract (.tmp 33) 0, 49, _, _, none⟩ hS ?_
          refine rgw 8 ⟨some 41, .extract (.tmp 33) 1, 4, _, _, none⟩ hS ?_
          refine rgw 9 ⟨some 42, .extract (.tmp 33) 2, 36, _, _, none⟩ hS ?_
          refine rgw 10 ⟨some 7, .assign (.tmp 40), 49, _, _, none⟩ hS ?_
          refine rgw 11 ⟨some 8, .assign (.tmp 41), 4, _, _, none⟩ hS ?_
          refine rgw 12 ⟨some 9, .assign (.tmp 42), 36, _, _, none⟩ hS ?_
          refine wpAnyH_done (by kernel_rfl) ?_ _
          clear hS hN HC5 HF5 HO5 HF6 HNE HFD
          obtain ⟨_, _, _, _, y4, _⟩ := HC6.out.blk.cells
          have f4 := HC6.out.blk.frozen 4
          obtain ⟨w7, hw7⟩ : ∃ q, w6.setCell ⟨sb, 4, none⟩ (.int .i64 (t : Int)) = q := ⟨_, rfl⟩
          have HC7 := Lib.hid (show SC W w7 sb jb ep bv kv t first fin g6 h6 v6 rv es pv places from by rw [← hw7]; exact HC6.out.set4 t)
          have HO7 := Lib.hid (show w7.ownsRow W.heap.size 5 1 (.slice ua t6.length uc) t6.length (il .u8 t6) from by rw [← hw7]; exact own_over HO6.out (grown_store w6 sb 4 _) (fun q hq e => HC6.out.blk.ne_own HO6.out (by decide) q hq (Option.some.inj e)))
          have HAP : Hid (∀ g, (Value.slice ua t6.length uc).ownBlock = some g → some g ≠ v6.ownBlock) := Lib.hid (fun g _ => by have := (HC7.out.jn.idle HGO.out).1; rw [this]; simp [Value.ownBlock])
          clear HO6
          go_wp2_with (first
            | (go_at_call 76; (refine (tell_any HC7.out (.slice ua t6.length uc) t6 HO7.out HAP.out hes hpl).mono ?_); rintro r w8 ⟨rfl, rv8, pv8, hc8⟩; have HC8 := Lib.hid hc8; clear hc8))
          go_ret
          refine .inl ⟨_, HNX.out, rfl, v6, rv8, _, pv8, HC8.out, ?_⟩
          rw [List.map_append, HES.out]; rfl
        | false =>
          rw [if_neg (by decide)] at HNX2
          have HNX := Lib.hid HNX2
          clear HNX2
          have z4 := HC.out.blk.cells.2.2.2.2.1
          go_enter Tryz.func53, Tryz.ntmps53
          go_wp2_with (first
            | (go_at_call 67; (with_reducible refine (HBG.out _).mono ?_); rintro r w1 ⟨rfl, hb⟩; have HC1 := Lib.hid (HC.out.keep hb); clear hb)
            | (go_at_call 75; (refine (HFR.out _ HC1.out.blk HC1.out.below).mono ?_); rintro r w2 ⟨x2, c2, rfl, ho, hb⟩; have HC2 := Lib.hid (HC1.out.keep hb); have HO2 := Lib.hid ho; have HNE : Hid (∀ g, (Value.slice x2 d.length c2).ownBlock = some g → some g ≠ hv.ownBlock) := Lib.hid (fun g hg e => by have h1 := (HO2.out.lt g hg).1; have h2 := (HC1.out.jn.row.lt g e.symm).2; omega); clear ho hb)
            | (refine wpl_put_fr rfl (.tmp 4) (.tmp 19) rfl w2.heap.size (FO.alloc w2) k e x2 d.length c2 rfl rfl ?_; intro w3 HF3 HG3; have hb3 : Below w2.heap.size w2 w3 := below_over (balloc w2 _) HG3.out (Nat.le_refl _) (balloc w2 _).size; have HC3 := Lib.hid (HC2.out.keep hb3); have HO3 := Lib.hid (own_keep HO2.out hb3); clear hb3; have z3 := HC3.out.blk.cells.2.2.2.1; have z5 := HC3.out.blk.cells.2.2.2.2.2.1; have f5 := HC3.out.blk.frozen 5; obtain ⟨w4, hw4⟩ : ∃ q, w3.setCell ⟨sb, 5, none⟩ (.int .i64 (a : Int)) = q := ⟨_, rfl⟩; have HC4 := Lib.hid (show SC W w4 sb jb ep bv kv at0 a fin false h hv rv es pv places from by rw [← hw4]; exact HC3.out.set5 a); have HG4 := Lib.hid (show w3.grownBy w4 (some sb) from by rw [← hw4]; exact grown_store _ _ _ _); have HF4 := Lib.hid (HF3.out.over HG4.out (Nat.ne_of_gt HC2.out.blk.lt)); have HO4 := Lib.hid (own_over HO3.out HG4.out (fun q hq e => HC3.out.blk.ne_own HO3.out (by decide) q hq (Option.some.inj e))))
            | (go_at_call 68; (with_reducible refine (idle_any false _ jb _ HC3.out.jn.blk).mono ?_); rintro r w9 ⟨rfl, rfl⟩))
          have HC5 := Lib.hid (HC4.out.keep (Below.refl _ w4).drew)
          have HF5 := Lib.hid (HF4.out.keep (Below.refl _ w4).drew)
          have HO5 := Lib.hid (own_keep HO4.out (Below.refl _ w4).drew)
          clear z3 z4 HC3 HF3 HO3 HC1 HC2 HO2 HBG HFR
          clear z5 f5
          (try go_wp2_with fail)
          refine wp_region_held_drew (S := (fun w' => w'.cell? ⟨sb, 3, none⟩ = some (.pointer (some ⟨jb, 0, none⟩)) ∧ FO w' w2.heap.size k e (.slice x2 d.length c2))) (by kernel_rfl) ⟨HC5.out.blk.cells.2.2.2.1, HF5.out⟩ (fun hS => ?_)
          refine rgw 0 ⟨some 34, .move (.tmp 0), 111, _, _, none⟩ hS ?_
          refine rgw 1 ⟨some 35, .nilCheck (.tmp 34), 0, _, _, none⟩ hS ?_
          refine rgw 2 ⟨some 36, .fieldAddr 115 (.tmp 35) 3, 0, _, _, none⟩ hS ?_
          refine rgw 3 ⟨some 37, .load 94 (.tmp 36), 94, _, _, none⟩ hS ?_
          refine rgw 4 ⟨some 38, .load 82 (.tmp 4), 82, _, _, none⟩ hS ?_ (hy := by intro w hSw; (try dsimp only at hSw); refine exec_load_fr (.tmp 4) ?_ ?_ hSw.2 <;> rfl)
          refine rg_one 5 ⟨some 39, .call { callee := .value (.func 39), args := #[.tmp 37, .tmp 38], argTypes := #[94, 82] }, 99, _, _, none⟩ (by kernel_rfl) rfl (fun K hK => ?_)
          go_simp
          (go_at_call 39; (refine (HFD.out _ x2 c2 HC5.out.below HC5.out.jn (fun w' k => RI.own (HC5.out.jn.oth k HO5.out (by decide) HNE.out))).mono ?_); rintro r w6 ⟨u, v6, rfl, hj6, ho6, hl6, hl7, hk6⟩; obtain ⟨ua, uc, rfl⟩ := own_form ho6; have HC6 := Lib.hid (HC5.out.feed hj6 hl7 hk6); have HF6 := Lib.hid (HC5.out.jn.oth_blk hk6 HF5.out (by decide) (by decide)); have HO6 := Lib.hid ho6; have hN := And.intro HC6.out.blk.cells.2.2.2.1 HF6.out; clear hj6 ho6 hl6 hl7 hk6)
          refine hK.out _ _ ?_ (fun hS1 => ?_)
          · (first | exact hN | exact hS)
          clear hK K hS; have hS := hS1; clear hS1
          (try simp only [rgp])
          refine rgw 6 ⟨some 33, .move (.tmp 39), 99, _, _, none⟩ hS ?_
          refine rgw 7 ⟨some 40, .extract (.tmp 33) 0, 49, _, _, none⟩ hS ?_
          refine rgw 8 ⟨some 41, .extract (.tmp 33) 1, 4, _, _, none⟩ hS ?_
          refine rgw 9 ⟨some 42, .extract (.tmp 33) 2, 36, _, _, none⟩ hS ?_
          refine rgw 10 ⟨some 7, .assign (.tmp 40), 49, _, _, none⟩ hS ?_
          refine rgw 11 ⟨some 8, .assign (.tmp 41), 4, _, _, none⟩ hS ?_
          refine rgw 12 ⟨some 9, .assign (.tmp 42), 36, _, _, none⟩ hS ?_
          refine wpAnyH_done (by kernel_rfl) ?_ _
          clear hS hN HC5 HF5 HO5 HF6 HNE HFD
          obtain ⟨_, _, _, _, y4, _⟩ := HC6.out.blk.cells
          have f4 := HC6.out.blk.frozen 4
          obtain ⟨w7, hw7⟩ : ∃ q, w6.setCell ⟨sb, 4, none⟩ (.int .i64 (t : Int)) = q := ⟨_, rfl⟩
          have HC7 := Lib.hid (show SC W w7 sb jb ep bv kv t a fin g6 h6 v6 rv es pv places from by rw [← hw7]; exact HC6.out.set4 t)
          have HO7 := Lib.hid (show w7.ownsRow W.heap.size 5 1 (.slice ua t6.length uc) t6.length (il .u8 t6) from by rw [← hw7]; exact own_over HO6.out (grown_store w6 sb 4 _) (fun q hq e => HC6.out.blk.ne_own HO6.out (by decide) q hq (Option.some.inj e)))
          have HAP : Hid (∀ g, (Value.slice ua t6.length uc).ownBlock = some g → some g ≠ v6.ownBlock) := Lib.hid (fun g _ => by have := (HC7.out.jn.idle HGO.out).1; rw [this]; simp [Value.ownBlock])
          clear HO6
          go_wp2_with (first
            | (go_at_call 76; (refine (tell_any HC7.out (.slice ua t6.length uc) t6 HO7.out HAP.out hes hpl).mono ?_); rintro r w8 ⟨rfl, rv8, pv8, hc8⟩; have HC8 := Lib.hid hc8; clear hc8))
          go_ret
          refine .inl ⟨_, HNX.out, rfl, v6, rv8, _, pv8, HC8.out, ?_⟩
          rw [List.map_append, HES.out]; rfl
      | false =>
        have HNX2 := HNX1
        rw [HSG hen] at HNX2
        rw [hen] at HFD
        clear HNX1 HNXF HNXT HSE HSG HFA hF hsz hm hc hs hT hB hBb hbv hk hes0 hrv hroom hfew hesl hGE her hen ht ham
        generalize jGoes o h k d = g6 at *
        generalize jHad o h k d = h6 at *
        generalize jTell o h k d = t6 at *
        have HFD := Lib.hid HFD
        cases o with
        | true =>
          rw [if_pos rfl] at HNX2
          have HNX := Lib.hid HNX2
          clear HNX2
          have z4 := HC.out.blk.cells.2.2.2.2.1
          go_enter Tryz.func53, Tryz.ntmps53
          go_wp2_with (first
            | (go_at_call 67; (with_reducible refine (HBG.out _).mono ?_); rintro r w1 ⟨rfl, hb⟩; have HC1 := Lib.hid (HC.out.keep hb); clear hb)
            | (go_at_call 75; (refine (HFR.out _ HC1.out.blk HC1.out.below).mono ?_); rintro r w2 ⟨x2, c2, rfl, ho, hb⟩; have HC2 := Lib.hid (HC1.out.keep hb); have HO2 := Lib.hid ho; have HNE : Hid (∀ g, (Value.slice x2 d.length c2).ownBlock = some g → some g ≠ hv.ownBlock) := Lib.hid (fun g hg e => by have h1 := (HO2.out.lt g hg).1; have h2 := (HC1.out.jn.row.lt g e.symm).2; omega); clear ho hb)
            | (refine wpl_put_fr rfl (.tmp 4) (.tmp 19) rfl w2.heap.size (FO.alloc w2) k e x2 d.length c2 rfl rfl ?_; intro w3 HF3 HG3; have hb3 : Below w2.heap.size w2 w3 := below_over (balloc w2 _) HG3.out (Nat.le_refl _) (balloc w2 _).size; have HC3 := Lib.hid (HC2.out.keep hb3); have HO3 := Lib.hid (own_keep HO2.out hb3); clear hb3; have z3 := HC3.out.blk.cells.2.2.2.1; have HC4 := HC3; have HF4 := HF3; have HO4 := HO3)
            | (go_at_call 68; (with_reducible refine (idle_any true _ jb _ HC3.out.jn.blk).mono ?_); rintro r w9 ⟨rfl, rfl⟩))
          have HC5 := Lib.hid (HC4.out.keep (Below.refl _ w3).drew)
          have HF5 := Lib.hid (HF4.out.keep (Below.refl _ w3).drew)
          have HO5 := Lib.hid (own_keep HO4.out (Below.refl _ w3).drew)
          clear z3 z4 HC3 HF3 HO3 HC1 HC2 HO2 HBG HFR
          (try go_wp2_with fail)
          refine wp_region_held_drew (S := (fun w' => w'.cell? ⟨sb, 3, none⟩ = some (.pointer (some ⟨jb, 0, none⟩)) ∧ FO w' w2.heap.size k e (.slice x2 d.length c2))) (by kernel_rfl) ⟨HC5.out.blk.cells.2.2.2.1, HF5.out⟩ (fun hS => ?_)
          refine rgw 0 ⟨some 34, .move (.tmp 0), 111, _, _, none⟩ hS ?_
          refine rgw 1 ⟨some 35, .nilCheck (.tmp 34), 0, _, _, none⟩ hS ?_
          refine rgw 2 ⟨some 36, .fieldAddr 115 (.tmp 35) 3, 0, _, _, none⟩ hS ?_
          refine rgw 3 ⟨some 37, .load 94 (.tmp 36), 94, _, _, none⟩ hS ?_
          refine rgw 4 ⟨some 38, .load 82 (.tmp 4), 82, _, _, none⟩ hS ?_ (hy := by intro w hSw; (try dsimp only at hSw); refine exec_load_fr (.tmp 4) ?_ ?_ hSw.2 <;> rfl)
          refine rg_one 5 ⟨some 39, .call { callee := .value (.func 39), args := #[.tmp 37, .tmp 38], argTypes := #[94, 82] }, 99, _, _, none⟩ (by kernel_rfl) rfl (fun K hK => ?_)
          go_simp
          (go_at_call 39; (refine (HFD.out _ x2 c2 HC5.out.below HC5.out.jn (fun w' k => RI.own (HC5.out.jn.oth k HO5.out (by decide) HNE.out))).mono ?_); rintro r w6 ⟨u, v6, rfl, hj6, ho6, hl6, hl7, hk6⟩; obtain ⟨ua, uc, rfl⟩ := own_form ho6; have HC6 := Lib.hid (HC5.out.feed hj6 hl7 hk6); have HF6 := Lib.hid (HC5.out.jn.oth_blk hk6 HF5.out (by decide) (by decide)); have HO6 := Lib.hid ho6; have hN := And.intro HC6.out.blk.cells.2.2.2.1 HF6.out; clear hj6 ho6 hl6 hl7 hk6)
          refine hK.out _ _ ?_ (fun hS1 => ?_)
          · (first | exact hN | exact hS)
          clear hK K hS; have hS := hS1; clear hS1
          (try simp only [rgp])
          refine rgw 6 ⟨some 33, .move (.tmp 39), 99, _, _, none⟩ hS ?_
          refine rgw 7 ⟨some 40, .extract (.tmp 33) 0, 49, _, _, none⟩ hS ?_
          refine rgw 8 ⟨some 41, .extract (.tmp 33) 1, 4, _, _, none⟩ hS ?_
          refine rgw 9 ⟨some 42, .extract (.tmp 33) 2, 36, _, _, none⟩ hS ?_
          refine rgw 10 ⟨some 7, .assign (.tmp 40), 49, _, _, none⟩ hS ?_
          refine rgw 11 ⟨some 8, .assign (.tmp 41), 4, _, _, none⟩ hS ?_
          refine rgw 12 ⟨some 9, .assign (.tmp 42), 36, _, _, none⟩ hS ?_
          refine wpAnyH_done (by kernel_rfl) ?_ _
          clear hS hN HC5 HF5 HO5 HF6 HNE HFD
          obtain ⟨_, _, _, _, y4, _⟩ := HC6.out.blk.cells
          have f4 := HC6.out.blk.frozen 4
          obtain ⟨w7, hw7⟩ : ∃ q, w6.setCell ⟨sb, 4, none⟩ (.int .i64 (t : Int)) = q := ⟨_, rfl⟩
          have HC7 := Lib.hid (show SC W w7 sb jb ep bv kv t first fin g6 h6 v6 rv es pv places from by rw [← hw7]; exact HC6.out.set4 t)
          go_wp2
          go_ret
          exact .inl ⟨_, HNX.out, rfl, v6, rv, es, pv, HC7.out, HES.out⟩
        | false =>
          rw [if_neg (by decide)] at HNX2
          have HNX := Lib.hid HNX2
          clear HNX2
          have z4 := HC.out.blk.cells.2.2.2.2.1
          go_enter Tryz.func53, Tryz.ntmps53
          go_wp2_with (first
            | (go_at_call 67; (with_reducible refine (HBG.out _).mono ?_); rintro r w1 ⟨rfl, hb⟩; have HC1 := Lib.hid (HC.out.keep hb); clear hb)
            | (go_at_call 75; (refine (HFR.out _ HC1.out.blk HC1.out.below).mono ?_); rintro r w2 ⟨x2, c2, rfl, ho, hb⟩; have HC2 := Lib.hid (HC1.out.keep hb); have HO2 := Lib.hid ho; have HNE : Hid (∀ g, (Value.slice x2 d.length c2).ownBlock = some g → some g ≠ hv.ownBlock) := Lib.hid (fun g hg e => by have h1 := (HO2.out.lt g hg).1; have h2 := (HC1.out.jn.row.lt g e.symm).2; omega); clear ho hb)
            | (refine wpl_put_fr rfl (.tmp 4) (.tmp 19) rfl w2.heap.size (FO.alloc w2) k e x2 d.length c2 rfl rfl ?_; intro w3 HF3 HG3; have hb3 : Below w2.heap.size w2 w3 := below_over (balloc w2 _) HG3.out (Nat.le_refl _) (balloc w2 _).size; have HC3 := Lib.hid (HC2.out.keep hb3); have HO3 := Lib.hid (own_keep HO2.out hb3); clear hb3; have z3 := HC3.out.blk.cells.2.2.2.1; have z5 := HC3.out.blk.cells.2.2.2.2.2.1; have f5 := HC3.out.blk.frozen 5; obtain ⟨w4, hw4⟩ : ∃ q, w3.setCell ⟨sb, 5, none⟩ (.int .i64 (a : Int)) = q := ⟨_, rfl⟩; have HC4 := Lib.hid (show SC W w4 sb jb ep bv kv at0 a fin false h hv rv es pv places from by rw [← hw4]; exact HC3.out.set5 a); have HG4 := Lib.hid (show w3.grownBy w4 (some sb) from by rw [← hw4]; exact grown_store _ _ _ _); have HF4 := Lib.hid (HF3.out.over HG4.out (Nat.ne_of_gt HC2.out.blk.lt)); have HO4 := Lib.hid (own_over HO3.out HG4.out (fun q hq e => HC3.out.blk.ne_own HO3.out (by decide) q hq (Option.some.inj e))))
            | (go_at_call 68; (with_reducible refine (idle_any false _ jb _ HC3.out.jn.blk).mono ?_); rintro r w9 ⟨rfl, rfl⟩))
          have HC5 := Lib.hid (HC4.out.keep (Below.refl _ w4).drew)
          have HF5 := Lib.hid (HF4.out.keep (Below.refl _ w4).drew)
          have HO5 := Lib.hid (own_keep HO4.out (Below.refl _ w4).drew)
          clear z3 z4 HC3 HF3 HO3 HC1 HC2 HO2 HBG HFR
          clear z5 f5
          (try go_wp2_with fail)
          refine wp_region_held_drew (S := (fun w' => w'.cell? ⟨sb, 3, none⟩ = some (.pointer (some ⟨jb, 0, none⟩)) ∧ FO w' w2.heap.size k e (.slice x2 d.length c2))) (by kernel_rfl) ⟨HC5.out.blk.cells.2.2.2.1, HF5.out⟩ (fun hS => ?_)
          refine rgw 0 ⟨some 34, .move (.tmp 0), 111, _, _, none⟩ hS ?_
          refine rgw 1 ⟨some 35, .nilCheck (.tmp 34), 0, _, _, none⟩ hS ?_
          refine rgw 2 ⟨some 36, .fieldAddr 115 (.tmp 35) 3, 0, _, _, none⟩ hS ?_
          refine rgw 3 ⟨some 37, .load 94 (.tmp 36), 94, _, _, none⟩ hS ?_
          refine rgw 4 ⟨some 38, .load 82 (.tmp 4), 82, _, _, none⟩ hS ?_ (hy := by intro w hSw; (try dsimp only at hSw); refine exec_load_fr (.tmp 4) ?_ ?_ hSw.2 <;> rfl)
          refine rg_one 5 ⟨some 39, .call { callee := .value (.func 39), args := #[.tmp 37, .tmp 38], argTypes := #[94, 82] }, 99, _, _, none⟩ (by kernel_rfl) rfl (fun K hK => ?_)
          go_simp
          (go_at_call 39; (refine (HFD.out _ x2 c2 HC5.out.below HC5.out.jn (fun w' k => RI.own (HC5.out.jn.oth k HO5.out (by decide) HNE.out))).mono ?_); rintro r w6 ⟨u, v6, rfl, hj6, ho6, hl6, hl7, hk6⟩; obtain ⟨ua, uc, rfl⟩ := own_form ho6; have HC6 := Lib.hid (HC5.out.feed hj6 hl7 hk6); have HF6 := Lib.hid (HC5.out.jn.oth_blk hk6 HF5.out (by decide) (by decide)); have HO6 := Lib.hid ho6; have hN := And.intro HC6.out.blk.cells.2.2.2.1 HF6.out; clear hj6 ho6 hl6 hl7 hk6)
          refine hK.out _ _ ?_ (fun hS1 => ?_)
          · (first | exact hN | exact hS)
          clear hK K hS; have hS := hS1; clear hS1
          (try simp only [rgp])
          refine rgw 6 ⟨some 33, .move (.tmp 39), 99, _, _, none⟩ hS ?_
          refine rgw 7 ⟨some 40, .extract (.tmp 33) 0, 49, _, _, none⟩ hS ?_
          refine rgw 8 ⟨some 41, .extract (.tmp 33) 1, 4, _, _, none⟩ hS ?_
          refine rgw 9 ⟨some 42, .extract (.tmp 33) 2, 36, _, _, none⟩ hS ?_
          refine rgw 10 ⟨some 7, .assign (.tmp 40), 49, _, _, none⟩ hS ?_
          refine rgw 11 ⟨some 8, .assign (.tmp 41), 4, _, _, none⟩ hS ?_
          refine rgw 12 ⟨some 9, .assign (.tmp 42), 36, _, _, none⟩ hS ?_
          refine wpAnyH_done (by kernel_rfl) ?_ _
          clear hS hN HC5 HF5 HO5 HF6 HNE HFD
          obtain ⟨_, _, _, _, y4, _⟩ := HC6.out.blk.cells
          have f4 := HC6.out.blk.frozen 4
          obtain ⟨w7, hw7⟩ : ∃ q, w6.setCell ⟨sb, 4, none⟩ (.int .i64 (t : Int)) = q := ⟨_, rfl⟩
          have HC7 := Lib.hid (show SC W w7 sb jb ep bv kv t a fin g6 h6 v6 rv es pv places from by rw [← hw7]; exact HC6.out.set4 t)
          go_wp2
          go_ret
          exact .inl ⟨_, HNX.out, rfl, v6, rv, es, pv, HC7.out, HES.out⟩
    · have HNX := Lib.hid (HNXF (.inr her))
      have hne : (jErr o h k d != 0) = true := by simpa using her
      clear HNXF HNXT HSE HSG HFA hF hsz hm hc hs hT hB hBb hbv hk hes0 hrv hroom hfew hesl hGE her ht ham
      generalize jErr o h k d = er at *
      generalize jEnds o h k d = en at *
      generalize jGoes o h k d = g6 at *
      generalize jHad o h k d = h6 at *
      generalize jTell o h k d = t6 at *
      have HFD := Lib.hid HFD
      cases o with
      | true =>
        have z4 := HC.out.blk.cells.2.2.2.2.1
        go_enter Tryz.func53, Tryz.ntmps53
        go_wp2_with (first
          | (go_at_call 67; (with_reducible refine (HBG.out _).mono ?_); rintro r w1 ⟨rfl, hb⟩; have HC1 := Lib.hid (HC.out.keep hb); clear hb)
          | (go_at_call 75; (refine (HFR.out _ HC1.out.blk HC1.out.below).mono ?_); rintro r w2 ⟨x2, c2, rfl, ho, hb⟩; have HC2 := Lib.hid (HC1.out.keep hb); have HO2 := Lib.hid ho; have HNE : Hid (∀ g, (Value.slice x2 d.length c2).ownBlock = some g → some g ≠ hv.ownBlock) := Lib.hid (fun g hg e => by have h1 := (HO2.out.lt g hg).1; have h2 := (HC1.out.jn.row.lt g e.symm).2; omega); clear ho hb)
          | (refine wpl_put_fr rfl (.tmp 4) (.tmp 19) rfl w2.heap.size (FO.alloc w2) k e x2 d.length c2 rfl rfl ?_; intro w3 HF3 HG3; have hb3 : Below w2.heap.size w2 w3 := below_over (balloc w2 _) HG3.out (Nat.le_refl _) (balloc w2 _).size; have HC3 := Lib.hid (HC2.out.keep hb3); have HO3 := Lib.hid (own_keep HO2.out hb3); clear hb3; have z3 := HC3.out.blk.cells.2.2.2.1; have HC4 := HC3; have HF4 := HF3; have HO4 := HO3)
          | (go_at_call 68; (with_reducible refine (idle_any true _ jb _ HC3.out.jn.blk).mono ?_); rintro r w9 ⟨rfl, rfl⟩))
        have HC5 := Lib.hid (HC4.out.keep (Below.refl _ w3).drew)
        have HF5 := Lib.hid (HF4.out.keep (Below.refl _ w3).drew)
        have HO5 := Lib.hid (own_keep HO4.out (Below.refl _ w3).drew)
        clear z3 z4 HC3 HF3 HO3 HC1 HC2 HO2 HBG HFR
        (try go_wp2_with fail)
        refine wp_region_held_drew (S := (fun w' => w'.cell? ⟨sb, 3, none⟩ = some (.pointer (some ⟨jb, 0, none⟩)) ∧ FO w' w2.heap.size k e (.slice x2 d.length c2))) (by kernel_rfl) ⟨HC5.out.blk.cells.2.2.2.1, HF5.out⟩ (fun hS => ?_)
        refine rgw 0 ⟨some 34, .move (.tmp 0), 111, _, _, none⟩ hS ?_
        refine rgw 1 ⟨some 35, .nilCheck (.tmp 34), 0, _, _, none⟩ hS ?_
        refine rgw 2 ⟨some 36, .fieldAddr 115 (.tmp 35) 3, 0, _, _, none⟩ hS ?_
        refine rgw 3 ⟨some 37, .load 94 (.tmp 36), 94, _, _, none⟩ hS ?_
        refine rgw 4 ⟨some 38, .load 82 (.tmp 4), 82, _, _, none⟩ hS ?_ (hy := by intro w hSw; (try dsimp only at hSw); refine exec_load_fr (.tmp 4) ?_ ?_ hSw.2 <;> rfl)
        refine rg_one 5 ⟨some 39, .call { callee := .value (.func 39), args := #[.tmp 37, .tmp 38], argTypes := #[94, 82] }, 99, _, _, none⟩ (by kernel_rfl) rfl (fun K hK => ?_)
        go_simp
        (go_at_call 39; (refine (HFD.out _ x2 c2 HC5.out.below HC5.out.jn (fun w' k => RI.own (HC5.out.jn.oth k HO5.out (by decide) HNE.out))).mono ?_); rintro r w6 ⟨u, v6, rfl, hj6, ho6, hl6, hl7, hk6⟩; obtain ⟨ua, uc, rfl⟩ := own_form ho6; have HC6 := Lib.hid (HC5.out.feed hj6 hl7 hk6); have HF6 := Lib.hid (HC5.out.jn.oth_blk hk6 HF5.out (by decide) (by decide)); have HO6 := Lib.hid ho6; have hN := And.intro HC6.out.blk.cells.2.2.2.1 HF6.out; clear hj6 ho6 hl6 hl7 hk6)
        refine hK.out _ _ ?_ (fun hS1 => ?_)
        · (first | exact hN | exact hS)
        clear hK K hS; have hS := hS1; clear hS1
        (try simp only [rgp])
        refine rgw 6 ⟨some 33, .move (.tmp 39), 99, _, _, none⟩ hS ?_
        refine rgw 7 ⟨some 40, .extract (.tmp 33) 0, 49, _, _, none⟩ hS ?_
        refine rgw 8 ⟨some 41, .extract (.tmp 33) 1, 4, _, _, none⟩ hS ?_
        refine rgw 9 ⟨some 42, .extract (.tmp 33) 2, 36, _, _, none⟩ hS ?_
        refine rgw 10 ⟨some 7, .assign (.tmp 40), 49, _, _, none⟩ hS ?_
        refine rgw 11 ⟨some 8, .assign (.tmp 41), 4, _, _, none⟩ hS ?_
        refine rgw 12 ⟨some 9, .assign (.tmp 42), 36, _, _, none⟩ hS ?_
        refine wpAnyH_done (by kernel_rfl) ?_ _
        clear hS hN HC5 HF5 HO5 HF6 HNE HFD
        go_wp2
        go_ret
        exact .inr ⟨HNX.out, rfl, ⟨at0, first, g6, h6, recs, places, fin⟩, ⟨_, _, _, _, HC6.out, HES.out⟩, rfl, rfl, rfl⟩
      | false =>
        have z4 := HC.out.blk.cells.2.2.2.2.1
        go_enter Tryz.func53, Tryz.ntmps53
        go_wp2_with (first
          | (go_at_call 67; (with_reducible refine (HBG.out _).mono ?_); rintro r w1 ⟨rfl, hb⟩; have HC1 := Lib.hid (HC.out.keep hb); clear hb)
          | (go_at_call 75; (refine (HFR.out _ HC1.out.blk HC1.out.below).mono ?_); rintro r w2 ⟨x2, c2, rfl, ho, hb⟩; have HC2 := Lib.hid (HC1.out.keep hb); have HO2 := Lib.hid ho; have HNE : Hid (∀ g, (Value.slice x2 d.length c2).ownBlock = some g → some g ≠ hv.ownBlock) := Lib.hid (fun g hg e => by have h1 := (HO2.out.lt g hg).1; have h2 := (HC1.out.jn.row.lt g e.symm).2; omega); clear ho hb)
          | (refine wpl_put_fr rfl (.tmp 4) (.tmp 19) rfl w2.heap.size (FO.alloc w2) k e x2 d.length c2 rfl rfl ?_; intro w3 HF3 HG3; have hb3 : Below w2.heap.size w2 w3 := below_over (balloc w2 _) HG3.out (Nat.le_refl _) (balloc w2 _).size; have HC3 := Lib.hid (HC2.out.keep hb3); have HO3 := Lib.hid (own_keep HO2.out hb3); clear hb3; have z3 := HC3.out.blk.cells.2.2.2.1; have z5 := HC3.out.blk.cells.2.2.2.2.2.1; have f5 := HC3.out.blk.frozen 5; obtain ⟨w4, hw4⟩ : ∃ q, w3.setCell ⟨sb, 5, none⟩ (.int .i64 (a : Int)) = q := ⟨_, rfl⟩; have HC4 := Lib.hid (show SC W w4 sb jb ep bv kv at0 a fin false h hv rv es pv places from by rw [← hw4]; exact HC3.out.set5 a); have HG4 := Lib.hid (show w3.grownBy w4 (some sb) from by rw [← hw4]; exact grown_store _ _ _ _); have HF4 := Lib.hid (HF3.out.over HG4.out (Nat.ne_of_gt HC2.out.blk.lt)); have HO4 := Lib.hid (own_over HO3.out HG4.out (fun q hq e => HC3.out.blk.ne_own HO3.out (by decide) q hq (Option.some.inj e))))
          | (go_at_call 68; (with_reducible refine (idle_any false _ jb _ HC3.out.jn.blk).mono ?_); rintro r w9 ⟨rfl, rfl⟩))
        have HC5 := Lib.hid (HC4.out.keep (Below.refl _ w4).drew)
        have HF5 := Lib.hid (HF4.out.keep (Below.refl _ w4).drew)
        have HO5 := Lib.hid (own_keep HO4.out (Below.refl _ w4).drew)
        clear z3 z4 HC3 HF3 HO3 HC1 HC2 HO2 HBG HFR
        clear z5 f5
        (try go_wp2_with fail)
        refine wp_region_held_drew (S := (fun w' => w'.cell? ⟨sb, 3, none⟩ = some (.pointer (some ⟨jb, 0, none⟩)) ∧ FO w' w2.heap.size k e (.slice x2 d.length c2))) (by kernel_rfl) ⟨HC5.out.blk.cells.2.2.2.1, HF5.out⟩ (fun hS => ?_)
        refine rgw 0 ⟨some 34, .move (.tmp 0), 111, _, _, none⟩ hS ?_
        refine rgw 1 ⟨some 35, .nilCheck (.tmp 34), 0, _, _, none⟩ hS ?_
        refine rgw 2 ⟨some 36, .fieldAddr 115 (.tmp 35) 3, 0, _, _, none⟩ hS ?_
        refine rgw 3 ⟨some 37, .load 94 (.tmp 36), 94, _, _, none⟩ hS ?_
        refine rgw 4 ⟨some 38, .load 82 (.tmp 4), 82, _, _, none⟩ hS ?_ (hy := by intro w hSw; (try dsimp only at hSw); refine exec_load_fr (.tmp 4) ?_ ?_ hSw.2 <;> rfl)
        refine rg_one 5 ⟨some 39, .call { callee := .value (.func 39), args := #[.tmp 37, .tmp 38], argTypes := #[94, 82] }, 99, _, _, none⟩ (by kernel_rfl) rfl (fun K hK => ?_)
        go_simp
        (go_at_call 39; (refine (HFD.out _ x2 c2 HC5.out.below HC5.out.jn (fun w' k => RI.own (HC5.out.jn.oth k HO5.out (by decide) HNE.out))).mono ?_); rintro r w6 ⟨u, v6, rfl, hj6, ho6, hl6, hl7, hk6⟩; obtain ⟨ua, uc, rfl⟩ := own_form ho6; have HC6 := Lib.hid (HC5.out.feed hj6 hl7 hk6); have HF6 := Lib.hid (HC5.out.jn.oth_blk hk6 HF5.out (by decide) (by decide)); have HO6 := Lib.hid ho6; have hN := And.intro HC6.out.blk.cells.2.2.2.1 HF6.out; clear hj6 ho6 hl6 hl7 hk6)
        refine hK.out _ _ ?_ (fun hS1 => ?_)
        · (first | exact hN | exact hS)
        clear hK K hS; have hS := hS1; clear hS1
        (try simp only [rgp])
        refine rgw 6 ⟨some 33, .move (.tmp 39), 99, _, _, none⟩ hS ?_
        refine rgw 7 ⟨some 40, .extract (.tmp 33) 0, 49, _, _, none⟩ hS ?_
        refine rgw 8 ⟨some 41, .extract (.tmp 33) 1, 4, _, _, none⟩ hS ?_
        refine rgw 9 ⟨some 42, .extract (.tmp 33) 2, 36, _, _, none⟩ hS ?_
        refine rgw 10 ⟨some 7, .assign (.tmp 40), 49, _, _, none⟩ hS ?_
        refine rgw 11 ⟨some 8, .assign (.tmp 41), 4, _, _, none⟩ hS ?_
        refine rgw 12 ⟨some 9, .assign (.tmp 42), 36, _, _, none⟩ hS ?_
        refine wpAnyH_done (by kernel_rfl) ?_ _
        clear hS hN HC5 HF5 HO5 HF6 HNE HFD
        go_wp2
        go_ret
        exact .inr ⟨HNX.out, rfl, ⟨at0, a, g6, h6, recs, places, fin⟩, ⟨_, _, _, _, HC6.out, HES.out⟩, rfl, rfl, rfl⟩
end Go.Proofs.YtnmplnemnfonfaaGreatDoor
