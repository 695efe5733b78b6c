/-
  WHAT Feed OF THE PROGRAM'S LAYER 15 (join) ANSWERS. The fragment's bytes must lie apart from the joiner.
-/
import Derived.Test.YtbnedcghbdphlaaJoinCode
namespace Go.Proofs.Ytbnedcghbdphlaa
open Go.RowKit
set_option maxRecDepth 8000 in
set_option maxHeartbeats 2000000 in
/-- a record's end -/
theorem feed_ends (W : World) (o : Bool) (jb : Nat) (v : Value) (h : List Int) (k ep : Int) (dv : Value) (n : Nat) (d : List Int) (w : World) (hW : Below W.heap.size W w) (hj : JB w W.heap.size jb o v h) (hri : RI .u8 W dv n d)
    (hk : (o = false ∧ k = 1) ∨ (o = true ∧ k = 4)) (hl : ¬ h.length + n > 512) :
    Calls Try.prog 8 #[.pointer (some ⟨jb, 0, none⟩), .agg (fA k ep dv)] w fun e w' =>
      ∃ u, e = .returned (.tuple #[u, .bool true, .int .i64 0]) ∧ JB w' W.heap.size jb false (.slice none 0 0) [] ∧ w'.ownsRow W.heap.size 5 1 u (h ++ d).length (il .u8 (h ++ d)) ∧ Lies w v u ∧ Oth w w' jb v := by
  have hzl := hri.length
  have HR := Lib.hid hri
  have HW := Lib.hid hW
  obtain ⟨hn, hhn⟩ : ∃ m, h.length = m := ⟨_, rfl⟩
  have hr := hj.row
  rw [hhn] at hr hl
  have hfew := hj.few
  rw [hhn] at hfew
  obtain ⟨va, vc, rfl⟩ := own_form hr
  have HJ := Lib.hid hj
  obtain ⟨da, dc, rfl, _, hdc, hdm, _⟩ := hri
  have HN := Lib.hid hhn
  have HZ := Lib.hid hzl
  clear hj hW hzl hhn hr
  rcases hk with ⟨rfl, rfl⟩ | ⟨rfl, rfl⟩
  · go_enter Try.func8, Try.ntmps8
    go_wp2
    go_step3
    go_wp2_with fail
    obtain ⟨w1, hw1⟩ : ∃ q, w.alloc (.cells (fA 1 ep (.slice da n dc)) 34) = q := ⟨_, rfl⟩
    rw [hw1]
    obtain ⟨fb, hfb⟩ : ∃ q, w.heap.size = q := ⟨_, rfl⟩
    have hb1 : Below w.heap.size w w1 := hw1 ▸ balloc w _
    have HF1 : Hid (FO w1 fb 1 ep (.slice da n dc)) := Lib.hid (by rw [← hw1, ← hfb]; exact FO.alloc w)
    have HB1 := Lib.hid hb1
    have HJ1 := Lib.hid (HJ.out.keep hb1)
    rw [hfb]
    clear hb1 hw1 hfb
    refine wp_region_held_drew (S := (fun w' => Below w1.heap.size w1 w')) (by kernel_rfl) ((Below.refl w1.heap.size w1).drew) (fun hS => ?_)
    refine wpAnyH_take (i := 0) (oi := ({ dst := some 11, op := Op.move (Operand.tmp 0), type := 24, pos := "join.go:24", after := #[], guard := none } : Oper)) (v := ?_) rfl (by kernel_rfl) (by kernel_rfl) (by kernel_rfl) (fun _ _ _ h => h) (Or.inl ⟨by rfl, ?_⟩) hS ?_
    rotate_left
    · (intro w hSw; (try dsimp only at hSw); go_simp; try with_reducible rfl)
    (try simp only [Act.put, List.setIfInBounds_toArray, List.set_cons_zero, List.set_cons_succ])
    refine wpAnyH_take (i := 2) (oi := ({ dst := some 13, op := Op.move (Operand.tmp 0), type := 24, pos := "join.go:24", after := #[{ on := 6, ground := Ground.gcOnly Departure.lateStores }], guard := none } : Oper)) (v := ?_) rfl (by kernel_rfl) (by kernel_rfl) (by kernel_rfl) (fun _ _ _ h => h) (Or.inl ⟨by rfl, ?_⟩) hS ?_
    rotate_left
    · (intro w hSw; (try dsimp only at hSw); go_simp; try with_reducible rfl)
    (try simp only [Act.put, List.setIfInBounds_toArray, List.set_cons_zero, List.set_cons_succ])
    refine wpAnyH_take (i := 3) (oi := ({ dst := some 14, op := Op.nilCheck (Operand.tmp 13), type := 0, pos := "join.go:24", after := #[{ on := 2, ground := Ground.data }, { on := 6, ground := Ground.gcOnly Departure.lateStores }], guard := none } : Oper)) (v := ?_) rfl (by kernel_rfl) (by kernel_rfl) (by kernel_rfl) (fun _ _ _ h => h) (Or.inl ⟨by rfl, ?_⟩) hS ?_
    rotate_left
    · (intro w hSw; (try dsimp only at hSw); go_simp; try with_reducible rfl)
    (try simp only [Act.put, List.setIfInBounds_toArray, List.set_cons_zero, List.set_cons_succ])
    refine wpAnyH_take (i := 4) (oi := ({ dst := some 15, op := Op.fieldAddr 50 (Operand.tmp 14) 1, type := 0, pos := "join.go:24", after := #[{ on := 3, ground := Ground.data }, { on := 6, ground := Ground.gcOnly Departure.lateStores }], guard := none } : Oper)) (v := ?_) rfl (by kernel_rfl) (by kernel_rfl) (by kernel_rfl) (fun _ _ _ h => h) (Or.inl ⟨by rfl, ?_⟩) hS ?_
    rotate_left
    · (intro w hSw; (try dsimp only at hSw); go_simp; try with_reducible rfl)
    (try simp only [Act.put, List.setIfInBounds_toArray, List.set_cons_zero, List.set_cons_succ])
    refine wpAnyH_take (i := 5) (oi := ({ dst := some 16, op := Op.load 26 (Operand.tmp 15), type := 26, pos := "join.go:24", after := #[{ on := 4, ground := Ground.data }, { on := 6, ground := Ground.gcOnly Departure.lateStores }], guard := none } : Oper)) (v := .slice va hn vc) rfl (by kernel_rfl) (by kernel_rfl) (by kernel_rfl) (fun _ _ _ h => h) (Or.inl ⟨by rfl, ?_⟩) hS ?_
    · (intro w hSw; (try dsimp only at hSw); have z := (HJ1.out.blk.keep hSw).cells.2; go_simp)
    (try simp only [Act.put, List.setIfInBounds_toArray, List.set_cons_zero, List.set_cons_succ])
    refine rg_one 1 ({ dst := some 12, op := Op.call { callee := Callee.value (Operand.func 10), args := #[Operand.tmp 11], argTypes := #[24] }, type := 4, pos := "join.go:24", after := #[{ on := 0, ground := Ground.data }], guard := none } : Oper) (by kernel_rfl) rfl (fun K hK => ?_)
    go_simp
    (go_at_call 10; (with_reducible refine (idle_any false (.slice va hn vc) jb _ (HJ1.out.blk.keep hS)).mono ?_); rintro e w6 ⟨rfl, rfl⟩)
    refine hK.out _ _ ?_ (fun hS1 => ?_)
    · (exact hS)
    clear hK K hS; have hS := hS1; clear hS1
    (try simp only [Act.put, List.setIfInBounds_toArray, List.set_cons_zero, List.set_cons_succ])
    refine wpAnyH_take (i := 6) (oi := ({ dst := some 7, op := Op.assign (Operand.tmp 12), type := 4, pos := "join.go:24", after := #[{ on := 1, ground := Ground.data }, { on := 1, ground := Ground.chain }, { on := 0, ground := Ground.phase }, { on := 1, ground := Ground.phase }, { on := 2, ground := Ground.textOnly Departure.lateStores }, { on := 3, ground := Ground.textOnly Departure.lateStores }, { on := 4, ground := Ground.textOnly Departure.lateStores }, { on := 5, ground := Ground.textOnly Departure.lateStores }], guard := none } : Oper)) (v := ?_) rfl (by kernel_rfl) (by kernel_rfl) (by kernel_rfl) (fun _ _ _ h => h) (Or.inl ⟨by rfl, ?_⟩) hS ?_
    rotate_left
    · (intro w hSw; (try dsimp only at hSw); go_simp; try with_reducible rfl)
    (try simp only [Act.put, List.setIfInBounds_toArray, List.set_cons_zero, List.set_cons_succ])
    refine wpAnyH_take (i := 7) (oi := ({ dst := some 8, op := Op.assign (Operand.tmp 16), type := 26, pos := "join.go:24", after := #[{ on := 5, ground := Ground.data }, { on := 6, ground := Ground.chain }, { on := 0, ground := Ground.phase }, { on := 1, ground := Ground.phase }, { on := 2, ground := Ground.phase }, { on := 3, ground := Ground.phase }, { on := 4, ground := Ground.phase }, { on := 5, ground := Ground.phase }, { on := 6, ground := Ground.phase }], guard := none } : Oper)) (v := ?_) rfl (by kernel_rfl) (by kernel_rfl) (by kernel_rfl) (fun _ _ _ h => h) (Or.inl ⟨by rfl, ?_⟩) hS ?_
    rotate_left
    · (intro w hSw; (try dsimp only at hSw); go_simp; try with_reducible rfl)
    (try simp only [Act.put, List.setIfInBounds_toArray, List.set_cons_zero, List.set_cons_succ])
    refine wpAnyH_done (by kernel_rfl) ?_ _
    obtain ⟨w2, hw2⟩ : ∃ q, World.drew w1 = q := ⟨_, rfl⟩
    rw [hw2] at hS
    simp only [hw2]
    have HB2 := Lib.hid (bch HB1.out hS)
    have HF2 := Lib.hid (HF1.out.keep hS)
    have HJ2 := Lib.hid (HJ1.out.keep hS)
    clear hS hw2
    go_wp2_with (first
      | (refine wpList_store_row rfl 50 _ _ rfl jb (jA false (.slice none 0 0)) rfl rfl _ _ HJ2.out.blk (jo_info _ _) rfl (jo_one _ _ _ _) ?_))
    obtain ⟨w3, hw3⟩ : ∃ q, w2.setRow jb (jA false (.slice none 0 0)) = q := ⟨_, rfl⟩
    rw [hw3]
    have HO3 : Hid (Oth w w3 jb (.slice va hn vc)) := Lib.hid (hw3 ▸ (Oth.of_below HB2.out).trans (Oth.row w2 jb _ _))
    have HF3 : Hid (FO w3 fb 1 ep (.slice da n dc)) := Lib.hid (hw3 ▸ HF2.out.apart (HJ2.out.blk.ne HF2.out (by decide)) _)
    have HR3 : Hid (w3.ownsRow W.heap.size 5 1 (.slice va hn vc) hn (il .u8 h)) := Lib.hid (by rw [← hw3]; have z := HJ2.out.blk.row_own (jA false (.slice none 0 0)) HJ2.out.row (by decide); rw [HN.out] at z; exact z)
    have HJ3 : Hid (JO w3 jb false (.slice none 0 0)) := Lib.hid (hw3 ▸ HJ2.out.blk.row _ _)
    obtain ⟨f30, f31, f32⟩ := HF3.out.cells
    have hlow := HJ.out.low
    clear hw3
    go_step3
    go_wp2_with (first
      | (at_builtin; go_loud (refine wpl_appw rfl (.tmp 39) (.tmp 41) 26 rfl 5 .u8 1 Try.underlying26 Try.info_u8 W.heap.size (.slice va hn vc) hn h rfl HR3.out _ n d rfl (HR.out.keep (HW.out.trans (HJ.out.below HO3.out))) (by omega) (by omega) (HW.out.trans (HJ.out.below HO3.out)).size ?_); intro v4 w4 HR4 HG4 HL4; have HO4 := Lib.hid (HO3.out.trans (Oth.grown HG4.out)); have HJ4 := Lib.hid (HJ3.out.grown HR3.out (by decide) HG4.out); obtain ⟨a4, c4, rfl⟩ := own_form HR4.out; obtain ⟨g0, g1, g2⟩ := (HF3.out.grown HR3.out HG4.out).cells))
    try rw [Exit.noGoto_ret]
    go_ret3
    refine ⟨.slice a4 (hn + n) c4, rfl, ⟨HJ4.out, World.ownsRow_nil _ _ _ _, fun _ => ⟨rfl, rfl⟩, by simp, hlow⟩, ?_, ?_, HO4.out⟩
    · rw [List.length_append, HN.out, HZ.out]; exact HR4.out
    · intro g hg
      rcases HL4.out with e | e
      · exact .inl (by rw [← e]; exact hg.symm)
      · rw [hg] at e; obtain rfl := Option.some.inj e; exact .inr HO3.out.size
  · go_enter Try.func8, Try.ntmps8
    go_wp2
    go_step3
    go_wp2_with fail
    obtain ⟨w1, hw1⟩ : ∃ q, w.alloc (.cells (fA 4 ep (.slice da n dc)) 34) = q := ⟨_, rfl⟩
    rw [hw1]
    obtain ⟨fb, hfb⟩ : ∃ q, w.heap.size = q := ⟨_, rfl⟩
    have hb1 : Below w.heap.size w w1 := hw1 ▸ balloc w _
    have HF1 : Hid (FO w1 fb 4 ep (.slice da n dc)) := Lib.hid (by rw [← hw1, ← hfb]; exact FO.alloc w)
    have HB1 := Lib.hid hb1
    have HJ1 := Lib.hid (HJ.out.keep hb1)
    rw [hfb]
    clear hb1 hw1 hfb
    refine wp_region_held_drew (S := (fun w' => Below w1.heap.size w1 w')) (by kernel_rfl) ((Below.refl w1.heap.size w1).drew) (fun hS => ?_)
    refine wpAnyH_take (i := 0) (oi := ({ dst := some 11, op := Op.move (Operand.tmp 0), type := 24, pos := "join.go:24", after := #[], guard := none } : Oper)) (v := ?_) rfl (by kernel_rfl) (by kernel_rfl) (by kernel_rfl) (fun _ _ _ h => h) (Or.inl ⟨by rfl, ?_⟩) hS ?_
    rotate_left
    · (intro w hSw; (try dsimp only at hSw); go_simp; try with_reducible rfl)
    (try simp only [Act.put, List.setIfInBounds_toArray, List.set_cons_zero, List.set_cons_succ])
    refine wpAnyH_take (i := 2) (oi := ({ dst := some 13, op := Op.move (Operand.tmp 0), type := 24, pos := "join.go:24", after := #[{ on := 6, ground := Ground.gcOnly Departure.lateStores }], guard := none } : Oper)) (v := ?_) rfl (by kernel_rfl) (by kernel_rfl) (by kernel_rfl) (fun _ _ _ h => h) (Or.inl ⟨by rfl, ?_⟩) hS ?_
    rotate_left
    · (intro w hSw; (try dsimp only at hSw); go_simp; try with_reducible rfl)
    (try simp only [Act.put, List.setIfInBounds_toArray, List.set_cons_zero, List.set_cons_succ])
    refine wpAnyH_take (i := 3) (oi := ({ dst := some 14, op := Op.nilCheck (Operand.tmp 13), type := 0, pos := "join.go:24", after := #[{ on := 2, ground := Ground.data }, { on := 6, ground := Ground.gcOnly Departure.lateStores }], guard := none } : Oper)) (v := ?_) rfl (by kernel_rfl) (by kernel_rfl) (by kernel_rfl) (fun _ _ _ h => h) (Or.inl ⟨by rfl, ?_⟩) hS ?_
    rotate_left
    · (intro w hSw; (try dsimp only at hSw); go_simp; try with_reducible rfl)
    (try simp only [Act.put, List.setIfInBounds_toArray, List.set_cons_zero, List.set_cons_succ])
    refine wpAnyH_take (i := 4) (oi := ({ dst := some 15, op := Op.fieldAddr 50 (Operand.tmp 14) 1, type := 0, pos := "join.go:24", after := #[{ on := 3, ground := Ground.data }, { on := 6, ground := Ground.gcOnly Departure.lateStores }], guard := none } : Oper)) (v := ?_) rfl (by kernel_rfl) (by kernel_rfl) (by kernel_rfl) (fun _ _ _ h => h) (Or.inl ⟨by rfl, ?_⟩) hS ?_
    rotate_left
    · (intro w hSw; (try dsimp only at hSw); go_simp; try with_reducible rfl)
    (try simp only [Act.put, List.setIfInBounds_toArray, List.set_cons_zero, List.set_cons_succ])
    refine wpAnyH_take (i := 5) (oi := ({ dst := some 16, op := Op.load 26 (Operand.tmp 15), type := 26, pos := "join.go:24", after := #[{ on := 4, ground := Ground.data }, { on := 6, ground := Ground.gcOnly Departure.lateStores }], guard := none } : Oper)) (v := .slice va hn vc) rfl (by kernel_rfl) (by kernel_rfl) (by kernel_rfl) (fun _ _ _ h => h) (Or.inl ⟨by rfl, ?_⟩) hS ?_
    · (intro w hSw; (try dsimp only at hSw); have z := (HJ1.out.blk.keep hSw).cells.2; go_simp)
    (try simp only [Act.put, List.setIfInBounds_toArray, List.set_cons_zero, List.set_cons_succ])
    refine rg_one 1 ({ dst := some 12, op := Op.call { callee := Callee.value (Operand.func 10), args := #[Operand.tmp 11], argTypes := #[24] }, type := 4, pos := "join.go:24", after := #[{ on := 0, ground := Ground.data }], guard := none } : Oper) (by kernel_rfl) rfl (fun K hK => ?_)
    go_simp
    (go_at_call 10; (with_reducible refine (idle_any true (.slice va hn vc) jb _ (HJ1.out.blk.keep hS)).mono ?_); rintro e w6 ⟨rfl, rfl⟩)
    refine hK.out _ _ ?_ (fun hS1 => ?_)
    · (exact hS)
    clear hK K hS; have hS := hS1; clear hS1
    (try simp only [Act.put, List.setIfInBounds_toArray, List.set_cons_zero, List.set_cons_succ])
    refine wpAnyH_take (i := 6) (oi := ({ dst := some 7, op := Op.assign (Operand.tmp 12), type := 4, pos := "join.go:24", after := #[{ on := 1, ground := Ground.data }, { on := 1, ground := Ground.chain }, { on := 0, ground := Ground.phase }, { on := 1, ground := Ground.phase }, { on := 2, ground := Ground.textOnly Departure.lateStores }, { on := 3, ground := Ground.textOnly Departure.lateStores }, { on := 4, ground := Ground.textOnly Departure.lateStores }, { on := 5, ground := Ground.textOnly Departure.lateStores }], guard := none } : Oper)) (v := ?_) rfl (by kernel_rfl) (by kernel_rfl) (by kernel_rfl) (fun _ _ _ h => h) (Or.inl ⟨by rfl, ?_⟩) hS ?_
    rotate_left
    · (intro w hSw; (try dsimp only at hSw); go_simp; try with_reducible rfl)
    (try simp only [Act.put, List.setIfInBounds_toArray, List.set_cons_zero, List.set_cons_succ])
    refine wpAnyH_take (i := 7) (oi := ({ dst := some 8, op := Op.assign (Operand.tmp 16), type := 26, pos := "join.go:24", after := #[{ on := 5, ground := Ground.data }, { on := 6, ground := Ground.chain }, { on := 0, ground := Ground.phase }, { on := 1, ground := Ground.phase }, { on := 2, ground := Ground.phase }, { on := 3, ground := Ground.phase }, { on := 4, ground := Ground.phase }, { on := 5, ground := Ground.phase }, { on := 6, ground := Ground.phase }], guard := none } : Oper)) (v := ?_) rfl (by kernel_rfl) (by kernel_rfl) (by kernel_rfl) (fun _ _ _ h => h) (Or.inl ⟨by rfl, ?_⟩) hS ?_
    rotate_left
    · (intro w hSw; (try dsimp only at hSw); go_simp; try with_reducible rfl)
    (try simp only [Act.put, List.setIfInBounds_toArray, List.set_cons_zero, List.set_cons_succ])
    refine wpAnyH_done (by kernel_rfl) ?_ _
    obtain ⟨w2, hw2⟩ : ∃ q, World.drew w1 = q := ⟨_, rfl⟩
    rw [hw2] at hS
    simp only [hw2]
    have HB2 := Lib.hid (bch HB1.out hS)
    have HF2 := Lib.hid (HF1.out.keep hS)
    have HJ2 := Lib.hid (HJ1.out.keep hS)
    clear hS hw2
    go_wp2_with (first
      | (refine wpList_store_row rfl 50 _ _ rfl jb (jA false (.slice none 0 0)) rfl rfl _ _ HJ2.out.blk (jo_info _ _) rfl (jo_one _ _ _ _) ?_))
    obtain ⟨w3, hw3⟩ : ∃ q, w2.setRow jb (jA false (.slice none 0 0)) = q := ⟨_, rfl⟩
    rw [hw3]
    have HO3 : Hid (Oth w w3 jb (.slice va hn vc)) := Lib.hid (hw3 ▸ (Oth.of_below HB2.out).trans (Oth.row w2 jb _ _))
    have HF3 : Hid (FO w3 fb 4 ep (.slice da n dc)) := Lib.hid (hw3 ▸ HF2.out.apart (HJ2.out.blk.ne HF2.out (by decide)) _)
    have HR3 : Hid (w3.ownsRow W.heap.size 5 1 (.slice va hn vc) hn (il .u8 h)) := Lib.hid (by rw [← hw3]; have z := HJ2.out.blk.row_own (jA false (.slice none 0 0)) HJ2.out.row (by decide); rw [HN.out] at z; exact z)
    have HJ3 : Hid (JO w3 jb false (.slice none 0 0)) := Lib.hid (hw3 ▸ HJ2.out.blk.row _ _)
    obtain ⟨f30, f31, f32⟩ := HF3.out.cells
    have hlow := HJ.out.low
    clear hw3
    go_step3
    go_wp2_with (first
      | (at_builtin; go_loud (refine wpl_appw rfl (.tmp 39) (.tmp 41) 26 rfl 5 .u8 1 Try.underlying26 Try.info_u8 W.heap.size (.slice va hn vc) hn h rfl HR3.out _ n d rfl (HR.out.keep (HW.out.trans (HJ.out.below HO3.out))) (by omega) (by omega) (HW.out.trans (HJ.out.below HO3.out)).size ?_); intro v4 w4 HR4 HG4 HL4; have HO4 := Lib.hid (HO3.out.trans (Oth.grown HG4.out)); have HJ4 := Lib.hid (HJ3.out.grown HR3.out (by decide) HG4.out); obtain ⟨a4, c4, rfl⟩ := own_form HR4.out; obtain ⟨g0, g1, g2⟩ := (HF3.out.grown HR3.out HG4.out).cells))
    try rw [Exit.noGoto_ret]
    go_ret3
    refine ⟨.slice a4 (hn + n) c4, rfl, ⟨HJ4.out, World.ownsRow_nil _ _ _ _, fun _ => ⟨rfl, rfl⟩, by simp, hlow⟩, ?_, ?_, HO4.out⟩
    · rw [List.length_append, HN.out, HZ.out]; exact HR4.out
    · intro g hg
      rcases HL4.out with e | e
      · exact .inl (by rw [← e]; exact hg.symm)
      · rw [hg] at e; obtain rfl := Option.some.inj e; exact .inr HO3.out.size
set_option maxRecDepth 8000 in
set_option maxHeartbeats 2000000 in
/-- a record goes on -/
theorem feed_goes (W : World) (o : Bool) (jb : Nat) (v : Value) (h : List Int) (k ep : Int) (dv : Value) (n : Nat) (d : List Int) (w : World) (hW : Below W.heap.size W w) (hj : JB w W.heap.size jb o v h) (hri : RI .u8 W dv n d)
    (hk : (o = false ∧ k = 2) ∨ (o = true ∧ k = 3)) (hl : ¬ h.length + n > 512) :
    Calls Try.prog 8 #[.pointer (some ⟨jb, 0, none⟩), .agg (fA k ep dv)] w fun e w' =>
      ∃ u, e = .returned (.tuple #[.slice none 0 0, .bool false, .int .i64 0]) ∧ JB w' W.heap.size jb true u (h ++ d) ∧ Lies w v u ∧ Oth w w' jb v := by
  have hzl := hri.length
  have HR := Lib.hid hri
  have HW := Lib.hid hW
  obtain ⟨hn, hhn⟩ : ∃ m, h.length = m := ⟨_, rfl⟩
  have hr := hj.row
  rw [hhn] at hr hl
  have hfew := hj.few
  rw [hhn] at hfew
  obtain ⟨va, vc, rfl⟩ := own_form hr
  have HJ := Lib.hid hj
  obtain ⟨da, dc, rfl, _, hdc, hdm, _⟩ := hri
  have HN := Lib.hid hhn
  have HZ := Lib.hid hzl
  clear hj hW hzl hhn hr
  rcases hk with ⟨rfl, rfl⟩ | ⟨rfl, rfl⟩
  · go_enter Try.func8, Try.ntmps8
    go_wp2
    go_step3
    go_wp2_with fail
    obtain ⟨w1, hw1⟩ : ∃ q, w.alloc (.cells (fA 2 ep (.slice da n dc)) 34) = q := ⟨_, rfl⟩
    rw [hw1]
    obtain ⟨fb, hfb⟩ : ∃ q, w.heap.size = q := ⟨_, rfl⟩
    have hb1 : Below w.heap.size w w1 := hw1 ▸ balloc w _
    have HF1 : Hid (FO w1 fb 2 ep (.slice da n dc)) := Lib.hid (by rw [← hw1, ← hfb]; exact FO.alloc w)
    have HB1 := Lib.hid hb1
    have HJ1 := Lib.hid (HJ.out.keep hb1)
    rw [hfb]
    clear hb1 hw1 hfb
    refine wp_region_held_drew (S := (fun w' => Below w1.heap.size w1 w')) (by kernel_rfl) ((Below.refl w1.heap.size w1).drew) (fun hS => ?_)
    refine wpAnyH_take (i := 0) (oi := ({ dst := some 11, op := Op.move (Operand.tmp 0), type := 24, pos := "join.go:24", after := #[], guard := none } : Oper)) (v := ?_) rfl (by kernel_rfl) (by kernel_rfl) (by kernel_rfl) (fun _ _ _ h => h) (Or.inl ⟨by rfl, ?_⟩) hS ?_
    rotate_left
    · (intro w hSw; (try dsimp only at hSw); go_simp; try with_reducible rfl)
    (try simp only [Act.put, List.setIfInBounds_toArray, List.set_cons_zero, List.set_cons_succ])
    refine wpAnyH_take (i := 2) (oi := ({ dst := some 13, op := Op.move (Operand.tmp 0), type := 24, pos := "join.go:24", after := #[{ on := 6, ground := Ground.gcOnly Departure.lateStores }], guard := none } : Oper)) (v := ?_) rfl (by kernel_rfl) (by kernel_rfl) (by kernel_rfl) (fun _ _ _ h => h) (Or.inl ⟨by rfl, ?_⟩) hS ?_
    rotate_left
    · (intro w hSw; (try dsimp only at hSw); go_simp; try with_reducible rfl)
    (try simp only [Act.put, List.setIfInBounds_toArray, List.set_cons_zero, List.set_cons_succ])
    refine wpAnyH_take (i := 3) (oi := ({ dst := some 14, op := Op.nilCheck (Operand.tmp 13), type := 0, pos := "join.go:24", after := #[{ on := 2, ground := Ground.data }, { on := 6, ground := Ground.gcOnly Departure.lateStores }], guard := none } : Oper)) (v := ?_) rfl (by kernel_rfl) (by kernel_rfl) (by kernel_rfl) (fun _ _ _ h => h) (Or.inl ⟨by rfl, ?_⟩) hS ?_
    rotate_left
    · (intro w hSw; (try dsimp only at hSw); go_simp; try with_reducible rfl)
    (try simp only [Act.put, List.setIfInBounds_toArray, List.set_cons_zero, List.set_cons_succ])
    refine wpAnyH_take (i := 4) (oi := ({ dst := some 15, op := Op.fieldAddr 50 (Operand.tmp 14) 1, type := 0, pos := "join.go:24", after := #[{ on := 3, ground := Ground.data }, { on := 6, ground := Ground.gcOnly Departure.lateStores }], guard := none } : Oper)) (v := ?_) rfl (by kernel_rfl) (by kernel_rfl) (by kernel_rfl) (fun _ _ _ h => h) (Or.inl ⟨by rfl, ?_⟩) hS ?_
    rotate_left
    · (intro w hSw; (try dsimp only at hSw); go_simp; try with_reducible rfl)
    (try simp only [Act.put, List.setIfInBounds_toArray, List.set_cons_zero, List.set_cons_succ])
    refine wpAnyH_take (i := 5) (oi := ({ dst := some 16, op := Op.load 26 (Operand.tmp 15), type := 26, pos := "join.go:24", after := #[{ on := 4, ground := Ground.data }, { on := 6, ground := Ground.gcOnly Departure.lateStores }], guard := none } : Oper)) (v := .slice va hn vc) rfl (by kernel_rfl) (by kernel_rfl) (by kernel_rfl) (fun _ _ _ h => h) (Or.inl ⟨by rfl, ?_⟩) hS ?_
    · (intro w hSw; (try dsimp only at hSw); have z := (HJ1.out.blk.keep hSw).cells.2; go_simp)
    (try simp only [Act.put, List.setIfInBounds_toArray, List.set_cons_zero, List.set_cons_succ])
    refine rg_one 1 ({ dst := some 12, op := Op.call { callee := Callee.value (Operand.func 10), args := #[Operand.tmp 11], argTypes := #[24] }, type := 4, pos := "join.go:24", after := #[{ on := 0, ground := Ground.data }], guard := none } : Oper) (by kernel_rfl) rfl (fun K hK => ?_)
    go_simp
    (go_at_call 10; (with_reducible refine (idle_any false (.slice va hn vc) jb _ (HJ1.out.blk.keep hS)).mono ?_); rintro e w6 ⟨rfl, rfl⟩)
    refine hK.out _ _ ?_ (fun hS1 => ?_)
    · (exact hS)
    clear hK K hS; have hS := hS1; clear hS1
    (try simp only [Act.put, List.setIfInBounds_toArray, List.set_cons_zero, List.set_cons_succ])
    refine wpAnyH_take (i := 6) (oi := ({ dst := some 7, op := Op.assign (Operand.tmp 12), type := 4, pos := "join.go:24", after := #[{ on := 1, ground := Ground.data }, { on := 1, ground := Ground.chain }, { on := 0, ground := Ground.phase }, { on := 1, ground := Ground.phase }, { on := 2, ground := Ground.textOnly Departure.lateStores }, { on := 3, ground := Ground.textOnly Departure.lateStores }, { on := 4, ground := Ground.textOnly Departure.lateStores }, { on := 5, ground := Ground.textOnly Departure.lateStores }], guard := none } : Oper)) (v := ?_) rfl (by kernel_rfl) (by kernel_rfl) (by kernel_rfl) (fun _ _ _ h => h) (Or.inl ⟨by rfl, ?_⟩) hS ?_
    rotate_left
    · (intro w hSw; (try dsimp only at hSw); go_simp; try with_reducible rfl)
    (try simp only [Act.put, List.setIfInBounds_toArray, List.set_cons_zero, List.set_cons_succ])
    refine wpAnyH_take (i := 7) (oi := ({ dst := some 8, op := Op.assign (Operand.tmp 16), type := 26, pos := "join.go:24", after := #[{ on := 5, ground := Ground.data }, { on := 6, ground := Ground.chain }, { on := 0, ground := Ground.phase }, { on := 1, ground := Ground.phase }, { on := 2, ground := Ground.phase }, { on := 3, ground := Ground.phase }, { on := 4, ground := Ground.phase }, { on := 5, ground := Ground.phase }, { on := 6, ground := Ground.phase }], guard := none } : Oper)) (v := ?_) rfl (by kernel_rfl) (by kernel_rfl) (by kernel_rfl) (fun _ _ _ h => h) (Or.inl ⟨by rfl, ?_⟩) hS ?_
    rotate_left
    · (intro w hSw; (try dsimp only at hSw); go_simp; try with_reducible rfl)
    (try simp only [Act.put, List.setIfInBounds_toArray, List.set_cons_zero, List.set_cons_succ])
    refine wpAnyH_done (by kernel_rfl) ?_ _
    obtain ⟨w2, hw2⟩ : ∃ q, World.drew w1 = q := ⟨_, rfl⟩
    rw [hw2] at hS
    simp only [hw2]
    have HB2 := Lib.hid (bch HB1.out hS)
    have HF2 := Lib.hid (HF1.out.keep hS)
    have HJ2 := Lib.hid (HJ1.out.keep hS)
    clear hS hw2
    go_wp2_with (first
      | (refine wpList_store_row rfl 50 _ _ rfl jb (jA false (.slice none 0 0)) rfl rfl _ _ HJ2.out.blk (jo_info _ _) rfl (jo_one _ _ _ _) ?_))
    obtain ⟨w3, hw3⟩ : ∃ q, w2.setRow jb (jA false (.slice none 0 0)) = q := ⟨_, rfl⟩
    rw [hw3]
    have HO3 : Hid (Oth w w3 jb (.slice va hn vc)) := Lib.hid (hw3 ▸ (Oth.of_below HB2.out).trans (Oth.row w2 jb _ _))
    have HF3 : Hid (FO w3 fb 2 ep (.slice da n dc)) := Lib.hid (hw3 ▸ HF2.out.apart (HJ2.out.blk.ne HF2.out (by decide)) _)
    have HR3 : Hid (w3.ownsRow W.heap.size 5 1 (.slice va hn vc) hn (il .u8 h)) := Lib.hid (by rw [← hw3]; have z := HJ2.out.blk.row_own (jA false (.slice none 0 0)) HJ2.out.row (by decide); rw [HN.out] at z; exact z)
    have HJ3 : Hid (JO w3 jb false (.slice none 0 0)) := Lib.hid (hw3 ▸ HJ2.out.blk.row _ _)
    obtain ⟨f30, f31, f32⟩ := HF3.out.cells
    have hlow := HJ.out.low
    clear hw3
    go_step3
    go_wp2_with (first
      | (at_builtin; go_loud (refine wpl_appw rfl (.tmp 39) (.tmp 41) 26 rfl 5 .u8 1 Try.underlying26 Try.info_u8 W.heap.size (.slice va hn vc) hn h rfl HR3.out _ n d rfl (HR.out.keep (HW.out.trans (HJ.out.below HO3.out))) (by omega) (by omega) (HW.out.trans (HJ.out.below HO3.out)).size ?_); intro v4 w4 HR4 HG4 HL4; have HO4 := Lib.hid (HO3.out.trans (Oth.grown HG4.out)); have HJ4 := Lib.hid (HJ3.out.grown HR3.out (by decide) HG4.out); obtain ⟨a4, c4, rfl⟩ := own_form HR4.out; obtain ⟨g0, g1, g2⟩ := (HF3.out.grown HR3.out HG4.out).cells)
      | (refine wpList_store_row rfl 50 _ _ rfl jb (jA true (.slice a4 (hn + n) c4)) rfl rfl _ _ HJ4.out (jo_info _ _) rfl (jo_one _ _ _ _) ?_))
    try rw [Exit.noGoto_ret]
    go_ret3
    refine ⟨.slice a4 (hn + n) c4, rfl, ⟨HJ4.out.row _ _, ?_, fun e => by simp at e, by rw [List.length_append, HN.out, HZ.out]; omega, hlow⟩, ?_, HO4.out.trans (Oth.row _ _ _ _)⟩
    · rw [List.length_append, HN.out, HZ.out]; exact HJ4.out.row_own _ HR4.out (by decide)
    · intro g hg
      rcases HL4.out with e | e
      · exact .inl (by rw [← e]; exact hg.symm)
      · rw [hg] at e; obtain rfl := Option.some.inj e; exact .inr HO3.out.size
  · go_enter Try.func8, Try.ntmps8
    go_wp2
    go_step3
    go_wp2_with fail
    obtain ⟨w1, hw1⟩ : ∃ q, w.alloc (.cells (fA 3 ep (.slice da n dc)) 34) = q := ⟨_, rfl⟩
    rw [hw1]
    obtain ⟨fb, hfb⟩ : ∃ q, w.heap.size = q := ⟨_, rfl⟩
    have hb1 : Below w.heap.size w w1 := hw1 ▸ balloc w _
    have HF1 : Hid (FO w1 fb 3 ep (.slice da n dc)) := Lib.hid (by rw [← hw1, ← hfb]; exact FO.alloc w)
    have HB1 := Lib.hid hb1
    have HJ1 := Lib.hid (HJ.out.keep hb1)
    rw [hfb]
    clear hb1 hw1 hfb
    refine wp_region_held_drew (S := (fun w' => Below w1.heap.size w1 w')) (by kernel_rfl) ((Below.refl w1.heap.size w1).drew) (fun hS => ?_)
    refine wpAnyH_take (i := 0) (oi := ({ dst := some 11, op := Op.move (Operand.tmp 0), type := 24, pos := "join.go:24", after := #[], guard := none } : Oper)) (v := ?_) rfl (by kernel_rfl) (by kernel_rfl) (by kernel_rfl) (fun _ _ _ h => h) (Or.inl ⟨by rfl, ?_⟩) hS ?_
    rotate_left
    · (intro w hSw; (try dsimp only at hSw); go_simp; try with_reducible rfl)
    (try simp only [Act.put, List.setIfInBounds_toArray, List.set_cons_zero, List.set_cons_succ])
    refine wpAnyH_take (i := 2) (oi := ({ dst := some 13, op := Op.move (Operand.tmp 0), type := 24, pos := "join.go:24", after := #[{ on := 6, ground := Ground.gcOnly Departure.lateStores }], guard := none } : Oper)) (v := ?_) rfl (by kernel_rfl) (by kernel_rfl) (by kernel_rfl) (fun _ _ _ h => h) (Or.inl ⟨by rfl, ?_⟩) hS ?_
    rotate_left
    · (intro w hSw; (try dsimp only at hSw); go_simp; try with_reducible rfl)
    (try simp only [Act.put, List.setIfInBounds_toArray, List.set_cons_zero, List.set_cons_succ])
    refine wpAnyH_take (i := 3) (oi := ({ dst := some 14, op := Op.nilCheck (Operand.tmp 13), type := 0, pos := "join.go:24", after := #[{ on := 2, ground := Ground.data }, { on := 6, ground := Ground.gcOnly Departure.lateStores }], guard := none } : Oper)) (v := ?_) rfl (by kernel_rfl) (by kernel_rfl) (by kernel_rfl) (fun _ _ _ h => h) (Or.inl ⟨by rfl, ?_⟩) hS ?_
    rotate_left
    · (intro w hSw; (try dsimp only at hSw); go_simp; try with_reducible rfl)
    (try simp only [Act.put, List.setIfInBounds_toArray, List.set_cons_zero, List.set_cons_succ])
    refine wpAnyH_take (i := 4) (oi := ({ dst := some 15, op := Op.fieldAddr 50 (Operand.tmp 14) 1, type := 0, pos := "join.go:24", after := #[{ on := 3, ground := Ground.data }, { on := 6, ground := Ground.gcOnly Departure.lateStores }], guard := none } : Oper)) (v := ?_) rfl (by kernel_rfl) (by kernel_rfl) (by kernel_rfl) (fun _ _ _ h => h) (Or.inl ⟨by rfl, ?_⟩) hS ?_
    rotate_left
    · (intro w hSw; (try dsimp only at hSw); go_simp; try with_reducible rfl)
    (try simp only [Act.put, List.setIfInBounds_toArray, List.set_cons_zero, List.set_cons_succ])
    refine wpAnyH_take (i := 5) (oi := ({ dst := some 16, op := Op.load 26 (Operand.tmp 15), type := 26, pos := "join.go:24", after := #[{ on := 4, ground := Ground.data }, { on := 6, ground := Ground.gcOnly Departure.lateStores }], guard := none } : Oper)) (v := .slice va hn vc) rfl (by kernel_rfl) (by kernel_rfl) (by kernel_rfl) (fun _ _ _ h => h) (Or.inl ⟨by rfl, ?_⟩) hS ?_
    · (intro w hSw; (try dsimp only at hSw); have z := (HJ1.out.blk.keep hSw).cells.2; go_simp)
    (try simp only [Act.put, List.setIfInBounds_toArray, List.set_cons_zero, List.set_cons_succ])
    refine rg_one 1 ({ dst := some 12, op := Op.call { callee := Callee.value (Operand.func 10), args := #[Operand.tmp 11], argTypes := #[24] }, type := 4, pos := "join.go:24", after := #[{ on := 0, ground := Ground.data }], guard := none } : Oper) (by kernel_rfl) rfl (fun K hK => ?_)
    go_simp
    (go_at_call 10; (with_reducible refine (idle_any true (.slice va hn vc) jb _ (HJ1.out.blk.keep hS)).mono ?_); rintro e w6 ⟨rfl, rfl⟩)
    refine hK.out _ _ ?_ (fun hS1 => ?_)
    · (exact hS)
    clear hK K hS; have hS := hS1; clear hS1
    (try simp only [Act.put, List.setIfInBounds_toArray, List.set_cons_zero, List.set_cons_succ])
    refine wpAnyH_take (i := 6) (oi := ({ dst := some 7, op := Op.assign (Operand.tmp 12), type := 4, pos := "join.go:24", after := #[{ on := 1, ground := Ground.data }, { on := 1, ground := Ground.chain }, { on := 0, ground := Ground.phase }, { on := 1, ground := Ground.phase }, { on := 2, ground := Ground.textOnly Departure.lateStores }, { on := 3, ground := Ground.textOnly Departure.lateStores }, { on := 4, ground := Ground.textOnly Departure.lateStores }, { on := 5, ground := Ground.textOnly Departure.lateStores }], guard := none } : Oper)) (v := ?_) rfl (by kernel_rfl) (by kernel_rfl) (by kernel_rfl) (fun _ _ _ h => h) (Or.inl ⟨by rfl, ?_⟩) hS ?_
    rotate_left
    · (intro w hSw; (try dsimp only at hSw); go_simp; try with_reducible rfl)
    (try simp only [Act.put, List.setIfInBounds_toArray, List.set_cons_zero, List.set_cons_succ])
    refine wpAnyH_take (i := 7) (oi := ({ dst := some 8, op := Op.assign (Operand.tmp 16), type := 26, pos := "join.go:24", after := #[{ on := 5, ground := Ground.data }, { on := 6, ground := Ground.chain }, { on := 0, ground := Ground.phase }, { on := 1, ground := Ground.phase }, { on := 2, ground := Ground.phase }, { on := 3, ground := Ground.phase }, { on := 4, ground := Ground.phase }, { on := 5, ground := Ground.phase }, { on := 6, ground := Ground.phase }], guard := none } : Oper)) (v := ?_) rfl (by kernel_rfl) (by kernel_rfl) (by kernel_rfl) (fun _ _ _ h => h) (Or.inl ⟨by rfl, ?_⟩) hS ?_
    rotate_left
    · (intro w hSw; (try dsimp only at hSw); go_simp; try with_reducible rfl)
    (try simp only [Act.put, List.setIfInBounds_toArray, List.set_cons_zero, List.set_cons_succ])
    refine wpAnyH_done (by kernel_rfl) ?_ _
    obtain ⟨w2, hw2⟩ : ∃ q, World.drew w1 = q := ⟨_, rfl⟩
    rw [hw2] at hS
    simp only [hw2]
    have HB2 := Lib.hid (bch HB1.out hS)
    have HF2 := Lib.hid (HF1.out.keep hS)
    have HJ2 := Lib.hid (HJ1.out.keep hS)
    clear hS hw2
    go_wp2_with (first
      | (refine wpList_store_row rfl 50 _ _ rfl jb (jA false (.slice none 0 0)) rfl rfl _ _ HJ2.out.blk (jo_info _ _) rfl (jo_one _ _ _ _) ?_))
    obtain ⟨w3, hw3⟩ : ∃ q, w2.setRow jb (jA false (.slice none 0 0)) = q := ⟨_, rfl⟩
    rw [hw3]
    have HO3 : Hid (Oth w w3 jb (.slice va hn vc)) := Lib.hid (hw3 ▸ (Oth.of_below HB2.out).trans (Oth.row w2 jb _ _))
    have HF3 : Hid (FO w3 fb 3 ep (.slice da n dc)) := Lib.hid (hw3 ▸ HF2.out.apart (HJ2.out.blk.ne HF2.out (by decide)) _)
    have HR3 : Hid (w3.ownsRow W.heap.size 5 1 (.slice va hn vc) hn (il .u8 h)) := Lib.hid (by rw [← hw3]; have z := HJ2.out.blk.row_own (jA false (.slice none 0 0)) HJ2.out.row (by decide); rw [HN.out] at z; exact z)
    have HJ3 : Hid (JO w3 jb false (.slice none 0 0)) := Lib.hid (hw3 ▸ HJ2.out.blk.row _ _)
    obtain ⟨f30, f31, f32⟩ := HF3.out.cells
    have hlow := HJ.out.low
    clear hw3
    go_step3
    go_wp2_with (first
      | (at_builtin; go_loud (refine wpl_appw rfl (.tmp 39) (.tmp 41) 26 rfl 5 .u8 1 Try.underlying26 Try.info_u8 W.heap.size (.slice va hn vc) hn h rfl HR3.out _ n d rfl (HR.out.keep (HW.out.trans (HJ.out.below HO3.out))) (by omega) (by omega) (HW.out.trans (HJ.out.below HO3.out)).size ?_); intro v4 w4 HR4 HG4 HL4; have HO4 := Lib.hid (HO3.out.trans (Oth.grown HG4.out)); have HJ4 := Lib.hid (HJ3.out.grown HR3.out (by decide) HG4.out); obtain ⟨a4, c4, rfl⟩ := own_form HR4.out; obtain ⟨g0, g1, g2⟩ := (HF3.out.grown HR3.out HG4.out).cells)
      | (refine wpList_store_row rfl 50 _ _ rfl jb (jA true (.slice a4 (hn + n) c4)) rfl rfl _ _ HJ4.out (jo_info _ _) rfl (jo_one _ _ _ _) ?_))
    try rw [Exit.noGoto_ret]
    go_ret3
    refine ⟨.slice a4 (hn + n) c4, rfl, ⟨HJ4.out.row _ _, ?_, fun e => by simp at e, by rw [List.length_append, HN.out, HZ.out]; omega, hlow⟩, ?_, HO4.out.trans (Oth.row _ _ _ _)⟩
    · rw [List.length_append, HN.out, HZ.out]; exact HJ4.out.row_own _ HR4.out (by decide)
    · intro g hg
      rcases HL4.out with e | e
      · exact .inl (by rw [← e]; exact hg.symm)
      · rw [hg] at e; obtain rfl := Option.some.inj e; exact .inr HO3.out.size
set_option maxRecDepth 8000 in
set_option maxHeartbeats 2000000 in
/-- too many bytes -/
theorem feed_long (W : World) (o : Bool) (jb : Nat) (v : Value) (h : List Int) (k ep : Int) (dv : Value) (n : Nat) (d : List Int) (w : World) (hW : Below W.heap.size W w) (hj : JB w W.heap.size jb o v h) (hri : RI .u8 W dv n d)
    (hk : jFit o k = true) (hl : h.length + n > 512) :
    Calls Try.prog 8 #[.pointer (some ⟨jb, 0, none⟩), .agg (fA k ep dv)] w fun e w' =>
      e = .returned (.tuple #[.slice none 0 0, .bool false, .int .i64 5]) ∧ JB w' W.heap.size jb false (.slice none 0 0) [] ∧ Oth w w' jb v := by
  have hc : (o = false ∧ k = 1) ∨ (o = false ∧ k = 2) ∨ (o = true ∧ k = 3) ∨ (o = true ∧ k = 4) := by
    unfold jFit at hk
    cases o <;> simp at hk ⊢ <;> exact hk
  clear hk
  have hzl := hri.length
  have HR := Lib.hid hri
  have HW := Lib.hid hW
  obtain ⟨hn, hhn⟩ : ∃ m, h.length = m := ⟨_, rfl⟩
  have hr := hj.row
  rw [hhn] at hr hl
  have hfew := hj.few
  rw [hhn] at hfew
  obtain ⟨va, vc, rfl⟩ := own_form hr
  have HJ := Lib.hid hj
  obtain ⟨da, dc, rfl, _, hdc, hdm, _⟩ := hri
  have HN := Lib.hid hhn
  have HZ := Lib.hid hzl
  clear hj hW hzl hhn hr
  rcases hc with ⟨rfl, rfl⟩ | ⟨rfl, rfl⟩ | ⟨rfl, rfl⟩ | ⟨rfl, rfl⟩
  · go_enter Try.func8, Try.ntmps8
    go_wp2
    go_step3
    go_wp2_with fail
    obtain ⟨w1, hw1⟩ : ∃ q, w.alloc (.cells (fA 1 ep (.slice da n dc)) 34) = q := ⟨_, rfl⟩
    rw [hw1]
    obtain ⟨fb, hfb⟩ : ∃ q, w.heap.size = q := ⟨_, rfl⟩
    have hb1 : Below w.heap.size w w1 := hw1 ▸ balloc w _
    have HF1 : Hid (FO w1 fb 1 ep (.slice da n dc)) := Lib.hid (by rw [← hw1, ← hfb]; exact FO.alloc w)
    have HB1 := Lib.hid hb1
    have HJ1 := Lib.hid (HJ.out.keep hb1)
    rw [hfb]
    clear hb1 hw1 hfb
    refine wp_region_held_drew (S := (fun w' => Below w1.heap.size w1 w')) (by kernel_rfl) ((Below.refl w1.heap.size w1).drew) (fun hS => ?_)
    refine wpAnyH_take (i := 0) (oi := ({ dst := some 11, op := Op.move (Operand.tmp 0), type := 24, pos := "join.go:24", after := #[], guard := none } : Oper)) (v := ?_) rfl (by kernel_rfl) (by kernel_rfl) (by kernel_rfl) (fun _ _ _ h => h) (Or.inl ⟨by rfl, ?_⟩) hS ?_
    rotate_left
    · (intro w hSw; (try dsimp only at hSw); go_simp; try with_reducible rfl)
    (try simp only [Act.put, List.setIfInBounds_toArray, List.set_cons_zero, List.set_cons_succ])
    refine wpAnyH_take (i := 2) (oi := ({ dst := some 13, op := Op.move (Operand.tmp 0), type := 24, pos := "join.go:24", after := #[{ on := 6, ground := Ground.gcOnly Departure.lateStores }], guard := none } : Oper)) (v := ?_) rfl (by kernel_rfl) (by kernel_rfl) (by kernel_rfl) (fun _ _ _ h => h) (Or.inl ⟨by rfl, ?_⟩) hS ?_
    rotate_left
    · (intro w hSw; (try dsimp only at hSw); go_simp; try with_reducible rfl)
    (try simp only [Act.put, List.setIfInBounds_toArray, List.set_cons_zero, List.set_cons_succ])
    refine wpAnyH_take (i := 3) (oi := ({ dst := some 14, op := Op.nilCheck (Operand.tmp 13), type := 0, pos := "join.go:24", after := #[{ on := 2, ground := Ground.data }, { on := 6, ground := Ground.gcOnly Departure.lateStores }], guard := none } : Oper)) (v := ?_) rfl (by kernel_rfl) (by kernel_rfl) (by kernel_rfl) (fun _ _ _ h => h) (Or.inl ⟨by rfl, ?_⟩) hS ?_
    rotate_left
    · (intro w hSw; (try dsimp only at hSw); go_simp; try with_reducible rfl)
    (try simp only [Act.put, List.setIfInBounds_toArray, List.set_cons_zero, List.set_cons_succ])
    refine wpAnyH_take (i := 4) (oi := ({ dst := some 15, op := Op.fieldAddr 50 (Operand.tmp 14) 1, type := 0, pos := "join.go:24", after := #[{ on := 3, ground := Ground.data }, { on := 6, ground := Ground.gcOnly Departure.lateStores }], guard := none } : Oper)) (v := ?_) rfl (by kernel_rfl) (by kernel_rfl) (by kernel_rfl) (fun _ _ _ h => h) (Or.inl ⟨by rfl, ?_⟩) hS ?_
    rotate_left
    · (intro w hSw; (try dsimp only at hSw); go_simp; try with_reducible rfl)
    (try simp only [Act.put, List.setIfInBounds_toArray, List.set_cons_zero, List.set_cons_succ])
    refine wpAnyH_take (i := 5) (oi := ({ dst := some 16, op := Op.load 26 (Operand.tmp 15), type := 26, pos := "join.go:24", after := #[{ on := 4, ground := Ground.data }, { on := 6, ground := Ground.gcOnly Departure.lateStores }], guard := none } : Oper)) (v := .slice va hn vc) rfl (by kernel_rfl) (by kernel_rfl) (by kernel_rfl) (fun _ _ _ h => h) (Or.inl ⟨by rfl, ?_⟩) hS ?_
    · (intro w hSw; (try dsimp only at hSw); have z := (HJ1.out.blk.keep hSw).cells.2; go_simp)
    (try simp only [Act.put, List.setIfInBounds_toArray, List.set_cons_zero, List.set_cons_succ])
    refine rg_one 1 ({ dst := some 12, op := Op.call { callee := Callee.value (Operand.func 10), args := #[Operand.tmp 11], argTypes := #[24] }, type := 4, pos := "join.go:24", after := #[{ on := 0, ground := Ground.data }], guard := none } : Oper) (by kernel_rfl) rfl (fun K hK => ?_)
    go_simp
    (go_at_call 10; (with_reducible refine (idle_any false (.slice va hn vc) jb _ (HJ1.out.blk.keep hS)).mono ?_); rintro e w6 ⟨rfl, rfl⟩)
    refine hK.out _ _ ?_ (fun hS1 => ?_)
    · (exact hS)
    clear hK K hS; have hS := hS1; clear hS1
    (try simp only [Act.put, List.setIfInBounds_toArray, List.set_cons_zero, List.set_cons_succ])
    refine wpAnyH_take (i := 6) (oi := ({ dst := some 7, op := Op.assign (Operand.tmp 12), type := 4, pos := "join.go:24", after := #[{ on := 1, ground := Ground.data }, { on := 1, ground := Ground.chain }, { on := 0, ground := Ground.phase }, { on := 1, ground := Ground.phase }, { on := 2, ground := Ground.textOnly Departure.lateStores }, { on := 3, ground := Ground.textOnly Departure.lateStores }, { on := 4, ground := Ground.textOnly Departure.lateStores }, { on := 5, ground := Ground.textOnly Departure.lateStores }], guard := none } : Oper)) (v := ?_) rfl (by kernel_rfl) (by kernel_rfl) (by kernel_rfl) (fun _ _ _ h => h) (Or.inl ⟨by rfl, ?_⟩) hS ?_
    rotate_left
    · (intro w hSw; (try dsimp only at hSw); go_simp; try with_reducible rfl)
    (try simp only [Act.put, List.setIfInBounds_toArray, List.set_cons_zero, List.set_cons_succ])
    refine wpAnyH_take (i := 7) (oi := ({ dst := some 8, op := Op.assign (Operand.tmp 16), type := 26, pos := "join.go:24", after := #[{ on := 5, ground := Ground.data }, { on := 6, ground := Ground.chain }, { on := 0, ground := Ground.phase }, { on := 1, ground := Ground.phase }, { on := 2, ground := Ground.phase }, { on := 3, ground := Ground.phase }, { on := 4, ground := Ground.phase }, { on := 5, ground := Ground.phase }, { on := 6, ground := Ground.phase }], guard := none } : Oper)) (v := ?_) rfl (by kernel_rfl) (by kernel_rfl) (by kernel_rfl) (fun _ _ _ h => h) (Or.inl ⟨by rfl, ?_⟩) hS ?_
    rotate_left
    · (intro w hSw; (try dsimp only at hSw); go_simp; try with_reducible rfl)
    (try simp only [Act.put, List.setIfInBounds_toArray, List.set_cons_zero, List.set_cons_succ])
    refine wpAnyH_done (by kernel_rfl) ?_ _
    obtain ⟨w2, hw2⟩ : ∃ q, World.drew w1 = q := ⟨_, rfl⟩
    rw [hw2] at hS
    simp only [hw2]
    have HB2 := Lib.hid (bch HB1.out hS)
    have HF2 := Lib.hid (HF1.out.keep hS)
    have HJ2 := Lib.hid (HJ1.out.keep hS)
    clear hS hw2
    go_wp2_with (first
      | (refine wpList_store_row rfl 50 _ _ rfl jb (jA false (.slice none 0 0)) rfl rfl _ _ HJ2.out.blk (jo_info _ _) rfl (jo_one _ _ _ _) ?_))
    obtain ⟨w3, hw3⟩ : ∃ q, w2.setRow jb (jA false (.slice none 0 0)) = q := ⟨_, rfl⟩
    rw [hw3]
    have HO3 : Hid (Oth w w3 jb (.slice va hn vc)) := Lib.hid (hw3 ▸ (Oth.of_below HB2.out).trans (Oth.row w2 jb _ _))
    have HF3 : Hid (FO w3 fb 1 ep (.slice da n dc)) := Lib.hid (hw3 ▸ HF2.out.apart (HJ2.out.blk.ne HF2.out (by decide)) _)
    have HR3 : Hid (w3.ownsRow W.heap.size 5 1 (.slice va hn vc) hn (il .u8 h)) := Lib.hid (by rw [← hw3]; have z := HJ2.out.blk.row_own (jA false (.slice none 0 0)) HJ2.out.row (by decide); rw [HN.out] at z; exact z)
    have HJ3 : Hid (JO w3 jb false (.slice none 0 0)) := Lib.hid (hw3 ▸ HJ2.out.blk.row _ _)
    obtain ⟨f30, f31, f32⟩ := HF3.out.cells
    have hlow := HJ.out.low
    clear hw3
    go_step3
    go_wp2
    try rw [Exit.noGoto_ret]
    go_ret3
    exact ⟨rfl, ⟨HJ3.out, World.ownsRow_nil _ _ _ _, fun _ => ⟨rfl, rfl⟩, by simp, hlow⟩, HO3.out⟩
  · go_enter Try.func8, Try.ntmps8
    go_wp2
    go_step3
    go_wp2_with fail
    obtain ⟨w1, hw1⟩ : ∃ q, w.alloc (.cells (fA 2 ep (.slice da n dc)) 34) = q := ⟨_, rfl⟩
    rw [hw1]
    obtain ⟨fb, hfb⟩ : ∃ q, w.heap.size = q := ⟨_, rfl⟩
    have hb1 : Below w.heap.size w w1 := hw1 ▸ balloc w _
    have HF1 : Hid (FO w1 fb 2 ep (.slice da n dc)) := Lib.hid (by rw [← hw1, ← hfb]; exact FO.alloc w)
    have HB1 := Lib.hid hb1
    have HJ1 := Lib.hid (HJ.out.keep hb1)
    rw [hfb]
    clear hb1 hw1 hfb
    refine wp_region_held_drew (S := (fun w' => Below w1.heap.size w1 w')) (by kernel_rfl) ((Below.refl w1.heap.size w1).drew) (fun hS => ?_)
    refine wpAnyH_take (i := 0) (oi := ({ dst := some 11, op := Op.move (Operand.tmp 0), type := 24, pos := "join.go:24", after := #[], guard := none } : Oper)) (v := ?_) rfl (by kernel_rfl) (by kernel_rfl) (by kernel_rfl) (fun _ _ _ h => h) (Or.inl ⟨by rfl, ?_⟩) hS ?_
    rotate_left
    · (intro w hSw; (try dsimp only at hSw); go_simp; try with_reducible rfl)
    (try simp only [Act.put, List.setIfInBounds_toArray, List.set_cons_zero, List.set_cons_succ])
    refine wpAnyH_take (i := 2) (oi := ({ dst := some 13, op := Op.move (Operand.tmp 0), type := 24, pos := "join.go:24", after := #[{ on := 6, ground := Ground.gcOnly Departure.lateStores }], guard := none } : Oper)) (v := ?_) rfl (by kernel_rfl) (by kernel_rfl) (by kernel_rfl) (fun _ _ _ h => h) (Or.inl ⟨by rfl, ?_⟩) hS ?_
    rotate_left
    · (intro w hSw; (try dsimp only at hSw); go_simp; try with_reducible rfl)
    (try simp only [Act.put, List.setIfInBounds_toArray, List.set_cons_zero, List.set_cons_succ])
    refine wpAnyH_take (i := 3) (oi := ({ dst := some 14, op := Op.nilCheck (Operand.tmp 13), type := 0, pos := "join.go:24", after := #[{ on := 2, ground := Ground.data }, { on := 6, ground := Ground.gcOnly Departure.lateStores }], guard := none } : Oper)) (v := ?_) rfl (by kernel_rfl) (by kernel_rfl) (by kernel_rfl) (fun _ _ _ h => h) (Or.inl ⟨by rfl, ?_⟩) hS ?_
    rotate_left
    · (intro w hSw; (try dsimp only at hSw); go_simp; try with_reducible rfl)
    (try simp only [Act.put, List.setIfInBounds_toArray, List.set_cons_zero, List.set_cons_succ])
    refine wpAnyH_take (i := 4) (oi := ({ dst := some 15, op := Op.fieldAddr 50 (Operand.tmp 14) 1, type := 0, pos := "join.go:24", after := #[{ on := 3, ground := Ground.data }, { on := 6, ground := Ground.gcOnly Departure.lateStores }], guard := none } : Oper)) (v := ?_) rfl (by kernel_rfl) (by kernel_rfl) (by kernel_rfl) (fun _ _ _ h => h) (Or.inl ⟨by rfl, ?_⟩) hS ?_
    rotate_left
    · (intro w hSw; (try dsimp only at hSw); go_simp; try with_reducible rfl)
    (try simp only [Act.put, List.setIfInBounds_toArray, List.set_cons_zero, List.set_cons_succ])
    refine wpAnyH_take (i := 5) (oi := ({ dst := some 16, op := Op.load 26 (Operand.tmp 15), type := 26, pos := "join.go:24", after := #[{ on := 4, ground := Ground.data }, { on := 6, ground := Ground.gcOnly Departure.lateStores }], guard := none } : Oper)) (v := .slice va hn vc) rfl (by kernel_rfl) (by kernel_rfl) (by kernel_rfl) (fun _ _ _ h => h) (Or.inl ⟨by rfl, ?_⟩) hS ?_
    · (intro w hSw; (try dsimp only at hSw); have z := (HJ1.out.blk.keep hSw).cells.2; go_simp)
    (try simp only [Act.put, List.setIfInBounds_toArray, List.set_cons_zero, List.set_cons_succ])
    refine rg_one 1 ({ dst := some 12, op := Op.call { callee := Callee.value (Operand.func 10), args := #[Operand.tmp 11], argTypes := #[24] }, type := 4, pos := "join.go:24", after := #[{ on := 0, ground := Ground.data }], guard := none } : Oper) (by kernel_rfl) rfl (fun K hK => ?_)
    go_simp
    (go_at_call 10; (with_reducible refine (idle_any false (.slice va hn vc) jb _ (HJ1.out.blk.keep hS)).mono ?_); rintro e w6 ⟨rfl, rfl⟩)
    refine hK.out _ _ ?_ (fun hS1 => ?_)
    · (exact hS)
    clear hK K hS; have hS := hS1; clear hS1
    (try simp only [Act.put, List.setIfInBounds_toArray, List.set_cons_zero, List.set_cons_succ])
    refine wpAnyH_take (i := 6) (oi := ({ dst := some 7, op := Op.assign (Operand.tmp 12), type := 4, pos := "join.go:24", after := #[{ on := 1, ground := Ground.data }, { on := 1, ground := Ground.chain }, { on := 0, ground := Ground.phase }, { on := 1, ground := Ground.phase }, { on := 2, ground := Ground.textOnly Departure.lateStores }, { on := 3, ground := Ground.textOnly Departure.lateStores }, { on := 4, ground := Ground.textOnly Departure.lateStores }, { on := 5, ground := Ground.textOnly Departure.lateStores }], guard := none } : Oper)) (v := ?_) rfl (by kernel_rfl) (by kernel_rfl) (by kernel_rfl) (fun _ _ _ h => h) (Or.inl ⟨by rfl, ?_⟩) hS ?_
    rotate_left
    · (intro w hSw; (try dsimp only at hSw); go_simp; try with_reducible rfl)
    (try simp only [Act.put, List.setIfInBounds_toArray, List.set_cons_zero, List.set_cons_succ])
    refine wpAnyH_take (i := 7) (oi := ({ dst := some 8, op := Op.assign (Operand.tmp 16), type := 26, pos := "join.go:24", after := #[{ on := 5, ground := Ground.data }, { on := 6, ground := Ground.chain }, { on := 0, ground := Ground.phase }, { on := 1, ground := Ground.phase }, { on := 2, ground := Ground.phase }, { on := 3, ground := Ground.phase }, { on := 4, ground := Ground.phase }, { on := 5, ground := Ground.phase }, { on := 6, ground := Ground.phase }], guard := none } : Oper)) (v := ?_) rfl (by kernel_rfl) (by kernel_rfl) (by kernel_rfl) (fun _ _ _ h => h) (Or.inl ⟨by rfl, ?_⟩) hS ?_
    rotate_left
    · (intro w hSw; (try dsimp only at hSw); go_simp; try with_reducible rfl)
    (try simp only [Act.put, List.setIfInBounds_toArray, List.set_cons_zero, List.set_cons_succ])
    refine wpAnyH_done (by kernel_rfl) ?_ _
    obtain ⟨w2, hw2⟩ : ∃ q, World.drew w1 = q := ⟨_, rfl⟩
    rw [hw2] at hS
    simp only [hw2]
    have HB2 := Lib.hid (bch HB1.out hS)
    have HF2 := Lib.hid (HF1.out.keep hS)
    have HJ2 := Lib.hid (HJ1.out.keep hS)
    clear hS hw2
    go_wp2_with (first
      | (refine wpList_store_row rfl 50 _ _ rfl jb (jA false (.slice none 0 0)) rfl rfl _ _ HJ2.out.blk (jo_info _ _) rfl (jo_one _ _ _ _) ?_))
    obtain ⟨w3, hw3⟩ : ∃ q, w2.setRow jb (jA false (.slice none 0 0)) = q := ⟨_, rfl⟩
    rw [hw3]
    have HO3 : Hid (Oth w w3 jb (.slice va hn vc)) := Lib.hid (hw3 ▸ (Oth.of_below HB2.out).trans (Oth.row w2 jb _ _))
    have HF3 : Hid (FO w3 fb 2 ep (.slice da n dc)) := Lib.hid (hw3 ▸ HF2.out.apart (HJ2.out.blk.ne HF2.out (by decide)) _)
    have HR3 : Hid (w3.ownsRow W.heap.size 5 1 (.slice va hn vc) hn (il .u8 h)) := Lib.hid (by rw [← hw3]; have z := HJ2.out.blk.row_own (jA false (.slice none 0 0)) HJ2.out.row (by decide); rw [HN.out] at z; exact z)
    have HJ3 : Hid (JO w3 jb false (.slice none 0 0)) := Lib.hid (hw3 ▸ HJ2.out.blk.row _ _)
    obtain ⟨f30, f31, f32⟩ := HF3.out.cells
    have hlow := HJ.out.low
    clear hw3
    go_step3
    go_wp2
    try rw [Exit.noGoto_ret]
    go_ret3
    exact ⟨rfl, ⟨HJ3.out, World.ownsRow_nil _ _ _ _, fun _ => ⟨rfl, rfl⟩, by simp, hlow⟩, HO3.out⟩
  · go_enter Try.func8, Try.ntmps8
    go_wp2
    go_step3
    go_wp2_with fail
    obtain ⟨w1, hw1⟩ : ∃ q, w.alloc (.cells (fA 3 ep (.slice da n dc)) 34) = q := ⟨_, rfl⟩
    rw [hw1]
    obtain ⟨fb, hfb⟩ : ∃ q, w.heap.size = q := ⟨_, rfl⟩
    have hb1 : Below w.heap.size w w1 := hw1 ▸ balloc w _
    have HF1 : Hid (FO w1 fb 3 ep (.slice da n dc)) := Lib.hid (by rw [← hw1, ← hfb]; exact FO.alloc w)
    have HB1 := Lib.hid hb1
    have HJ1 := Lib.hid (HJ.out.keep hb1)
    rw [hfb]
    clear hb1 hw1 hfb
    refine wp_region_held_drew (S := (fun w' => Below w1.heap.size w1 w')) (by kernel_rfl) ((Below.refl w1.heap.size w1).drew) (fun hS => ?_)
    refine wpAnyH_take (i := 0) (oi := ({ dst := some 11, op := Op.move (Operand.tmp 0), type := 24, pos := "join.go:24", after := #[], guard := none } : Oper)) (v := ?_) rfl (by kernel_rfl) (by kernel_rfl) (by kernel_rfl) (fun _ _ _ h => h) (Or.inl ⟨by rfl, ?_⟩) hS ?_
    rotate_left
    · (intro w hSw; (try dsimp only at hSw); go_simp; try with_reducible rfl)
    (try simp only [Act.put, List.setIfInBounds_toArray, List.set_cons_zero, List.set_cons_succ])
    refine wpAnyH_take (i := 2) (oi := ({ dst := some 13, op := Op.move (Operand.tmp 0), type := 24, pos := "join.go:24", after := #[{ on := 6, ground := Ground.gcOnly Departure.lateStores }], guard := none } : Oper)) (v := ?_) rfl (by kernel_rfl) (by kernel_rfl) (by kernel_rfl) (fun _ _ _ h => h) (Or.inl ⟨by rfl, ?_⟩) hS ?_
    rotate_left
    · (intro w hSw; (try dsimp only at hSw); go_simp; try with_reducible rfl)
    (try simp only [Act.put, List.setIfInBounds_toArray, List.set_cons_zero, List.set_cons_succ])
    refine wpAnyH_take (i := 3) (oi := ({ dst := some 14, op := Op.nilCheck (Operand.tmp 13), type := 0, pos := "join.go:24", after := #[{ on := 2, ground := Ground.data }, { on := 6, ground := Ground.gcOnly Departure.lateStores }], guard := none } : Oper)) (v := ?_) rfl (by kernel_rfl) (by kernel_rfl) (by kernel_rfl) (fun _ _ _ h => h) (Or.inl ⟨by rfl, ?_⟩) hS ?_
    rotate_left
    · (intro w hSw; (try dsimp only at hSw); go_simp; try with_reducible rfl)
    (try simp only [Act.put, List.setIfInBounds_toArray, List.set_cons_zero, List.set_cons_succ])
    refine wpAnyH_take (i := 4) (oi := ({ dst := some 15, op := Op.fieldAddr 50 (Operand.tmp 14) 1, type := 0, pos := "join.go:24", after := #[{ on := 3, ground := Ground.data }, { on := 6, ground := Ground.gcOnly Departure.lateStores }], guard := none } : Oper)) (v := ?_) rfl (by kernel_rfl) (by kernel_rfl) (by kernel_rfl) (fun _ _ _ h => h) (Or.inl ⟨by rfl, ?_⟩) hS ?_
    rotate_left
    · (intro w hSw; (try dsimp only at hSw); go_simp; try with_reducible rfl)
    (try simp only [Act.put, List.setIfInBounds_toArray, List.set_cons_zero, List.set_cons_succ])
    refine wpAnyH_take (i := 5) (oi := ({ dst := some 16, op := Op.load 26 (Operand.tmp 15), type := 26, pos := "join.go:24", after := #[{ on := 4, ground := Ground.data }, { on := 6, ground := Ground.gcOnly Departure.lateStores }], guard := none } : Oper)) (v := .slice va hn vc) rfl (by kernel_rfl) (by kernel_rfl) (by kernel_rfl) (fun _ _ _ h => h) (Or.inl ⟨by rfl, ?_⟩) hS ?_
    · (intro w hSw; (try dsimp only at hSw); have z := (HJ1.out.blk.keep hSw).cells.2; go_simp)
    (try simp only [Act.put, List.setIfInBounds_toArray, List.set_cons_zero, List.set_cons_succ])
    refine rg_one 1 ({ dst := some 12, op := Op.call { callee := Callee.value (Operand.func 10), args := #[Operand.tmp 11], argTypes := #[24] }, type := 4, pos := "join.go:24", after := #[{ on := 0, ground := Ground.data }], guard := none } : Oper) (by kernel_rfl) rfl (fun K hK => ?_)
    go_simp
    (go_at_call 10; (with_reducible refine (idle_any true (.slice va hn vc) jb _ (HJ1.out.blk.keep hS)).mono ?_); rintro e w6 ⟨rfl, rfl⟩)
    refine hK.out _ _ ?_ (fun hS1 => ?_)
    · (exact hS)
    clear hK K hS; have hS := hS1; clear hS1
    (try simp only [Act.put, List.setIfInBounds_toArray, List.set_cons_zero, List.set_cons_succ])
    refine wpAnyH_take (i := 6) (oi := ({ dst := some 7, op := Op.assign (Operand.tmp 12), type := 4, pos := "join.go:24", after := #[{ on := 1, ground := Ground.data }, { on := 1, ground := Ground.chain }, { on := 0, ground := Ground.phase }, { on := 1, ground := Ground.phase }, { on := 2, ground := Ground.textOnly Departure.lateStores }, { on := 3, ground := Ground.textOnly Departure.lateStores }, { on := 4, ground := Ground.textOnly Departure.lateStores }, { on := 5, ground := Ground.textOnly Departure.lateStores }], guard := none } : Oper)) (v := ?_) rfl (by kernel_rfl) (by kernel_rfl) (by kernel_rfl) (fun _ _ _ h => h) (Or.inl ⟨by rfl, ?_⟩) hS ?_
    rotate_left
    · (intro w hSw; (try dsimp only at hSw); go_simp; try with_reducible rfl)
    (try simp only [Act.put, List.setIfInBounds_toArray, List.set_cons_zero, List.set_cons_succ])
    refine wpAnyH_take (i := 7) (oi := ({ dst := some 8, op := Op.assign (Operand.tmp 16), type := 26, pos := "join.go:24", after := #[{ on := 5, ground := Ground.data }, { on := 6, ground := Ground.chain }, { on := 0, ground := Ground.phase }, { on := 1, ground := Ground.phase }, { on := 2, ground := Ground.phase }, { on := 3, ground := Ground.phase }, { on := 4, ground := Ground.phase }, { on := 5, ground := Ground.phase }, { on := 6, ground := Ground.phase }], guard := none } : Oper)) (v := ?_) rfl (by kernel_rfl) (by kernel_rfl) (by kernel_rfl) (fun _ _ _ h => h) (Or.inl ⟨by rfl, ?_⟩) hS ?_
    rotate_left
    · (intro w hSw; (try dsimp only at hSw); go_simp; try with_reducible rfl)
    (try simp only [Act.put, List.setIfInBounds_toArray, List.set_cons_zero, List.set_cons_succ])
    refine wpAnyH_done (by kernel_rfl) ?_ _
    obtain ⟨w2, hw2⟩ : ∃ q, World.drew w1 = q := ⟨_, rfl⟩
    rw [hw2] at hS
    simp only [hw2]
    have HB2 := Lib.hid (bch HB1.out hS)
    have HF2 := Lib.hid (HF1.out.keep hS)
    have HJ2 := Lib.hid (HJ1.out.keep hS)
    clear hS hw2
    go_wp2_with (first
      | (refine wpList_store_row rfl 50 _ _ rfl jb (jA false (.slice none 0 0)) rfl rfl _ _ HJ2.out.blk (jo_info _ _) rfl (jo_one _ _ _ _) ?_))
    obtain ⟨w3, hw3⟩ : ∃ q, w2.setRow jb (jA false (.slice none 0 0)) = q := ⟨_, rfl⟩
    rw [hw3]
    have HO3 : Hid (Oth w w3 jb (.slice va hn vc)) := Lib.hid (hw3 ▸ (Oth.of_below HB2.out).trans (Oth.row w2 jb _ _))
    have HF3 : Hid (FO w3 fb 3 ep (.slice da n dc)) := Lib.hid (hw3 ▸ HF2.out.apart (HJ2.out.blk.ne HF2.out (by decide)) _)
    have HR3 : Hid (w3.ownsRow W.heap.size 5 1 (.slice va hn vc) hn (il .u8 h)) := Lib.hid (by rw [← hw3]; have z := HJ2.out.blk.row_own (jA false (.slice none 0 0)) HJ2.out.row (by decide); rw [HN.out] at z; exact z)
    have HJ3 : Hid (JO w3 jb false (.slice none 0 0)) := Lib.hid (hw3 ▸ HJ2.out.blk.row _ _)
    obtain ⟨f30, f31, f32⟩ := HF3.out.cells
    have hlow := HJ.out.low
    clear hw3
    go_step3
    go_wp2
    try rw [Exit.noGoto_ret]
    go_ret3
    exact ⟨rfl, ⟨HJ3.out, World.ownsRow_nil _ _ _ _, fun _ => ⟨rfl, rfl⟩, by simp, hlow⟩, HO3.out⟩
  · go_enter Try.func8, Try.ntmps8
    go_wp2
    go_step3
    go_wp2_with fail
    obtain ⟨w1, hw1⟩ : ∃ q, w.alloc (.cells (fA 4 ep (.slice da n dc)) 34) = q := ⟨_, rfl⟩
    rw [hw1]
    obtain ⟨fb, hfb⟩ : ∃ q, w.heap.size = q := ⟨_, rfl⟩
    have hb1 : Below w.heap.size w w1 := hw1 ▸ balloc w _
    have HF1 : Hid (FO w1 fb 4 ep (.slice da n dc)) := Lib.hid (by rw [← hw1, ← hfb]; exact FO.alloc w)
    have HB1 := Lib.hid hb1
    have HJ1 := Lib.hid (HJ.out.keep hb1)
    rw [hfb]
    clear hb1 hw1 hfb
    refine wp_region_held_drew (S := (fun w' => Below w1.heap.size w1 w')) (by kernel_rfl) ((Below.refl w1.heap.size w1).drew) (fun hS => ?_)
    refine wpAnyH_take (i := 0) (oi := ({ dst := some 11, op := Op.move (Operand.tmp 0), type := 24, pos := "join.go:24", after := #[], guard := none } : Oper)) (v := ?_) rfl (by kernel_rfl) (by kernel_rfl) (by kernel_rfl) (fun _ _ _ h => h) (Or.inl ⟨by rfl, ?_⟩) hS ?_
    rotate_left
    · (intro w hSw; (try dsimp only at hSw); go_simp; try with_reducible rfl)
    (try simp only [Act.put, List.setIfInBounds_toArray, List.set_cons_zero, List.set_cons_succ])
    refine wpAnyH_take (i := 2) (oi := ({ dst := some 13, op := Op.move (Operand.tmp 0), type := 24, pos := "join.go:24", after := #[{ on := 6, ground := Ground.gcOnly Departure.lateStores }], guard := none } : Oper)) (v := ?_) rfl (by kernel_rfl) (by kernel_rfl) (by kernel_rfl) (fun _ _ _ h => h) (Or.inl ⟨by rfl, ?_⟩) hS ?_
    rotate_left
    · (intro w hSw; (try dsimp only at hSw); go_simp; try with_reducible rfl)
    (try simp only [Act.put, List.setIfInBounds_toArray, List.set_cons_zero, List.set_cons_succ])
    refine wpAnyH_take (i := 3) (oi := ({ dst := some 14, op := Op.nilCheck (Operand.tmp 13), type := 0, pos := "join.go:24", after := #[{ on := 2, ground := Ground.data }, { on := 6, ground := Ground.gcOnly Departure.lateStores }], guard := none } : Oper)) (v := ?_) rfl (by kernel_rfl) (by kernel_rfl) (by kernel_rfl) (fun _ _ _ h => h) (Or.inl ⟨by rfl, ?_⟩) hS ?_
    rotate_left
    · (intro w hSw; (try dsimp only at hSw); go_simp; try with_reducible rfl)
    (try simp only [Act.put, List.setIfInBounds_toArray, List.set_cons_zero, List.set_cons_succ])
    refine wpAnyH_take (i := 4) (oi := ({ dst := some 15, op := Op.fieldAddr 50 (Operand.tmp 14) 1, type := 0, pos := "join.go:24", after := #[{ on := 3, ground := Ground.data }, { on := 6, ground := Ground.gcOnly Departure.lateStores }], guard := none } : Oper)) (v := ?_) rfl (by kernel_rfl) (by kernel_rfl) (by kernel_rfl) (fun _ _ _ h => h) (Or.inl ⟨by rfl, ?_⟩) hS ?_
    rotate_left
    · (intro w hSw; (try dsimp only at hSw); go_simp; try with_reducible rfl)
    (try simp only [Act.put, List.setIfInBounds_toArray, List.set_cons_zero, List.set_cons_succ])
    refine wpAnyH_take (i := 5) (oi := ({ dst := some 16, op := Op.load 26 (Operand.tmp 15), type := 26, pos := "join.go:24", after := #[{ on := 4, ground := Ground.data }, { on := 6, ground := Ground.gcOnly Departure.lateStores }], guard := none } : Oper)) (v := .slice va hn vc) rfl (by kernel_rfl) (by kernel_rfl) (by kernel_rfl) (fun _ _ _ h => h) (Or.inl ⟨by rfl, ?_⟩) hS ?_
    · (intro w hSw; (try dsimp only at hSw); have z := (HJ1.out.blk.keep hSw).cells.2; go_simp)
    (try simp only [Act.put, List.setIfInBounds_toArray, List.set_cons_zero, List.set_cons_succ])
    refine rg_one 1 ({ dst := some 12, op := Op.call { callee := Callee.value (Operand.func 10), args := #[Operand.tmp 11], argTypes := #[24] }, type := 4, pos := "join.go:24", after := #[{ on := 0, ground := Ground.data }], guard := none } : Oper) (by kernel_rfl) rfl (fun K hK => ?_)
    go_simp
    (go_at_call 10; (with_reducible refine (idle_any true (.slice va hn vc) jb _ (HJ1.out.blk.keep hS)).mono ?_); rintro e w6 ⟨rfl, rfl⟩)
    refine hK.out _ _ ?_ (fun hS1 => ?_)
    · (exact hS)
    clear hK K hS; have hS := hS1; clear hS1
    (try simp only [Act.put, List.setIfInBounds_toArray, List.set_cons_zero, List.set_cons_succ])
    refine wpAnyH_take (i := 6) (oi := ({ dst := some 7, op := Op.assign (Operand.tmp 12), type := 4, pos := "join.go:24", after := #[{ on := 1, ground := Ground.data }, { on := 1, ground := Ground.chain }, { on := 0, ground := Ground.phase }, { on := 1, ground := Ground.phase }, { on := 2, ground := Ground.textOnly Departure.lateStores }, { on := 3, ground := Ground.textOnly Departure.lateStores }, { on := 4, ground := Ground.textOnly Departure.lateStores }, { on := 5, ground := Ground.textOnly Departure.lateStores }], guard := none } : Oper)) (v := ?_) rfl (by kernel_rfl) (by kernel_rfl) (by kernel_rfl) (fun _ _ _ h => h) (Or.inl ⟨by rfl, ?_⟩) hS ?_
    rotate_left
    · (intro w hSw; (try dsimp only at hSw); go_simp; try with_reducible rfl)
    (try simp only [Act.put, List.setIfInBounds_toArray, List.set_cons_zero, List.set_cons_succ])
    refine wpAnyH_take (i := 7) (oi := ({ dst := some 8, op := Op.assign (Operand.tmp 16), type := 26, pos := "join.go:24", after := #[{ on := 5, ground := Ground.data }, { on := 6, ground := Ground.chain }, { on := 0, ground := Ground.phase }, { on := 1, ground := Ground.phase }, { on := 2, ground := Ground.phase }, { on := 3, ground := Ground.phase }, { on := 4, ground := Ground.phase }, { on := 5, ground := Ground.phase }, { on := 6, ground := Ground.phase }], guard := none } : Oper)) (v := ?_) rfl (by kernel_rfl) (by kernel_rfl) (by kernel_rfl) (fun _ _ _ h => h) (Or.inl ⟨by rfl, ?_⟩) hS ?_
    rotate_left
    · (intro w hSw; (try dsimp only at hSw); go_simp; try with_reducible rfl)
    (try simp only [Act.put, List.setIfInBounds_toArray, List.set_cons_zero, List.set_cons_succ])
    refine wpAnyH_done (by kernel_rfl) ?_ _
    obtain ⟨w2, hw2⟩ : ∃ q, World.drew w1 = q := ⟨_, rfl⟩
    rw [hw2] at hS
    simp only [hw2]
    have HB2 := Lib.hid (bch HB1.out hS)
    have HF2 := Lib.hid (HF1.out.keep hS)
    have HJ2 := Lib.hid (HJ1.out.keep hS)
    clear hS hw2
    go_wp2_with (first
      | (refine wpList_store_row rfl 50 _ _ rfl jb (jA false (.slice none 0 0)) rfl rfl _ _ HJ2.out.blk (jo_info _ _) rfl (jo_one _ _ _ _) ?_))
    obtain ⟨w3, hw3⟩ : ∃ q, w2.setRow jb (jA false (.slice none 0 0)) = q := ⟨_, rfl⟩
    rw [hw3]
    have HO3 : Hid (Oth w w3 jb (.slice va hn vc)) := Lib.hid (hw3 ▸ (Oth.of_below HB2.out).trans (Oth.row w2 jb _ _))
    have HF3 : Hid (FO w3 fb 4 ep (.slice da n dc)) := Lib.hid (hw3 ▸ HF2.out.apart (HJ2.out.blk.ne HF2.out (by decide)) _)
    have HR3 : Hid (w3.ownsRow W.heap.size 5 1 (.slice va hn vc) hn (il .u8 h)) := Lib.hid (by rw [← hw3]; have z := HJ2.out.blk.row_own (jA false (.slice none 0 0)) HJ2.out.row (by decide); rw [HN.out] at z; exact z)
    have HJ3 : Hid (JO w3 jb false (.slice none 0 0)) := Lib.hid (hw3 ▸ HJ2.out.blk.row _ _)
    obtain ⟨f30, f31, f32⟩ := HF3.out.cells
    have hlow := HJ.out.low
    clear hw3
    go_step3
    go_wp2
    try rw [Exit.noGoto_ret]
    go_ret3
    exact ⟨rfl, ⟨HJ3.out, World.ownsRow_nil _ _ _ _, fun _ => ⟨rfl, rfl⟩, by simp, hlow⟩, HO3.out⟩
set_option maxRecDepth 8000 in
set_option maxHeartbeats 2000000 in
/-- a kind that may not come -/
theorem feed_wrong (W : World) (o : Bool) (jb : Nat) (v : Value) (h : List Int) (k ep : Int) (dv : Value) (n : Nat) (d : List Int) (w : World) (hW : Below W.heap.size W w) (hj : JB w W.heap.size jb o v h) (hri : RI .u8 W dv n d)
    (hk : jFit o k = false) :
    Calls Try.prog 8 #[.pointer (some ⟨jb, 0, none⟩), .agg (fA k ep dv)] w fun e w' =>
      e = .returned (.tuple #[.slice none 0 0, .bool false, .int .i64 2]) ∧ JB w' W.heap.size jb false (.slice none 0 0) [] ∧ Oth w w' jb v := by
  have hzl := hri.length
  have HR := Lib.hid hri
  have HW := Lib.hid hW
  obtain ⟨hn, hhn⟩ : ∃ m, h.length = m := ⟨_, rfl⟩
  have hr := hj.row
  rw [hhn] at hr
  have hfew := hj.few
  rw [hhn] at hfew
  obtain ⟨va, vc, rfl⟩ := own_form hr
  have HJ := Lib.hid hj
  obtain ⟨da, dc, rfl, _, hdc, hdm, _⟩ := hri
  have HN := Lib.hid hhn
  have HZ := Lib.hid hzl
  clear hj hW hzl hhn hr
  cases o
  all_goals (unfold jFit at hk; simp only [Bool.false_eq_true, if_false, if_true, decide_eq_false_iff_not, not_or] at hk; obtain ⟨k1, k2⟩ := hk)
  · have e1 : (k == 1) = false := by simpa using k1
    have e2 : (k == 2) = false := by simpa using k2
    go_enter Try.func8, Try.ntmps8
    go_wp2
    go_step3
    go_wp2_with fail
    obtain ⟨w1, hw1⟩ : ∃ q, w.alloc (.cells (fA k ep (.slice da n dc)) 34) = q := ⟨_, rfl⟩
    rw [hw1]
    obtain ⟨fb, hfb⟩ : ∃ q, w.heap.size = q := ⟨_, rfl⟩
    have hb1 : Below w.heap.size w w1 := hw1 ▸ balloc w _
    have HF1 : Hid (FO w1 fb k ep (.slice da n dc)) := Lib.hid (by rw [← hw1, ← hfb]; exact FO.alloc w)
    have HB1 := Lib.hid hb1
    have HJ1 := Lib.hid (HJ.out.keep hb1)
    rw [hfb]
    clear hb1 hw1 hfb
    refine wp_region_held_drew (S := (fun w' => Below w1.heap.size w1 w')) (by kernel_rfl) ((Below.refl w1.heap.size w1).drew) (fun hS => ?_)
    refine wpAnyH_take (i := 0) (oi := ({ dst := some 11, op := Op.move (Operand.tmp 0), type := 24, pos := "join.go:24", after := #[], guard := none } : Oper)) (v := ?_) rfl (by kernel_rfl) (by kernel_rfl) (by kernel_rfl) (fun _ _ _ h => h) (Or.inl ⟨by rfl, ?_⟩) hS ?_
    rotate_left
    · (intro w hSw; (try dsimp only at hSw); go_simp; try with_reducible rfl)
    (try simp only [Act.put, List.setIfInBounds_toArray, List.set_cons_zero, List.set_cons_succ])
    refine wpAnyH_take (i := 2) (oi := ({ dst := some 13, op := Op.move (Operand.tmp 0), type := 24, pos := "join.go:24", after := #[{ on := 6, ground := Ground.gcOnly Departure.lateStores }], guard := none } : Oper)) (v := ?_) rfl (by kernel_rfl) (by kernel_rfl) (by kernel_rfl) (fun _ _ _ h => h) (Or.inl ⟨by rfl, ?_⟩) hS ?_
    rotate_left
    · (intro w hSw; (try dsimp only at hSw); go_simp; try with_reducible rfl)
    (try simp only [Act.put, List.setIfInBounds_toArray, List.set_cons_zero, List.set_cons_succ])
    refine wpAnyH_take (i := 3) (oi := ({ dst := some 14, op := Op.nilCheck (Operand.tmp 13), type := 0, pos := "join.go:24", after := #[{ on := 2, ground := Ground.data }, { on := 6, ground := Ground.gcOnly Departure.lateStores }], guard := none } : Oper)) (v := ?_) rfl (by kernel_rfl) (by kernel_rfl) (by kernel_rfl) (fun _ _ _ h => h) (Or.inl ⟨by rfl, ?_⟩) hS ?_
    rotate_left
    · (intro w hSw; (try dsimp only at hSw); go_simp; try with_reducible rfl)
    (try simp only [Act.put, List.setIfInBounds_toArray, List.set_cons_zero, List.set_cons_succ])
    refine wpAnyH_take (i := 4) (oi := ({ dst := some 15, op := Op.fieldAddr 50 (Operand.tmp 14) 1, type := 0, pos := "join.go:24", after := #[{ on := 3, ground := Ground.data }, { on := 6, ground := Ground.gcOnly Departure.lateStores }], guard := none } : Oper)) (v := ?_) rfl (by kernel_rfl) (by kernel_rfl) (by kernel_rfl) (fun _ _ _ h => h) (Or.inl ⟨by rfl, ?_⟩) hS ?_
    rotate_left
    · (intro w hSw; (try dsimp only at hSw); go_simp; try with_reducible rfl)
    (try simp only [Act.put, List.setIfInBounds_toArray, List.set_cons_zero, List.set_cons_succ])
    refine wpAnyH_take (i := 5) (oi := ({ dst := some 16, op := Op.load 26 (Operand.tmp 15), type := 26, pos := "join.go:24", after := #[{ on := 4, ground := Ground.data }, { on := 6, ground := Ground.gcOnly Departure.lateStores }], guard := none } : Oper)) (v := .slice va hn vc) rfl (by kernel_rfl) (by kernel_rfl) (by kernel_rfl) (fun _ _ _ h => h) (Or.inl ⟨by rfl, ?_⟩) hS ?_
    · (intro w hSw; (try dsimp only at hSw); have z := (HJ1.out.blk.keep hSw).cells.2; go_simp)
    (try simp only [Act.put, List.setIfInBounds_toArray, List.set_cons_zero, List.set_cons_succ])
    refine rg_one 1 ({ dst := some 12, op := Op.call { callee := Callee.value (Operand.func 10), args := #[Operand.tmp 11], argTypes := #[24] }, type := 4, pos := "join.go:24", after := #[{ on := 0, ground := Ground.data }], guard := none } : Oper) (by kernel_rfl) rfl (fun K hK => ?_)
    go_simp
    (go_at_call 10; (with_reducible refine (idle_any false (.slice va hn vc) jb _ (HJ1.out.blk.keep hS)).mono ?_); rintro e w6 ⟨rfl, rfl⟩)
    refine hK.out _ _ ?_ (fun hS1 => ?_)
    · (exact hS)
    clear hK K hS; have hS := hS1; clear hS1
    (try simp only [Act.put, List.setIfInBounds_toArray, List.set_cons_zero, List.set_cons_succ])
    refine wpAnyH_take (i := 6) (oi := ({ dst := some 7, op := Op.assign (Operand.tmp 12), type := 4, pos := "join.go:24", after := #[{ on := 1, ground := Ground.data }, { on := 1, ground := Ground.chain }, { on := 0, ground := Ground.phase }, { on := 1, ground := Ground.phase }, { on := 2, ground := Ground.textOnly Departure.lateStores }, { on := 3, ground := Ground.textOnly Departure.lateStores }, { on := 4, ground := Ground.textOnly Departure.lateStores }, { on := 5, ground := Ground.textOnly Departure.lateStores }], guard := none } : Oper)) (v := ?_) rfl (by kernel_rfl) (by kernel_rfl) (by kernel_rfl) (fun _ _ _ h => h) (Or.inl ⟨by rfl, ?_⟩) hS ?_
    rotate_left
    · (intro w hSw; (try dsimp only at hSw); go_simp; try with_reducible rfl)
    (try simp only [Act.put, List.setIfInBounds_toArray, List.set_cons_zero, List.set_cons_succ])
    refine wpAnyH_take (i := 7) (oi := ({ dst := some 8, op := Op.assign (Operand.tmp 16), type := 26, pos := "join.go:24", after := #[{ on := 5, ground := Ground.data }, { on := 6, ground := Ground.chain }, { on := 0, ground := Ground.phase }, { on := 1, ground := Ground.phase }, { on := 2, ground := Ground.phase }, { on := 3, ground := Ground.phase }, { on := 4, ground := Ground.phase }, { on := 5, ground := Ground.phase }, { on := 6, ground := Ground.phase }], guard := none } : Oper)) (v := ?_) rfl (by kernel_rfl) (by kernel_rfl) (by kernel_rfl) (fun _ _ _ h => h) (Or.inl ⟨by rfl, ?_⟩) hS ?_
    rotate_left
    · (intro w hSw; (try dsimp only at hSw); go_simp; try with_reducible rfl)
    (try simp only [Act.put, List.setIfInBounds_toArray, List.set_cons_zero, List.set_cons_succ])
    refine wpAnyH_done (by kernel_rfl) ?_ _
    obtain ⟨w2, hw2⟩ : ∃ q, World.drew w1 = q := ⟨_, rfl⟩
    rw [hw2] at hS
    simp only [hw2]
    have HB2 := Lib.hid (bch HB1.out hS)
    have HF2 := Lib.hid (HF1.out.keep hS)
    have HJ2 := Lib.hid (HJ1.out.keep hS)
    clear hS hw2
    go_wp2_with (first
      | (refine wpList_store_row rfl 50 _ _ rfl jb (jA false (.slice none 0 0)) rfl rfl _ _ HJ2.out.blk (jo_info _ _) rfl (jo_one _ _ _ _) ?_))
    obtain ⟨w3, hw3⟩ : ∃ q, w2.setRow jb (jA false (.slice none 0 0)) = q := ⟨_, rfl⟩
    rw [hw3]
    have HO3 : Hid (Oth w w3 jb (.slice va hn vc)) := Lib.hid (hw3 ▸ (Oth.of_below HB2.out).trans (Oth.row w2 jb _ _))
    have HF3 : Hid (FO w3 fb k ep (.slice da n dc)) := Lib.hid (hw3 ▸ HF2.out.apart (HJ2.out.blk.ne HF2.out (by decide)) _)
    have HR3 : Hid (w3.ownsRow W.heap.size 5 1 (.slice va hn vc) hn (il .u8 h)) := Lib.hid (by rw [← hw3]; have z := HJ2.out.blk.row_own (jA false (.slice none 0 0)) HJ2.out.row (by decide); rw [HN.out] at z; exact z)
    have HJ3 : Hid (JO w3 jb false (.slice none 0 0)) := Lib.hid (hw3 ▸ HJ2.out.blk.row _ _)
    obtain ⟨f30, f31, f32⟩ := HF3.out.cells
    have hlow := HJ.out.low
    clear hw3
    go_step3
    go_wp2
    try rw [Exit.noGoto_ret]
    go_ret3
    exact ⟨rfl, ⟨HJ3.out, World.ownsRow_nil _ _ _ _, fun _ => ⟨rfl, rfl⟩, by simp, hlow⟩, HO3.out⟩
  · have e1 : (k == 3) = false := by simpa using k1
    have e2 : (k == 4) = false := by simpa using k2
    go_enter Try.func8, Try.ntmps8
    go_wp2
    go_step3
    go_wp2_with fail
    obtain ⟨w1, hw1⟩ : ∃ q, w.alloc (.cells (fA k ep (.slice da n dc)) 34) = q := ⟨_, rfl⟩
    rw [hw1]
    obtain ⟨fb, hfb⟩ : ∃ q, w.heap.size = q := ⟨_, rfl⟩
    have hb1 : Below w.heap.size w w1 := hw1 ▸ balloc w _
    have HF1 : Hid (FO w1 fb k ep (.slice da n dc)) := Lib.hid (by rw [← hw1, ← hfb]; exact FO.alloc w)
    have HB1 := Lib.hid hb1
    have HJ1 := Lib.hid (HJ.out.keep hb1)
    rw [hfb]
    clear hb1 hw1 hfb
    refine wp_region_held_drew (S := (fun w' => Below w1.heap.size w1 w')) (by kernel_rfl) ((Below.refl w1.heap.size w1).drew) (fun hS => ?_)
    refine wpAnyH_take (i := 0) (oi := ({ dst := some 11, op := Op.move (Operand.tmp 0), type := 24, pos := "join.go:24", after := #[], guard := none } : Oper)) (v := ?_) rfl (by kernel_rfl) (by kernel_rfl) (by kernel_rfl) (fun _ _ _ h => h) (Or.inl ⟨by rfl, ?_⟩) hS ?_
    rotate_left
    · (intro w hSw; (try dsimp only at hSw); go_simp; try with_reducible rfl)
    (try simp only [Act.put, List.setIfInBounds_toArray, List.set_cons_zero, List.set_cons_succ])
    refine wpAnyH_take (i := 2) (oi := ({ dst := some 13, op := Op.move (Operand.tmp 0), type := 24, pos := "join.go:24", after := #[{ on := 6, ground := Ground.gcOnly Departure.lateStores }], guard := none } : Oper)) (v := ?_) rfl (by kernel_rfl) (by kernel_rfl) (by kernel_rfl) (fun _ _ _ h => h) (Or.inl ⟨by rfl, ?_⟩) hS ?_
    rotate_left
    · (intro w hSw; (try dsimp only at hSw); go_simp; try with_reducible rfl)
    (try simp only [Act.put, List.setIfInBounds_toArray, List.set_cons_zero, List.set_cons_succ])
    refine wpAnyH_take (i := 3) (oi := ({ dst := some 14, op := Op.nilCheck (Operand.tmp 13), type := 0, pos := "join.go:24", after := #[{ on := 2, ground := Ground.data }, { on := 6, ground := Ground.gcOnly Departure.lateStores }], guard := none } : Oper)) (v := ?_) rfl (by kernel_rfl) (by kernel_rfl) (by kernel_rfl) (fun _ _ _ h => h) (Or.inl ⟨by rfl, ?_⟩) hS ?_
    rotate_left
    · (intro w hSw; (try dsimp only at hSw); go_simp; try with_reducible rfl)
    (try simp only [Act.put, List.setIfInBounds_toArray, List.set_cons_zero, List.set_cons_succ])
    refine wpAnyH_take (i := 4) (oi := ({ dst := some 15, op := Op.fieldAddr 50 (Operand.tmp 14) 1, type := 0, pos := "join.go:24", after := #[{ on := 3, ground := Ground.data }, { on := 6, ground := Ground.gcOnly Departure.lateStores }], guard := none } : Oper)) (v := ?_) rfl (by kernel_rfl) (by kernel_rfl) (by kernel_rfl) (fun _ _ _ h => h) (Or.inl ⟨by rfl, ?_⟩) hS ?_
    rotate_left
    · (intro w hSw; (try dsimp only at hSw); go_simp; try with_reducible rfl)
    (try simp only [Act.put, List.setIfInBounds_toArray, List.set_cons_zero, List.set_cons_succ])
    refine wpAnyH_take (i := 5) (oi := ({ dst := some 16, op := Op.load 26 (Operand.tmp 15), type := 26, pos := "join.go:24", after := #[{ on := 4, ground := Ground.data }, { on := 6, ground := Ground.gcOnly Departure.lateStores }], guard := none } : Oper)) (v := .slice va hn vc) rfl (by kernel_rfl) (by kernel_rfl) (by kernel_rfl) (fun _ _ _ h => h) (Or.inl ⟨by rfl, ?_⟩) hS ?_
    · (intro w hSw; (try dsimp only at hSw); have z := (HJ1.out.blk.keep hSw).cells.2; go_simp)
    (try simp only [Act.put, List.setIfInBounds_toArray, List.set_cons_zero, List.set_cons_succ])
    refine rg_one 1 ({ dst := some 12, op := Op.call { callee := Callee.value (Operand.func 10), args := #[Operand.tmp 11], argTypes := #[24] }, type := 4, pos := "join.go:24", after := #[{ on := 0, ground := Ground.data }], guard := none } : Oper) (by kernel_rfl) rfl (fun K hK => ?_)
    go_simp
    (go_at_call 10; (with_reducible refine (idle_any true (.slice va hn vc) jb _ (HJ1.out.blk.keep hS)).mono ?_); rintro e w6 ⟨rfl, rfl⟩)
    refine hK.out _ _ ?_ (fun hS1 => ?_)
    · (exact hS)
    clear hK K hS; have hS := hS1; clear hS1
    (try simp only [Act.put, List.setIfInBounds_toArray, List.set_cons_zero, List.set_cons_succ])
    refine wpAnyH_take (i := 6) (oi := ({ dst := some 7, op := Op.assign (Operand.tmp 12), type := 4, pos := "join.go:24", after := #[{ on := 1, ground := Ground.data }, { on := 1, ground := Ground.chain }, { on := 0, ground := Ground.phase }, { on := 1, ground := Ground.phase }, { on := 2, ground := Ground.textOnly Departure.lateStores }, { on := 3, ground := Ground.textOnly Departure.lateStores }, { on := 4, ground := Ground.textOnly Departure.lateStores }, { on := 5, ground := Ground.textOnly Departure.lateStores }], guard := none } : Oper)) (v := ?_) rfl (by kernel_rfl) (by kernel_rfl) (by kernel_rfl) (fun _ _ _ h => h) (Or.inl ⟨by rfl, ?_⟩) hS ?_
    rotate_left
    · (intro w hSw; (try dsimp only at hSw); go_simp; try with_reducible rfl)
    (try simp only [Act.put, List.setIfInBounds_toArray, List.set_cons_zero, List.set_cons_succ])
    refine wpAnyH_take (i := 7) (oi := ({ dst := some 8, op := Op.assign (Operand.tmp 16), type := 26, pos := "join.go:24", after := #[{ on := 5, ground := Ground.data }, { on := 6, ground := Ground.chain }, { on := 0, ground := Ground.phase }, { on := 1, ground := Ground.phase }, { on := 2, ground := Ground.phase }, { on := 3, ground := Ground.phase }, { on := 4, ground := Ground.phase }, { on := 5, ground := Ground.phase }, { on := 6, ground := Ground.phase }], guard := none } : Oper)) (v := ?_) rfl (by kernel_rfl) (by kernel_rfl) (by kernel_rfl) (fun _ _ _ h => h) (Or.inl ⟨by rfl, ?_⟩) hS ?_
    rotate_left
    · (intro w hSw; (try dsimp only at hSw); go_simp; try with_reducible rfl)
    (try simp only [Act.put, List.setIfInBounds_toArray, List.set_cons_zero, List.set_cons_succ])
    refine wpAnyH_done (by kernel_rfl) ?_ _
    obtain ⟨w2, hw2⟩ : ∃ q, World.drew w1 = q := ⟨_, rfl⟩
    rw [hw2] at hS
    simp only [hw2]
    have HB2 := Lib.hid (bch HB1.out hS)
    have HF2 := Lib.hid (HF1.out.keep hS)
    have HJ2 := Lib.hid (HJ1.out.keep hS)
    clear hS hw2
    go_wp2_with (first
      | (refine wpList_store_row rfl 50 _ _ rfl jb (jA false (.slice none 0 0)) rfl rfl _ _ HJ2.out.blk (jo_info _ _) rfl (jo_one _ _ _ _) ?_))
    obtain ⟨w3, hw3⟩ : ∃ q, w2.setRow jb (jA false (.slice none 0 0)) = q := ⟨_, rfl⟩
    rw [hw3]
    have HO3 : Hid (Oth w w3 jb (.slice va hn vc)) := Lib.hid (hw3 ▸ (Oth.of_below HB2.out).trans (Oth.row w2 jb _ _))
    have HF3 : Hid (FO w3 fb k ep (.slice da n dc)) := Lib.hid (hw3 ▸ HF2.out.apart (HJ2.out.blk.ne HF2.out (by decide)) _)
    have HR3 : Hid (w3.ownsRow W.heap.size 5 1 (.slice va hn vc) hn (il .u8 h)) := Lib.hid (by rw [← hw3]; have z := HJ2.out.blk.row_own (jA false (.slice none 0 0)) HJ2.out.row (by decide); rw [HN.out] at z; exact z)
    have HJ3 : Hid (JO w3 jb false (.slice none 0 0)) := Lib.hid (hw3 ▸ HJ2.out.blk.row _ _)
    obtain ⟨f30, f31, f32⟩ := HF3.out.cells
    have hlow := HJ.out.low
    clear hw3
    go_step3
    go_wp2
    try rw [Exit.noGoto_ret]
    go_ret3
    exact ⟨rfl, ⟨HJ3.out, World.ownsRow_nil _ _ _ _, fun _ => ⟨rfl, rfl⟩, by simp, hlow⟩, HO3.out⟩
/-- all of it -/
theorem feed_any (W : World) (o : Bool) (jb : Nat) (v : Value) (h : List Int) (k ep : Int) (dv : Value) (n : Nat) (d : List Int) (w : World) (hW : Below W.heap.size W w) (hj : JB w W.heap.size jb o v h) (hri : RI .u8 W dv n d) :
    Calls Try.prog 8 #[.pointer (some ⟨jb, 0, none⟩), .agg (fA k ep dv)] w fun e w' =>
      ∃ u v', e = .returned (.tuple #[u, .bool (jEnds o h k d), .int .i64 (jErr o h k d)]) ∧ JB w' W.heap.size jb (jGoes o h k d) v' (jHad o h k d) ∧ w'.ownsRow W.heap.size 5 1 u (jTell o h k d).length (il .u8 (jTell o h k d)) ∧ Lies w v u ∧ Lies w v v' ∧ Oth w w' jb v := by
  have hz := hri.length
  cases hf : jFit o k with
  | false =>
    obtain ⟨e1, e2, e3, e4, e5⟩ := j_wrong (h := h) (d := d) hf
    rw [e1, e2, e3, e4, e5]
    exact (feed_wrong W o jb v h k ep dv n d w hW hj hri hf).mono fun e w' ⟨h1, h2, h3⟩ => ⟨_, _, h1, h2, World.ownsRow_nil _ _ _ _, Lies.nil _ _ _ _, Lies.nil _ _ _ _, h3⟩
  | true =>
    by_cases hl : h.length + n > 512
    · obtain ⟨e1, e2, e3, e4, e5⟩ := j_long (h := h) (d := d) hf (by rw [hz]; exact hl)
      rw [e1, e2, e3, e4, e5]
      exact (feed_long W o jb v h k ep dv n d w hW hj hri hf hl).mono fun e w' ⟨h1, h2, h3⟩ => ⟨_, _, h1, h2, World.ownsRow_nil _ _ _ _, Lies.nil _ _ _ _, Lies.nil _ _ _ _, h3⟩
    · cases hk : jLast k with
      | true =>
        obtain ⟨e1, e2, e3, e4, e5⟩ := j_ends (h := h) (d := d) hf (by rw [hz]; exact hl) hk
        rw [e1, e2, e3, e4, e5]
        exact (feed_ends W o jb v h k ep dv n d w hW hj hri (by unfold jFit at hf; unfold jLast at hk; cases o <;> simp at hf hk ⊢ <;> omega) hl).mono fun e w' ⟨u, h1, h2, h3, h4, h5⟩ => ⟨u, _, h1, h2, h3, h4, Lies.nil _ _ _ _, h5⟩
      | false =>
        obtain ⟨e1, e2, e3, e4, e5⟩ := j_goes (h := h) (d := d) hf (by rw [hz]; exact hl) hk
        rw [e1, e2, e3, e4, e5]
        exact (feed_goes W o jb v h k ep dv n d w hW hj hri (by unfold jFit at hf; unfold jLast at hk; cases o <;> simp at hf hk ⊢ <;> omega) hl).mono fun e w' ⟨u, h1, h2, h4, h5⟩ => ⟨_, u, h1, h2, World.ownsRow_nil _ _ _ _, Lies.nil _ _ _ _, h4, h5⟩
end Go.Proofs.Ytbnedcghbdphlaa
