/-
  TEXTS JOINED: JoinFeed, ScanStep, ScanScan. Each one's own words stand at its head.
-/
import Derived.Test.YtepaghohojomeaaDoorJ20
import Derived.Test.YtepaghohojomeaaDoorJ15
/-
  WHAT Feed OF THE PROGRAM'S LAYER 15 (join) ANSWERS. The fragment's bytes must lie apart from the joiner.
-/
namespace Go.Proofs.YtepaghohojomeaaDoor
open Go.RowKit
set_option maxRecDepth 8000 in
set_option maxHeartbeats 2000000 in
/-- a record's end -/
theorem feed_ends (W : World) (o : Bool) (jb : Nat) (v : Value) (h : List Int) (k ep : Int) (dv : Value) (n : Nat) (d : List Int) (w : World) (hW : Below W.heap.size W w) (hj : JB w W.heap.size jb o v h) (hri : ∀ w', Oth w w' jb v → RI .u8 w' dv n d)
    (hk : (o = false ∧ k = 1) ∨ (o = true ∧ k = 4)) (hl : ¬ h.length + n > 512) :
    Calls Tryd.prog 50 #[.pointer (some ⟨jb, 0, none⟩), .agg (fA k ep dv)] w fun e w' =>
      ∃ u, e = .returned (.tuple #[u, .bool true, .int .i64 0]) ∧ JB w' W.heap.size jb false (.slice none 0 0) [] ∧ w'.ownsRow W.heap.size 5 1 u (h ++ d).length (il .u8 (h ++ d)) ∧ Lies w v u ∧ Oth w w' jb v := by
  have hzl := (hri w (Oth.refl _ _ _)).length
  have HR := Lib.hid hri
  have HW := Lib.hid hW
  obtain ⟨hn, hhn⟩ : ∃ m, h.length = m := ⟨_, rfl⟩
  have hr := hj.row
  rw [hhn] at hr hl
  have hfew := hj.few
  rw [hhn] at hfew
  obtain ⟨va, vc, rfl⟩ := own_form hr
  have HJ := Lib.hid hj
  obtain ⟨da, dc, rfl, _, hdc, hdm, _⟩ := hri w (Oth.refl _ _ _)
  have HN := Lib.hid hhn
  have HZ := Lib.hid hzl
  clear hj hW hzl hhn hr
  rcases hk with ⟨rfl, rfl⟩ | ⟨rfl, rfl⟩
  · go_enter Tryd.func50, Tryd.ntmps50
    go_wp2
    go_step3
    go_wp2_with fail
    obtain ⟨w1, hw1⟩ : ∃ q, w.alloc (.cells (fA 1 ep (.slice da n dc)) 70) = q := ⟨_, rfl⟩
    rw [hw1]
    obtain ⟨fb, hfb⟩ : ∃ q, w.heap.size = q := ⟨_, rfl⟩
    have hb1 : Below w.heap.size w w1 := hw1 ▸ balloc w _
    have HF1 : Hid (FO w1 fb 1 ep (.slice da n dc)) := Lib.hid (by rw [← hw1, ← hfb]; exact FO.alloc w)
    have HB1 := Lib.hid hb1
    have HJ1 := Lib.hid (HJ.out.keep hb1)
    rw [hfb]
    clear hb1 hw1 hfb
    refine wp_region_held_drew (S := (fun w' => Below w1.heap.size w1 w')) (by kernel_rfl) ((Below.refl w1.heap.size w1).drew) (fun hS => ?_)
    refine wpAnyH_take (i := 0) (oi := ({ dst := some 11, op := Op.move (Operand.tmp 0), type := 78, pos := "join.go:24", after := #[], guard := none } : Oper)) (v := ?_) rfl (by kernel_rfl) (by kernel_rfl) (by kernel_rfl) (fun _ _ _ h => h) (Or.inl ⟨by rfl, ?_⟩) hS ?_
    rotate_left
    · (intro w hSw; (try dsimp only at hSw); go_simp; try with_reducible rfl)
    (try simp only [Act.put, List.setIfInBounds_toArray, List.set_cons_zero, List.set_cons_succ])
    refine wpAnyH_take (i := 2) (oi := ({ dst := some 13, op := Op.move (Operand.tmp 0), type := 78, pos := "join.go:24", after := #[{ on := 6, ground := Ground.gcOnly Departure.lateStores }], guard := none } : Oper)) (v := ?_) rfl (by kernel_rfl) (by kernel_rfl) (by kernel_rfl) (fun _ _ _ h => h) (Or.inl ⟨by rfl, ?_⟩) hS ?_
    rotate_left
    · (intro w hSw; (try dsimp only at hSw); go_simp; try with_reducible rfl)
    (try simp only [Act.put, List.setIfInBounds_toArray, List.set_cons_zero, List.set_cons_succ])
    refine wpAnyH_take (i := 3) (oi := ({ dst := some 14, op := Op.nilCheck (Operand.tmp 13), type := 0, pos := "join.go:24", after := #[{ on := 2, ground := Ground.data }, { on := 6, ground := Ground.gcOnly Departure.lateStores }], guard := none } : Oper)) (v := ?_) rfl (by kernel_rfl) (by kernel_rfl) (by kernel_rfl) (fun _ _ _ h => h) (Or.inl ⟨by rfl, ?_⟩) hS ?_
    rotate_left
    · (intro w hSw; (try dsimp only at hSw); go_simp; try with_reducible rfl)
    (try simp only [Act.put, List.setIfInBounds_toArray, List.set_cons_zero, List.set_cons_succ])
    refine wpAnyH_take (i := 4) (oi := ({ dst := some 15, op := Op.fieldAddr 130 (Operand.tmp 14) 1, type := 0, pos := "join.go:24", after := #[{ on := 3, ground := Ground.data }, { on := 6, ground := Ground.gcOnly Departure.lateStores }], guard := none } : Oper)) (v := ?_) rfl (by kernel_rfl) (by kernel_rfl) (by kernel_rfl) (fun _ _ _ h => h) (Or.inl ⟨by rfl, ?_⟩) hS ?_
    rotate_left
    · (intro w hSw; (try dsimp only at hSw); go_simp; try with_reducible rfl)
    (try simp only [Act.put, List.setIfInBounds_toArray, List.set_cons_zero, List.set_cons_succ])
    refine wpAnyH_take (i := 5) (oi := ({ dst := some 16, op := Op.load 43 (Operand.tmp 15), type := 43, pos := "join.go:24", after := #[{ on := 4, ground := Ground.data }, { on := 6, ground := Ground.gcOnly Departure.lateStores }], guard := none } : Oper)) (v := .slice va hn vc) rfl (by kernel_rfl) (by kernel_rfl) (by kernel_rfl) (fun _ _ _ h => h) (Or.inl ⟨by rfl, ?_⟩) hS ?_
    · (intro w hSw; (try dsimp only at hSw); have z := (HJ1.out.blk.keep hSw).cells.2; go_simp)
    (try simp only [Act.put, List.setIfInBounds_toArray, List.set_cons_zero, List.set_cons_succ])
    refine rg_one 1 ({ dst := some 12, op := Op.call { callee := Callee.value (Operand.func 49), args := #[Operand.tmp 11], argTypes := #[78] }, type := 4, pos := "join.go:24", after := #[{ on := 0, ground := Ground.data }], guard := none } : Oper) (by kernel_rfl) rfl (fun K hK => ?_)
    go_simp
    (go_at_call 49; (with_reducible refine (idle_any false (.slice va hn vc) jb _ (HJ1.out.blk.keep hS)).mono ?_); rintro e w6 ⟨rfl, rfl⟩)
    refine hK.out _ _ ?_ (fun hS1 => ?_)
    · (exact hS)
    clear hK K hS; have hS := hS1; clear hS1
    (try simp only [Act.put, List.setIfInBounds_toArray, List.set_cons_zero, List.set_cons_succ])
    refine wpAnyH_take (i := 6) (oi := ({ dst := some 7, op := Op.assign (Operand.tmp 12), type := 4, pos := "join.go:24", after := #[{ on := 1, ground := Ground.data }, { on := 1, ground := Ground.chain }, { on := 0, ground := Ground.phase }, { on := 1, ground := Ground.phase }, { on := 2, ground := Ground.textOnly Departure.lateStores }, { on := 3, ground := Ground.textOnly Departure.lateStores }, { on := 4, ground := Ground.textOnly Departure.lateStores }, { on := 5, ground := Ground.textOnly Departure.lateStores }], guard := none } : Oper)) (v := ?_) rfl (by kernel_rfl) (by kernel_rfl) (by kernel_rfl) (fun _ _ _ h => h) (Or.inl ⟨by rfl, ?_⟩) hS ?_
    rotate_left
    · (intro w hSw; (try dsimp only at hSw); go_simp; try with_reducible rfl)
    (try simp only [Act.put, List.setIfInBounds_toArray, List.set_cons_zero, List.set_cons_succ])
    refine wpAnyH_take (i := 7) (oi := ({ dst := some 8, op := Op.assign (Operand.tmp 16), type := 43, pos := "join.go:24", after := #[{ on := 5, ground := Ground.data }, { on := 6, ground := Ground.chain }, { on := 0, ground := Ground.phase }, { on := 1, ground := Ground.phase }, { on := 2, ground := Ground.phase }, { on := 3, ground := Ground.phase }, { on := 4, ground := Ground.phase }, { on := 5, ground := Ground.phase }, { on := 6, ground := Ground.phase }], guard := none } : Oper)) (v := ?_) rfl (by kernel_rfl) (by kernel_rfl) (by kernel_rfl) (fun _ _ _ h => h) (Or.inl ⟨by rfl, ?_⟩) hS ?_
    rotate_left
    · (intro w hSw; (try dsimp only at hSw); go_simp; try with_reducible rfl)
    (try simp only [Act.put, List.setIfInBounds_toArray, List.set_cons_zero, List.set_cons_succ])
    refine wpAnyH_done (by kernel_rfl) ?_ _
    obtain ⟨w2, hw2⟩ : ∃ q, World.drew w1 = q := ⟨_, rfl⟩
    rw [hw2] at hS
    simp only [hw2]
    have HB2 := Lib.hid (bch HB1.out hS)
    have HF2 := Lib.hid (HF1.out.keep hS)
    have HJ2 := Lib.hid (HJ1.out.keep hS)
    clear hS hw2
    go_wp2_with (first
      | (refine wpList_store_row rfl 130 _ _ rfl jb (jA false (.slice none 0 0)) rfl rfl _ _ HJ2.out.blk (jo_info _ _) rfl (jo_one _ _ _ _) ?_))
    obtain ⟨w3, hw3⟩ : ∃ q, w2.setRow jb (jA false (.slice none 0 0)) = q := ⟨_, rfl⟩
    rw [hw3]
    have HO3 : Hid (Oth w w3 jb (.slice va hn vc)) := Lib.hid (hw3 ▸ (Oth.of_below HB2.out).trans (Oth.row w2 jb _ _))
    have HF3 : Hid (FO w3 fb 1 ep (.slice da n dc)) := Lib.hid (hw3 ▸ HF2.out.apart (HJ2.out.blk.ne HF2.out (by decide)) _)
    have HR3 : Hid (w3.ownsRow W.heap.size 5 1 (.slice va hn vc) hn (il .u8 h)) := Lib.hid (by rw [← hw3]; have z := HJ2.out.blk.row_own (jA false (.slice none 0 0)) HJ2.out.row (by decide); rw [HN.out] at z; exact z)
    have HJ3 : Hid (JO w3 jb false (.slice none 0 0)) := Lib.hid (hw3 ▸ HJ2.out.blk.row _ _)
    obtain ⟨f30, f31, f32⟩ := HF3.out.cells
    have hlow := HJ.out.low
    clear hw3
    go_step3
    go_wp2_with (first
      | (at_builtin; go_loud (refine wpl_appw rfl (.tmp 39) (.tmp 41) 43 rfl 5 .u8 1 Tryd.underlying43 Tryd.info_u8 W.heap.size (.slice va hn vc) hn h rfl HR3.out _ n d rfl (HR.out _ HO3.out) (by omega) (by omega) (HW.out.trans (HJ.out.below HO3.out)).size ?_); intro v4 w4 HR4 HG4 HL4; have HO4 := Lib.hid (HO3.out.trans (Oth.grown HG4.out)); have HJ4 := Lib.hid (HJ3.out.grown HR3.out (by decide) HG4.out); obtain ⟨a4, c4, rfl⟩ := own_form HR4.out; obtain ⟨g0, g1, g2⟩ := (HF3.out.grown HR3.out HG4.out).cells))
    try rw [Exit.noGoto_ret]
    go_ret3
    refine ⟨.slice a4 (hn + n) c4, rfl, ⟨HJ4.out, World.ownsRow_nil _ _ _ _, fun _ => ⟨rfl, rfl⟩, by simp, hlow⟩, ?_, ?_, HO4.out⟩
    · rw [List.length_append, HN.out, HZ.out]; exact HR4.out
    · intro g hg
      rcases HL4.out with e | e
      · exact .inl (by rw [← e]; exact hg.symm)
      · rw [hg] at e; obtain rfl := Option.some.inj e; exact .inr HO3.out.size
  · go_enter Tryd.func50, Tryd.ntmps50
    go_wp2
    go_step3
    go_wp2_with fail
    obtain ⟨w1, hw1⟩ : ∃ q, w.alloc (.cells (fA 4 ep (.slice da n dc)) 70) = q := ⟨_, rfl⟩
    rw [hw1]
    obtain ⟨fb, hfb⟩ : ∃ q, w.heap.size = q := ⟨_, rfl⟩
    have hb1 : Below w.heap.size w w1 := hw1 ▸ balloc w _
    have HF1 : Hid (FO w1 fb 4 ep (.slice da n dc)) := Lib.hid (by rw [← hw1, ← hfb]; exact FO.alloc w)
    have HB1 := Lib.hid hb1
    have HJ1 := Lib.hid (HJ.out.keep hb1)
    rw [hfb]
    clear hb1 hw1 hfb
    refine wp_region_held_drew (S := (fun w' => Below w1.heap.size w1 w')) (by kernel_rfl) ((Below.refl w1.heap.size w1).drew) (fun hS => ?_)
    refine wpAnyH_take (i := 0) (oi := ({ dst := some 11, op := Op.move (Operand.tmp 0), type := 78, pos := "join.go:24", after := #[], guard := none } : Oper)) (v := ?_) rfl (by kernel_rfl) (by kernel_rfl) (by kernel_rfl) (fun _ _ _ h => h) (Or.inl ⟨by rfl, ?_⟩) hS ?_
    rotate_left
    · (intro w hSw; (try dsimp only at hSw); go_simp; try with_reducible rfl)
    (try simp only [Act.put, List.setIfInBounds_toArray, List.set_cons_zero, List.set_cons_succ])
    refine wpAnyH_take (i := 2) (oi := ({ dst := some 13, op := Op.move (Operand.tmp 0), type := 78, pos := "join.go:24", after := #[{ on := 6, ground := Ground.gcOnly Departure.lateStores }], guard := none } : Oper)) (v := ?_) rfl (by kernel_rfl) (by kernel_rfl) (by kernel_rfl) (fun _ _ _ h => h) (Or.inl ⟨by rfl, ?_⟩) hS ?_
    rotate_left
    · (intro w hSw; (try dsimp only at hSw); go_simp; try with_reducible rfl)
    (try simp only [Act.put, List.setIfInBounds_toArray, List.set_cons_zero, List.set_cons_succ])
    refine wpAnyH_take (i := 3) (oi := ({ dst := some 14, op := Op.nilCheck (Operand.tmp 13), type := 0, pos := "join.go:24", after := #[{ on := 2, ground := Ground.data }, { on := 6, ground := Ground.gcOnly Departure.lateStores }], guard := none } : Oper)) (v := ?_) rfl (by kernel_rfl) (by kernel_rfl) (by kernel_rfl) (fun _ _ _ h => h) (Or.inl ⟨by rfl, ?_⟩) hS ?_
    rotate_left
    · (intro w hSw; (try dsimp only at hSw); go_simp; try with_reducible rfl)
    (try simp only [Act.put, List.setIfInBounds_toArray, List.set_cons_zero, List.set_cons_succ])
    refine wpAnyH_take (i := 4) (oi := ({ dst := some 15, op := Op.fieldAddr 130 (Operand.tmp 14) 1, type := 0, pos := "join.go:24", after := #[{ on := 3, ground := Ground.data }, { on := 6, ground := Ground.gcOnly Departure.lateStores }], guard := none } : Oper)) (v := ?_) rfl (by kernel_rfl) (by kernel_rfl) (by kernel_rfl) (fun _ _ _ h => h) (Or.inl ⟨by rfl, ?_⟩) hS ?_
    rotate_left
    · (intro w hSw; (try dsimp only at hSw); go_simp; try with_reducible rfl)
    (try simp only [Act.put, List.setIfInBounds_toArray, List.set_cons_zero, List.set_cons_succ])
    refine wpAnyH_take (i := 5) (oi := ({ dst := some 16, op := Op.load 43 (Operand.tmp 15), type := 43, pos := "join.go:24", after := #[{ on := 4, ground := Ground.data }, { on := 6, ground := Ground.gcOnly Departure.lateStores }], guard := none } : Oper)) (v := .slice va hn vc) rfl (by kernel_rfl) (by kernel_rfl) (by kernel_rfl) (fun _ _ _ h => h) (Or.inl ⟨by rfl, ?_⟩) hS ?_
    · (intro w hSw; (try dsimp only at hSw); have z := (HJ1.out.blk.keep hSw).cells.2; go_simp)
    (try simp only [Act.put, List.setIfInBounds_toArray, List.set_cons_zero, List.set_cons_succ])
    refine rg_one 1 ({ dst := some 12, op := Op.call { callee := Callee.value (Operand.func 49), args := #[Operand.tmp 11], argTypes := #[78] }, type := 4, pos := "join.go:24", after := #[{ on := 0, ground := Ground.data }], guard := none } : Oper) (by kernel_rfl) rfl (fun K hK => ?_)
    go_simp
    (go_at_call 49; (with_reducible refine (idle_any true (.slice va hn vc) jb _ (HJ1.out.blk.keep hS)).mono ?_); rintro e w6 ⟨rfl, rfl⟩)
    refine hK.out _ _ ?_ (fun hS1 => ?_)
    · (exact hS)
    clear hK K hS; have hS := hS1; clear hS1
    (try simp only [Act.put, List.setIfInBounds_toArray, List.set_cons_zero, List.set_cons_succ])
    refine wpAnyH_take (i := 6) (oi := ({ dst := some 7, op := Op.assign (Operand.tmp 12), type := 4, pos := "join.go:24", after := #[{ on := 1, ground := Ground.data }, { on := 1, ground := Ground.chain }, { on := 0, ground := Ground.phase }, { on := 1, ground := Ground.phase }, { on := 2, ground := Ground.textOnly Departure.lateStores }, { on := 3, ground := Ground.textOnly Departure.lateStores }, { on := 4, ground := Ground.textOnly Departure.lateStores }, { on := 5, ground := Ground.textOnly Departure.lateStores }], guard := none } : Oper)) (v := ?_) rfl (by kernel_rfl) (by kernel_rfl) (by kernel_rfl) (fun _ _ _ h => h) (Or.inl ⟨by rfl, ?_⟩) hS ?_
    rotate_left
    · (intro w hSw; (try dsimp only at hSw); go_simp; try with_reducible rfl)
    (try simp only [Act.put, List.setIfInBounds_toArray, List.set_cons_zero, List.set_cons_succ])
    refine wpAnyH_take (i := 7) (oi := ({ dst := some 8, op := Op.assign (Operand.tmp 16), type := 43, pos := "join.go:24", after := #[{ on := 5, ground := Ground.data }, { on := 6, ground := Ground.chain }, { on := 0, ground := Ground.phase }, { on := 1, ground := Ground.phase }, { on := 2, ground := Ground.phase }, { on := 3, ground := Ground.phase }, { on := 4, ground := Ground.phase }, { on := 5, ground := Ground.phase }, { on := 6, ground := Ground.phase }], guard := none } : Oper)) (v := ?_) rfl (by kernel_rfl) (by kernel_rfl) (by kernel_rfl) (fun _ _ _ h => h) (Or.inl ⟨by rfl, ?_⟩) hS ?_
    rotate_left
    · (intro w hSw; (try dsimp only at hSw); go_simp; try with_reducible rfl)
    (try simp only [Act.put, List.setIfInBounds_toArray, List.set_cons_zero, List.set_cons_succ])
    refine wpAnyH_done (by kernel_rfl) ?_ _
    obtain ⟨w2, hw2⟩ : ∃ q, World.drew w1 = q := ⟨_, rfl⟩
    rw [hw2] at hS
    simp only [hw2]
    have HB2 := Lib.hid (bch HB1.out hS)
    have HF2 := Lib.hid (HF1.out.keep hS)
    have HJ2 := Lib.hid (HJ1.out.keep hS)
    clear hS hw2
    go_wp2_with (first
      | (refine wpList_store_row rfl 130 _ _ rfl jb (jA false (.slice none 0 0)) rfl rfl _ _ HJ2.out.blk (jo_info _ _) rfl (jo_one _ _ _ _) ?_))
    obtain ⟨w3, hw3⟩ : ∃ q, w2.setRow jb (jA false (.slice none 0 0)) = q := ⟨_, rfl⟩
    rw [hw3]
    have HO3 : Hid (Oth w w3 jb (.slice va hn vc)) := Lib.hid (hw3 ▸ (Oth.of_below HB2.out).trans (Oth.row w2 jb _ _))
    have HF3 : Hid (FO w3 fb 4 ep (.slice da n dc)) := Lib.hid (hw3 ▸ HF2.out.apart (HJ2.out.blk.ne HF2.out (by decide)) _)
    have HR3 : Hid (w3.ownsRow W.heap.size 5 1 (.slice va hn vc) hn (il .u8 h)) := Lib.hid (by rw [← hw3]; have z := HJ2.out.blk.row_own (jA false (.slice none 0 0)) HJ2.out.row (by decide); rw [HN.out] at z; exact z)
    have HJ3 : Hid (JO w3 jb false (.slice none 0 0)) := Lib.hid (hw3 ▸ HJ2.out.blk.row _ _)
    obtain ⟨f30, f31, f32⟩ := HF3.out.cells
    have hlow := HJ.out.low
    clear hw3
    go_step3
    go_wp2_with (first
      | (at_builtin; go_loud (refine wpl_appw rfl (.tmp 39) (.tmp 41) 43 rfl 5 .u8 1 Tryd.underlying43 Tryd.info_u8 W.heap.size (.slice va hn vc) hn h rfl HR3.out _ n d rfl (HR.out _ HO3.out) (by omega) (by omega) (HW.out.trans (HJ.out.below HO3.out)).size ?_); intro v4 w4 HR4 HG4 HL4; have HO4 := Lib.hid (HO3.out.trans (Oth.grown HG4.out)); have HJ4 := Lib.hid (HJ3.out.grown HR3.out (by decide) HG4.out); obtain ⟨a4, c4, rfl⟩ := own_form HR4.out; obtain ⟨g0, g1, g2⟩ := (HF3.out.grown HR3.out HG4.out).cells))
    try rw [Exit.noGoto_ret]
    go_ret3
    refine ⟨.slice a4 (hn + n) c4, rfl, ⟨HJ4.out, World.ownsRow_nil _ _ _ _, fun _ => ⟨rfl, rfl⟩, by simp, hlow⟩, ?_, ?_, HO4.out⟩
    · rw [List.length_append, HN.out, HZ.out]; exact HR4.out
    · intro g hg
      rcases HL4.out with e | e
      · exact .inl (by rw [← e]; exact hg.symm)
      · rw [hg] at e; obtain rfl := Option.some.inj e; exact .inr HO3.out.size
set_option maxRecDepth 8000 in
set_option maxHeartbeats 2000000 in
/-- a record goes on -/
theorem feed_goes (W : World) (o : Bool) (jb : Nat) (v : Value) (h : List Int) (k ep : Int) (dv : Value) (n : Nat) (d : List Int) (w : World) (hW : Below W.heap.size W w) (hj : JB w W.heap.size jb o v h) (hri : ∀ w', Oth w w' jb v → RI .u8 w' dv n d)
    (hk : (o = false ∧ k = 2) ∨ (o = true ∧ k = 3)) (hl : ¬ h.length + n > 512) :
    Calls Tryd.prog 50 #[.pointer (some ⟨jb, 0, none⟩), .agg (fA k ep dv)] w fun e w' =>
      ∃ u, e = .returned (.tuple #[.slice none 0 0, .bool false, .int .i64 0]) ∧ JB w' W.heap.size jb true u (h ++ d) ∧ Lies w v u ∧ Oth w w' jb v := by
  have hzl := (hri w (Oth.refl _ _ _)).length
  have HR := Lib.hid hri
  have HW := Lib.hid hW
  obtain ⟨hn, hhn⟩ : ∃ m, h.length = m := ⟨_, rfl⟩
  have hr := hj.row
  rw [hhn] at hr hl
  have hfew := hj.few
  rw [hhn] at hfew
  obtain ⟨va, vc, rfl⟩ := own_form hr
  have HJ := Lib.hid hj
  obtain ⟨da, dc, rfl, _, hdc, hdm, _⟩ := hri w (Oth.refl _ _ _)
  have HN := Lib.hid hhn
  have HZ := Lib.hid hzl
  clear hj hW hzl hhn hr
  rcases hk with ⟨rfl, rfl⟩ | ⟨rfl, rfl⟩
  · go_enter Tryd.func50, Tryd.ntmps50
    go_wp2
    go_step3
    go_wp2_with fail
    obtain ⟨w1, hw1⟩ : ∃ q, w.alloc (.cells (fA 2 ep (.slice da n dc)) 70) = q := ⟨_, rfl⟩
    rw [hw1]
    obtain ⟨fb, hfb⟩ : ∃ q, w.heap.size = q := ⟨_, rfl⟩
    have hb1 : Below w.heap.size w w1 := hw1 ▸ balloc w _
    have HF1 : Hid (FO w1 fb 2 ep (.slice da n dc)) := Lib.hid (by rw [← hw1, ← hfb]; exact FO.alloc w)
    have HB1 := Lib.hid hb1
    have HJ1 := Lib.hid (HJ.out.keep hb1)
    rw [hfb]
    clear hb1 hw1 hfb
    refine wp_region_held_drew (S := (fun w' => Below w1.heap.size w1 w')) (by kernel_rfl) ((Below.refl w1.heap.size w1).drew) (fun hS => ?_)
    refine wpAnyH_take (i := 0) (oi := ({ dst := some 11, op := Op.move (Operand.tmp 0), type := 78, pos := "join.go:24", after := #[], guard := none } : Oper)) (v := ?_) rfl (by kernel_rfl) (by kernel_rfl) (by kernel_rfl) (fun _ _ _ h => h) (Or.inl ⟨by rfl, ?_⟩) hS ?_
    rotate_left
    · (intro w hSw; (try dsimp only at hSw); go_simp; try with_reducible rfl)
    (try simp only [Act.put, List.setIfInBounds_toArray, List.set_cons_zero, List.set_cons_succ])
    refine wpAnyH_take (i := 2) (oi := ({ dst := some 13, op := Op.move (Operand.tmp 0), type := 78, pos := "join.go:24", after := #[{ on := 6, ground := Ground.gcOnly Departure.lateStores }], guard := none } : Oper)) (v := ?_) rfl (by kernel_rfl) (by kernel_rfl) (by kernel_rfl) (fun _ _ _ h => h) (Or.inl ⟨by rfl, ?_⟩) hS ?_
    rotate_left
    · (intro w hSw; (try dsimp only at hSw); go_simp; try with_reducible rfl)
    (try simp only [Act.put, List.setIfInBounds_toArray, List.set_cons_zero, List.set_cons_succ])
    refine wpAnyH_take (i := 3) (oi := ({ dst := some 14, op := Op.nilCheck (Operand.tmp 13), type := 0, pos := "join.go:24", after := #[{ on := 2, ground := Ground.data }, { on := 6, ground := Ground.gcOnly Departure.lateStores }], guard := none } : Oper)) (v := ?_) rfl (by kernel_rfl) (by kernel_rfl) (by kernel_rfl) (fun _ _ _ h => h) (Or.inl ⟨by rfl, ?_⟩) hS ?_
    rotate_left
    · (intro w hSw; (try dsimp only at hSw); go_simp; try with_reducible rfl)
    (try simp only [Act.put, List.setIfInBounds_toArray, List.set_cons_zero, List.set_cons_succ])
    refine wpAnyH_take (i := 4) (oi := ({ dst := some 15, op := Op.fieldAddr 130 (Operand.tmp 14) 1, type := 0, pos := "join.go:24", after := #[{ on := 3, ground := Ground.data }, { on := 6, ground := Ground.gcOnly Departure.lateStores }], guard := none } : Oper)) (v := ?_) rfl (by kernel_rfl) (by kernel_rfl) (by kernel_rfl) (fun _ _ _ h => h) (Or.inl ⟨by rfl, ?_⟩) hS ?_
    rotate_left
    · (intro w hSw; (try dsimp only at hSw); go_simp; try with_reducible rfl)
    (try simp only [Act.put, List.setIfInBounds_toArray, List.set_cons_zero, List.set_cons_succ])
    refine wpAnyH_take (i := 5) (oi := ({ dst := some 16, op := Op.load 43 (Operand.tmp 15), type := 43, pos := "join.go:24", after := #[{ on := 4, ground := Ground.data }, { on := 6, ground := Ground.gcOnly Departure.lateStores }], guard := none } : Oper)) (v := .slice va hn vc) rfl (by kernel_rfl) (by kernel_rfl) (by kernel_rfl) (fun _ _ _ h => h) (Or.inl ⟨by rfl, ?_⟩) hS ?_
    · (intro w hSw; (try dsimp only at hSw); have z := (HJ1.out.blk.keep hSw).cells.2; go_simp)
    (try simp only [Act.put, List.setIfInBounds_toArray, List.set_cons_zero, List.set_cons_succ])
    refine rg_one 1 ({ dst := some 12, op := Op.call { callee := Callee.value (Operand.func 49), args := #[Operand.tmp 11], argTypes := #[78] }, type := 4, pos := "join.go:24", after := #[{ on := 0, ground := Ground.data }], guard := none } : Oper) (by kernel_rfl) rfl (fun K hK => ?_)
    go_simp
    (go_at_call 49; (with_reducible refine (idle_any false (.slice va hn vc) jb _ (HJ1.out.blk.keep hS)).mono ?_); rintro e w6 ⟨rfl, rfl⟩)
    refine hK.out _ _ ?_ (fun hS1 => ?_)
    · (exact hS)
    clear hK K hS; have hS := hS1; clear hS1
    (try simp only [Act.put, List.setIfInBounds_toArray, List.set_cons_zero, List.set_cons_succ])
    refine wpAnyH_take (i := 6) (oi := ({ dst := some 7, op := Op.assign (Operand.tmp 12), type := 4, pos := "join.go:24", after := #[{ on := 1, ground := Ground.data }, { on := 1, ground := Ground.chain }, { on := 0, ground := Ground.phase }, { on := 1, ground := Ground.phase }, { on := 2, ground := Ground.textOnly Departure.lateStores }, { on := 3, ground := Ground.textOnly Departure.lateStores }, { on := 4, ground := Ground.textOnly Departure.lateStores }, { on := 5, ground := Ground.textOnly Departure.lateStores }], guard := none } : Oper)) (v := ?_) rfl (by kernel_rfl) (by kernel_rfl) (by kernel_rfl) (fun _ _ _ h => h) (Or.inl ⟨by rfl, ?_⟩) hS ?_
    rotate_left
    · (intro w hSw; (try dsimp only at hSw); go_simp; try with_reducible rfl)
    (try simp only [Act.put, List.setIfInBounds_toArray, List.set_cons_zero, List.set_cons_succ])
    refine wpAnyH_take (i := 7) (oi := ({ dst := some 8, op := Op.assign (Operand.tmp 16), type := 43, pos := "join.go:24", after := #[{ on := 5, ground := Ground.data }, { on := 6, ground := Ground.chain }, { on := 0, ground := Ground.phase }, { on := 1, ground := Ground.phase }, { on := 2, ground := Ground.phase }, { on := 3, ground := Ground.phase }, { on := 4, ground := Ground.phase }, { on := 5, ground := Ground.phase }, { on := 6, ground := Ground.phase }], guard := none } : Oper)) (v := ?_) rfl (by kernel_rfl) (by kernel_rfl) (by kernel_rfl) (fun _ _ _ h => h) (Or.inl ⟨by rfl, ?_⟩) hS ?_
    rotate_left
    · (intro w hSw; (try dsimp only at hSw); go_simp; try with_reducible rfl)
    (try simp only [Act.put, List.setIfInBounds_toArray, List.set_cons_zero, List.set_cons_succ])
    refine wpAnyH_done (by kernel_rfl) ?_ _
    obtain ⟨w2, hw2⟩ : ∃ q, World.drew w1 = q := ⟨_, rfl⟩
    rw [hw2] at hS
    simp only [hw2]
    have HB2 := Lib.hid (bch HB1.out hS)
    have HF2 := Lib.hid (HF1.out.keep hS)
    have HJ2 := Lib.hid (HJ1.out.keep hS)
    clear hS hw2
    go_wp2_with (first
      | (refine wpList_store_row rfl 130 _ _ rfl jb (jA false (.slice none 0 0)) rfl rfl _ _ HJ2.out.blk (jo_info _ _) rfl (jo_one _ _ _ _) ?_))
    obtain ⟨w3, hw3⟩ : ∃ q, w2.setRow jb (jA false (.slice none 0 0)) = q := ⟨_, rfl⟩
    rw [hw3]
    have HO3 : Hid (Oth w w3 jb (.slice va hn vc)) := Lib.hid (hw3 ▸ (Oth.of_below HB2.out).trans (Oth.row w2 jb _ _))
    have HF3 : Hid (FO w3 fb 2 ep (.slice da n dc)) := Lib.hid (hw3 ▸ HF2.out.apart (HJ2.out.blk.ne HF2.out (by decide)) _)
    have HR3 : Hid (w3.ownsRow W.heap.size 5 1 (.slice va hn vc) hn (il .u8 h)) := Lib.hid (by rw [← hw3]; have z := HJ2.out.blk.row_own (jA false (.slice none 0 0)) HJ2.out.row (by decide); rw [HN.out] at z; exact z)
    have HJ3 : Hid (JO w3 jb false (.slice none 0 0)) := Lib.hid (hw3 ▸ HJ2.out.blk.row _ _)
    obtain ⟨f30, f31, f32⟩ := HF3.out.cells
    have hlow := HJ.out.low
    clear hw3
    go_step3
    go_wp2_with (first
      | (at_builtin; go_loud (refine wpl_appw rfl (.tmp 39) (.tmp 41) 43 rfl 5 .u8 1 Tryd.underlying43 Tryd.info_u8 W.heap.size (.slice va hn vc) hn h rfl HR3.out _ n d rfl (HR.out _ HO3.out) (by omega) (by omega) (HW.out.trans (HJ.out.below HO3.out)).size ?_); intro v4 w4 HR4 HG4 HL4; have HO4 := Lib.hid (HO3.out.trans (Oth.grown HG4.out)); have HJ4 := Lib.hid (HJ3.out.grown HR3.out (by decide) HG4.out); obtain ⟨a4, c4, rfl⟩ := own_form HR4.out; obtain ⟨g0, g1, g2⟩ := (HF3.out.grown HR3.out HG4.out).cells)
      | (refine wpList_store_row rfl 130 _ _ rfl jb (jA true (.slice a4 (hn + n) c4)) rfl rfl _ _ HJ4.out (jo_info _ _) rfl (jo_one _ _ _ _) ?_))
    try rw [Exit.noGoto_ret]
    go_ret3
    refine ⟨.slice a4 (hn + n) c4, rfl, ⟨HJ4.out.row _ _, ?_, fun e => by simp at e, by rw [List.length_append, HN.out, HZ.out]; omega, hlow⟩, ?_, HO4.out.trans (Oth.row _ _ _ _)⟩
    · rw [List.length_append, HN.out, HZ.out]; exact HJ4.out.row_own _ HR4.out (by decide)
    · intro g hg
      rcases HL4.out with e | e
      · exact .inl (by rw [← e]; exact hg.symm)
      · rw [hg] at e; obtain rfl := Option.some.inj e; exact .inr HO3.out.size
  · go_enter Tryd.func50, Tryd.ntmps50
    go_wp2
    go_step3
    go_wp2_with fail
    obtain ⟨w1, hw1⟩ : ∃ q, w.alloc (.cells (fA 3 ep (.slice da n dc)) 70) = q := ⟨_, rfl⟩
    rw [hw1]
    obtain ⟨fb, hfb⟩ : ∃ q, w.heap.size = q := ⟨_, rfl⟩
    have hb1 : Below w.heap.size w w1 := hw1 ▸ balloc w _
    have HF1 : Hid (FO w1 fb 3 ep (.slice da n dc)) := Lib.hid (by rw [← hw1, ← hfb]; exact FO.alloc w)
    have HB1 := Lib.hid hb1
    have HJ1 := Lib.hid (HJ.out.keep hb1)
    rw [hfb]
    clear hb1 hw1 hfb
    refine wp_region_held_drew (S := (fun w' => Below w1.heap.size w1 w')) (by kernel_rfl) ((Below.refl w1.heap.size w1).drew) (fun hS => ?_)
    refine wpAnyH_take (i := 0) (oi := ({ dst := some 11, op := Op.move (Operand.tmp 0), type := 78, pos := "join.go:24", after := #[], guard := none } : Oper)) (v := ?_) rfl (by kernel_rfl) (by kernel_rfl) (by kernel_rfl) (fun _ _ _ h => h) (Or.inl ⟨by rfl, ?_⟩) hS ?_
    rotate_left
    · (intro w hSw; (try dsimp only at hSw); go_simp; try with_reducible rfl)
    (try simp only [Act.put, List.setIfInBounds_toArray, List.set_cons_zero, List.set_cons_succ])
    refine wpAnyH_take (i := 2) (oi := ({ dst := some 13, op := Op.move (Operand.tmp 0), type := 78, pos := "join.go:24", after := #[{ on := 6, ground := Ground.gcOnly Departure.lateStores }], guard := none } : Oper)) (v := ?_) rfl (by kernel_rfl) (by kernel_rfl) (by kernel_rfl) (fun _ _ _ h => h) (Or.inl ⟨by rfl, ?_⟩) hS ?_
    rotate_left
    · (intro w hSw; (try dsimp only at hSw); go_simp; try with_reducible rfl)
    (try simp only [Act.put, List.setIfInBounds_toArray, List.set_cons_zero, List.set_cons_succ])
    refine wpAnyH_take (i := 3) (oi := ({ dst := some 14, op := Op.nilCheck (Operand.tmp 13), type := 0, pos := "join.go:24", after := #[{ on := 2, ground := Ground.data }, { on := 6, ground := Ground.gcOnly Departure.lateStores }], guard := none } : Oper)) (v := ?_) rfl (by kernel_rfl) (by kernel_rfl) (by kernel_rfl) (fun _ _ _ h => h) (Or.inl ⟨by rfl, ?_⟩) hS ?_
    rotate_left
    · (intro w hSw; (try dsimp only at hSw); go_simp; try with_reducible rfl)
    (try simp only [Act.put, List.setIfInBounds_toArray, List.set_cons_zero, List.set_cons_succ])
    refine wpAnyH_take (i := 4) (oi := ({ dst := some 15, op := Op.fieldAddr 130 (Operand.tmp 14) 1, type := 0, pos := "join.go:24", after := #[{ on := 3, ground := Ground.data }, { on := 6, ground := Ground.gcOnly Departure.lateStores }], guard := none } : Oper)) (v := ?_) rfl (by kernel_rfl) (by kernel_rfl) (by kernel_rfl) (fun _ _ _ h => h) (Or.inl ⟨by rfl, ?_⟩) hS ?_
    rotate_left
    · (intro w hSw; (try dsimp only at hSw); go_simp; try with_reducible rfl)
    (try simp only [Act.put, List.setIfInBounds_toArray, List.set_cons_zero, List.set_cons_succ])
    refine wpAnyH_take (i := 5) (oi := ({ dst := some 16, op := Op.load 43 (Operand.tmp 15), type := 43, pos := "join.go:24", after := #[{ on := 4, ground := Ground.data }, { on := 6, ground := Ground.gcOnly Departure.lateStores }], guard := none } : Oper)) (v := .slice va hn vc) rfl (by kernel_rfl) (by kernel_rfl) (by kernel_rfl) (fun _ _ _ h => h) (Or.inl ⟨by rfl, ?_⟩) hS ?_
    · (intro w hSw; (try dsimp only at hSw); have z := (HJ1.out.blk.keep hSw).cells.2; go_simp)
    (try simp only [Act.put, List.setIfInBounds_toArray, List.set_cons_zero, List.set_cons_succ])
    refine rg_one 1 ({ dst := some 12, op := Op.call { callee := Callee.value (Operand.func 49), args := #[Operand.tmp 11], argTypes := #[78] }, type := 4, pos := "join.go:24", after := #[{ on := 0, ground := Ground.data }], guard := none } : Oper) (by kernel_rfl) rfl (fun K hK => ?_)
    go_simp
    (go_at_call 49; (with_reducible refine (idle_any true (.slice va hn vc) jb _ (HJ1.out.blk.keep hS)).mono ?_); rintro e w6 ⟨rfl, rfl⟩)
    refine hK.out _ _ ?_ (fun hS1 => ?_)
    · (exact hS)
    clear hK K hS; have hS := hS1; clear hS1
    (try simp only [Act.put, List.setIfInBounds_toArray, List.set_cons_zero, List.set_cons_succ])
    refine wpAnyH_take (i := 6) (oi := ({ dst := some 7, op := Op.assign (Operand.tmp 12), type := 4, pos := "join.go:24", after := #[{ on := 1, ground := Ground.data }, { on := 1, ground := Ground.chain }, { on := 0, ground := Ground.phase }, { on := 1, ground := Ground.phase }, { on := 2, ground := Ground.textOnly Departure.lateStores }, { on := 3, ground := Ground.textOnly Departure.lateStores }, { on := 4, ground := Ground.textOnly Departure.lateStores }, { on := 5, ground := Ground.textOnly Departure.lateStores }], guard := none } : Oper)) (v := ?_) rfl (by kernel_rfl) (by kernel_rfl) (by kernel_rfl) (fun _ _ _ h => h) (Or.inl ⟨by rfl, ?_⟩) hS ?_
    rotate_left
    · (intro w hSw; (try dsimp only at hSw); go_simp; try with_reducible rfl)
    (try simp only [Act.put, List.setIfInBounds_toArray, List.set_cons_zero, List.set_cons_succ])
    refine wpAnyH_take (i := 7) (oi := ({ dst := some 8, op := Op.assign (Operand.tmp 16), type := 43, pos := "join.go:24", after := #[{ on := 5, ground := Ground.data }, { on := 6, ground := Ground.chain }, { on := 0, ground := Ground.phase }, { on := 1, ground := Ground.phase }, { on := 2, ground := Ground.phase }, { on := 3, ground := Ground.phase }, { on := 4, ground := Ground.phase }, { on := 5, ground := Ground.phase }, { on := 6, ground := Ground.phase }], guard := none } : Oper)) (v := ?_) rfl (by kernel_rfl) (by kernel_rfl) (by kernel_rfl) (fun _ _ _ h => h) (Or.inl ⟨by rfl, ?_⟩) hS ?_
    rotate_left
    · (intro w hSw; (try dsimp only at hSw); go_simp; try with_reducible rfl)
    (try simp only [Act.put, List.setIfInBounds_toArray, List.set_cons_zero, List.set_cons_succ])
    refine wpAnyH_done (by kernel_rfl) ?_ _
    obtain ⟨w2, hw2⟩ : ∃ q, World.drew w1 = q := ⟨_, rfl⟩
    rw [hw2] at hS
    simp only [hw2]
    have HB2 := Lib.hid (bch HB1.out hS)
    have HF2 := Lib.hid (HF1.out.keep hS)
    have HJ2 := Lib.hid (HJ1.out.keep hS)
    clear hS hw2
    go_wp2_with (first
      | (refine wpList_store_row rfl 130 _ _ rfl jb (jA false (.slice none 0 0)) rfl rfl _ _ HJ2.out.blk (jo_info _ _) rfl (jo_one _ _ _ _) ?_))
    obtain ⟨w3, hw3⟩ : ∃ q, w2.setRow jb (jA false (.slice none 0 0)) = q := ⟨_, rfl⟩
    rw [hw3]
    have HO3 : Hid (Oth w w3 jb (.slice va hn vc)) := Lib.hid (hw3 ▸ (Oth.of_below HB2.out).trans (Oth.row w2 jb _ _))
    have HF3 : Hid (FO w3 fb 3 ep (.slice da n dc)) := Lib.hid (hw3 ▸ HF2.out.apart (HJ2.out.blk.ne HF2.out (by decide)) _)
    have HR3 : Hid (w3.ownsRow W.heap.size 5 1 (.slice va hn vc) hn (il .u8 h)) := Lib.hid (by rw [← hw3]; have z := HJ2.out.blk.row_own (jA false (.slice none 0 0)) HJ2.out.row (by decide); rw [HN.out] at z; exact z)
    have HJ3 : Hid (JO w3 jb false (.slice none 0 0)) := Lib.hid (hw3 ▸ HJ2.out.blk.row _ _)
    obtain ⟨f30, f31, f32⟩ := HF3.out.cells
    have hlow := HJ.out.low
    clear hw3
    go_step3
    go_wp2_with (first
      | (at_builtin; go_loud (refine wpl_appw rfl (.tmp 39) (.tmp 41) 43 rfl 5 .u8 1 Tryd.underlying43 Tryd.info_u8 W.heap.size (.slice va hn vc) hn h rfl HR3.out _ n d rfl (HR.out _ HO3.out) (by omega) (by omega) (HW.out.trans (HJ.out.below HO3.out)).size ?_); intro v4 w4 HR4 HG4 HL4; have HO4 := Lib.hid (HO3.out.trans (Oth.grown HG4.out)); have HJ4 := Lib.hid (HJ3.out.grown HR3.out (by decide) HG4.out); obtain ⟨a4, c4, rfl⟩ := own_form HR4.out; obtain ⟨g0, g1, g2⟩ := (HF3.out.grown HR3.out HG4.out).cells)
      | (refine wpList_store_row rfl 130 _ _ rfl jb (jA true (.slice a4 (hn + n) c4)) rfl rfl _ _ HJ4.out (jo_info _ _) rfl (jo_one _ _ _ _) ?_))
    try rw [Exit.noGoto_ret]
    go_ret3
    refine ⟨.slice a4 (hn + n) c4, rfl, ⟨HJ4.out.row _ _, ?_, fun e => by simp at e, by rw [List.length_append, HN.out, HZ.out]; omega, hlow⟩, ?_, HO4.out.trans (Oth.row _ _ _ _)⟩
    · rw [List.length_append, HN.out, HZ.out]; exact HJ4.out.row_own _ HR4.out (by decide)
    · intro g hg
      rcases HL4.out with e | e
      · exact .inl (by rw [← e]; exact hg.symm)
      · rw [hg] at e; obtain rfl := Option.some.inj e; exact .inr HO3.out.size
set_option maxRecDepth 8000 in
set_option maxHeartbeats 2000000 in
/-- too many bytes -/
theorem feed_long (W : World) (o : Bool) (jb : Nat) (v : Value) (h : List Int) (k ep : Int) (dv : Value) (n : Nat) (d : List Int) (w : World) (hW : Below W.heap.size W w) (hj : JB w W.heap.size jb o v h) (hri : ∀ w', Oth w w' jb v → RI .u8 w' dv n d)
    (hk : jFit o k = true) (hl : h.length + n > 512) :
    Calls Tryd.prog 50 #[.pointer (some ⟨jb, 0, none⟩), .agg (fA k ep dv)] w fun e w' =>
      e = .returned (.tuple #[.slice none 0 0, .bool false, .int .i64 5]) ∧ JB w' W.heap.size jb false (.slice none 0 0) [] ∧ Oth w w' jb v := by
  have hc : (o = false ∧ k = 1) ∨ (o = false ∧ k = 2) ∨ (o = true ∧ k = 3) ∨ (o = true ∧ k = 4) := by
    unfold jFit at hk
    cases o <;> simp at hk ⊢ <;> exact hk
  clear hk
  have hzl := (hri w (Oth.refl _ _ _)).length
  have HR := Lib.hid hri
  have HW := Lib.hid hW
  obtain ⟨hn, hhn⟩ : ∃ m, h.length = m := ⟨_, rfl⟩
  have hr := hj.row
  rw [hhn] at hr hl
  have hfew := hj.few
  rw [hhn] at hfew
  obtain ⟨va, vc, rfl⟩ := own_form hr
  have HJ := Lib.hid hj
  obtain ⟨da, dc, rfl, _, hdc, hdm, _⟩ := hri w (Oth.refl _ _ _)
  have HN := Lib.hid hhn
  have HZ := Lib.hid hzl
  clear hj hW hzl hhn hr
  rcases hc with ⟨rfl, rfl⟩ | ⟨rfl, rfl⟩ | ⟨rfl, rfl⟩ | ⟨rfl, rfl⟩
  · go_enter Tryd.func50, Tryd.ntmps50
    go_wp2
    go_step3
    go_wp2_with fail
    obtain ⟨w1, hw1⟩ : ∃ q, w.alloc (.cells (fA 1 ep (.slice da n dc)) 70) = q := ⟨_, rfl⟩
    rw [hw1]
    obtain ⟨fb, hfb⟩ : ∃ q, w.heap.size = q := ⟨_, rfl⟩
    have hb1 : Below w.heap.size w w1 := hw1 ▸ balloc w _
    have HF1 : Hid (FO w1 fb 1 ep (.slice da n dc)) := Lib.hid (by rw [← hw1, ← hfb]; exact FO.alloc w)
    have HB1 := Lib.hid hb1
    have HJ1 := Lib.hid (HJ.out.keep hb1)
    rw [hfb]
    clear hb1 hw1 hfb
    refine wp_region_held_drew (S := (fun w' => Below w1.heap.size w1 w')) (by kernel_rfl) ((Below.refl w1.heap.size w1).drew) (fun hS => ?_)
    refine wpAnyH_take (i := 0) (oi := ({ dst := some 11, op := Op.move (Operand.tmp 0), type := 78, pos := "join.go:24", after := #[], guard := none } : Oper)) (v := ?_) rfl (by kernel_rfl) (by kernel_rfl) (by kernel_rfl) (fun _ _ _ h => h) (Or.inl ⟨by rfl, ?_⟩) hS ?_
    rotate_left
    · (intro w hSw; (try dsimp only at hSw); go_simp; try with_reducible rfl)
    (try simp only [Act.put, List.setIfInBounds_toArray, List.set_cons_zero, List.set_cons_succ])
    refine wpAnyH_take (i := 2) (oi := ({ dst := some 13, op := Op.move (Operand.tmp 0), type := 78, pos := "join.go:24", after := #[{ on := 6, ground := Ground.gcOnly Departure.lateStores }], guard := none } : Oper)) (v := ?_) rfl (by kernel_rfl) (by kernel_rfl) (by kernel_rfl) (fun _ _ _ h => h) (Or.inl ⟨by rfl, ?_⟩) hS ?_
    rotate_left
    · (intro w hSw; (try dsimp only at hSw); go_simp; try with_reducible rfl)
    (try simp only [Act.put, List.setIfInBounds_toArray, List.set_cons_zero, List.set_cons_succ])
    refine wpAnyH_take (i := 3) (oi := ({ dst := some 14, op := Op.nilCheck (Operand.tmp 13), type := 0, pos := "join.go:24", after := #[{ on := 2, ground := Ground.data }, { on := 6, ground := Ground.gcOnly Departure.lateStores }], guard := none } : Oper)) (v := ?_) rfl (by kernel_rfl) (by kernel_rfl) (by kernel_rfl) (fun _ _ _ h => h) (Or.inl ⟨by rfl, ?_⟩) hS ?_
    rotate_left
    · (intro w hSw; (try dsimp only at hSw); go_simp; try with_reducible rfl)
    (try simp only [Act.put, List.setIfInBounds_toArray, List.set_cons_zero, List.set_cons_succ])
    refine wpAnyH_take (i := 4) (oi := ({ dst := some 15, op := Op.fieldAddr 130 (Operand.tmp 14) 1, type := 0, pos := "join.go:24", after := #[{ on := 3, ground := Ground.data }, { on := 6, ground := Ground.gcOnly Departure.lateStores }], guard := none } : Oper)) (v := ?_) rfl (by kernel_rfl) (by kernel_rfl) (by kernel_rfl) (fun _ _ _ h => h) (Or.inl ⟨by rfl, ?_⟩) hS ?_
    rotate_left
    · (intro w hSw; (try dsimp only at hSw); go_simp; try with_reducible rfl)
    (try simp only [Act.put, List.setIfInBounds_toArray, List.set_cons_zero, List.set_cons_succ])
    refine wpAnyH_take (i := 5) (oi := ({ dst := some 16, op := Op.load 43 (Operand.tmp 15), type := 43, pos := "join.go:24", after := #[{ on := 4, ground := Ground.data }, { on := 6, ground := Ground.gcOnly Departure.lateStores }], guard := none } : Oper)) (v := .slice va hn vc) rfl (by kernel_rfl) (by kernel_rfl) (by kernel_rfl) (fun _ _ _ h => h) (Or.inl ⟨by rfl, ?_⟩) hS ?_
    · (intro w hSw; (try dsimp only at hSw); have z := (HJ1.out.blk.keep hSw).cells.2; go_simp)
    (try simp only [Act.put, List.setIfInBounds_toArray, List.set_cons_zero, List.set_cons_succ])
    refine rg_one 1 ({ dst := some 12, op := Op.call { callee := Callee.value (Operand.func 49), args := #[Operand.tmp 11], argTypes := #[78] }, type := 4, pos := "join.go:24", after := #[{ on := 0, ground := Ground.data }], guard := none } : Oper) (by kernel_rfl) rfl (fun K hK => ?_)
    go_simp
    (go_at_call 49; (with_reducible refine (idle_any false (.slice va hn vc) jb _ (HJ1.out.blk.keep hS)).mono ?_); rintro e w6 ⟨rfl, rfl⟩)
    refine hK.out _ _ ?_ (fun hS1 => ?_)
    · (exact hS)
    clear hK K hS; have hS := hS1; clear hS1
    (try simp only [Act.put, List.setIfInBounds_toArray, List.set_cons_zero, List.set_cons_succ])
    refine wpAnyH_take (i := 6) (oi := ({ dst := some 7, op := Op.assign (Operand.tmp 12), type := 4, pos := "join.go:24", after := #[{ on := 1, ground := Ground.data }, { on := 1, ground := Ground.chain }, { on := 0, ground := Ground.phase }, { on := 1, ground := Ground.phase }, { on := 2, ground := Ground.textOnly Departure.lateStores }, { on := 3, ground := Ground.textOnly Departure.lateStores }, { on := 4, ground := Ground.textOnly Departure.lateStores }, { on := 5, ground := Ground.textOnly Departure.lateStores }], guard := none } : Oper)) (v := ?_) rfl (by kernel_rfl) (by kernel_rfl) (by kernel_rfl) (fun _ _ _ h => h) (Or.inl ⟨by rfl, ?_⟩) hS ?_
    rotate_left
    · (intro w hSw; (try dsimp only at hSw); go_simp; try with_reducible rfl)
    (try simp only [Act.put, List.setIfInBounds_toArray, List.set_cons_zero, List.set_cons_succ])
    refine wpAnyH_take (i := 7) (oi := ({ dst := some 8, op := Op.assign (Operand.tmp 16), type := 43, pos := "join.go:24", after := #[{ on := 5, ground := Ground.data }, { on := 6, ground := Ground.chain }, { on := 0, ground := Ground.phase }, { on := 1, ground := Ground.phase }, { on := 2, ground := Ground.phase }, { on := 3, ground := Ground.phase }, { on := 4, ground := Ground.phase }, { on := 5, ground := Ground.phase }, { on := 6, ground := Ground.phase }], guard := none } : Oper)) (v := ?_) rfl (by kernel_rfl) (by kernel_rfl) (by kernel_rfl) (fun _ _ _ h => h) (Or.inl ⟨by rfl, ?_⟩) hS ?_
    rotate_left
    · (intro w hSw; (try dsimp only at hSw); go_simp; try with_reducible rfl)
    (try simp only [Act.put, List.setIfInBounds_toArray, List.set_cons_zero, List.set_cons_succ])
    refine wpAnyH_done (by kernel_rfl) ?_ _
    obtain ⟨w2, hw2⟩ : ∃ q, World.drew w1 = q := ⟨_, rfl⟩
    rw [hw2] at hS
    simp only [hw2]
    have HB2 := Lib.hid (bch HB1.out hS)
    have HF2 := Lib.hid (HF1.out.keep hS)
    have HJ2 := Lib.hid (HJ1.out.keep hS)
    clear hS hw2
    go_wp2_with (first
      | (refine wpList_store_row rfl 130 _ _ rfl jb (jA false (.slice none 0 0)) rfl rfl _ _ HJ2.out.blk (jo_info _ _) rfl (jo_one _ _ _ _) ?_))
    obtain ⟨w3, hw3⟩ : ∃ q, w2.setRow jb (jA false (.slice none 0 0)) = q := ⟨_, rfl⟩
    rw [hw3]
    have HO3 : Hid (Oth w w3 jb (.slice va hn vc)) := Lib.hid (hw3 ▸ (Oth.of_below HB2.out).trans (Oth.row w2 jb _ _))
    have HF3 : Hid (FO w3 fb 1 ep (.slice da n dc)) := Lib.hid (hw3 ▸ HF2.out.apart (HJ2.out.blk.ne HF2.out (by decide)) _)
    have HR3 : Hid (w3.ownsRow W.heap.size 5 1 (.slice va hn vc) hn (il .u8 h)) := Lib.hid (by rw [← hw3]; have z := HJ2.out.blk.row_own (jA false (.slice none 0 0)) HJ2.out.row (by decide); rw [HN.out] at z; exact z)
    have HJ3 : Hid (JO w3 jb false (.slice none 0 0)) := Lib.hid (hw3 ▸ HJ2.out.blk.row _ _)
    obtain ⟨f30, f31, f32⟩ := HF3.out.cells
    have hlow := HJ.out.low
    clear hw3
    go_step3
    go_wp2
    try rw [Exit.noGoto_ret]
    go_ret3
    exact ⟨rfl, ⟨HJ3.out, World.ownsRow_nil _ _ _ _, fun _ => ⟨rfl, rfl⟩, by simp, hlow⟩, HO3.out⟩
  · go_enter Tryd.func50, Tryd.ntmps50
    go_wp2
    go_step3
    go_wp2_with fail
    obtain ⟨w1, hw1⟩ : ∃ q, w.alloc (.cells (fA 2 ep (.slice da n dc)) 70) = q := ⟨_, rfl⟩
    rw [hw1]
    obtain ⟨fb, hfb⟩ : ∃ q, w.heap.size = q := ⟨_, rfl⟩
    have hb1 : Below w.heap.size w w1 := hw1 ▸ balloc w _
    have HF1 : Hid (FO w1 fb 2 ep (.slice da n dc)) := Lib.hid (by rw [← hw1, ← hfb]; exact FO.alloc w)
    have HB1 := Lib.hid hb1
    have HJ1 := Lib.hid (HJ.out.keep hb1)
    rw [hfb]
    clear hb1 hw1 hfb
    refine wp_region_held_drew (S := (fun w' => Below w1.heap.size w1 w')) (by kernel_rfl) ((Below.refl w1.heap.size w1).drew) (fun hS => ?_)
    refine wpAnyH_take (i := 0) (oi := ({ dst := some 11, op := Op.move (Operand.tmp 0), type := 78, pos := "join.go:24", after := #[], guard := none } : Oper)) (v := ?_) rfl (by kernel_rfl) (by kernel_rfl) (by kernel_rfl) (fun _ _ _ h => h) (Or.inl ⟨by rfl, ?_⟩) hS ?_
    rotate_left
    · (intro w hSw; (try dsimp only at hSw); go_simp; try with_reducible rfl)
    (try simp only [Act.put, List.setIfInBounds_toArray, List.set_cons_zero, List.set_cons_succ])
    refine wpAnyH_take (i := 2) (oi := ({ dst := some 13, op := Op.move (Operand.tmp 0), type := 78, pos := "join.go:24", after := #[{ on := 6, ground := Ground.gcOnly Departure.lateStores }], guard := none } : Oper)) (v := ?_) rfl (by kernel_rfl) (by kernel_rfl) (by kernel_rfl) (fun _ _ _ h => h) (Or.inl ⟨by rfl, ?_⟩) hS ?_
    rotate_left
    · (intro w hSw; (try dsimp only at hSw); go_simp; try with_reducible rfl)
    (try simp only [Act.put, List.setIfInBounds_toArray, List.set_cons_zero, List.set_cons_succ])
    refine wpAnyH_take (i := 3) (oi := ({ dst := some 14, op := Op.nilCheck (Operand.tmp 13), type := 0, pos := "join.go:24", after := #[{ on := 2, ground := Ground.data }, { on := 6, ground := Ground.gcOnly Departure.lateStores }], guard := none } : Oper)) (v := ?_) rfl (by kernel_rfl) (by kernel_rfl) (by kernel_rfl) (fun _ _ _ h => h) (Or.inl ⟨by rfl, ?_⟩) hS ?_
    rotate_left
    · (intro w hSw; (try dsimp only at hSw); go_simp; try with_reducible rfl)
    (try simp only [Act.put, List.setIfInBounds_toArray, List.set_cons_zero, List.set_cons_succ])
    refine wpAnyH_take (i := 4) (oi := ({ dst := some 15, op := Op.fieldAddr 130 (Operand.tmp 14) 1, type := 0, pos := "join.go:24", after := #[{ on := 3, ground := Ground.data }, { on := 6, ground := Ground.gcOnly Departure.lateStores }], guard := none } : Oper)) (v := ?_) rfl (by kernel_rfl) (by kernel_rfl) (by kernel_rfl) (fun _ _ _ h => h) (Or.inl ⟨by rfl, ?_⟩) hS ?_
    rotate_left
    · (intro w hSw; (try dsimp only at hSw); go_simp; try with_reducible rfl)
    (try simp only [Act.put, List.setIfInBounds_toArray, List.set_cons_zero, List.set_cons_succ])
    refine wpAnyH_take (i := 5) (oi := ({ dst := some 16, op := Op.load 43 (Operand.tmp 15), type := 43, pos := "join.go:24", after := #[{ on := 4, ground := Ground.data }, { on := 6, ground := Ground.gcOnly Departure.lateStores }], guard := none } : Oper)) (v := .slice va hn vc) rfl (by kernel_rfl) (by kernel_rfl) (by kernel_rfl) (fun _ _ _ h => h) (Or.inl ⟨by rfl, ?_⟩) hS ?_
    · (intro w hSw; (try dsimp only at hSw); have z := (HJ1.out.blk.keep hSw).cells.2; go_simp)
    (try simp only [Act.put, List.setIfInBounds_toArray, List.set_cons_zero, List.set_cons_succ])
    refine rg_one 1 ({ dst := some 12, op := Op.call { callee := Callee.value (Operand.func 49), args := #[Operand.tmp 11], argTypes := #[78] }, type := 4, pos := "join.go:24", after := #[{ on := 0, ground := Ground.data }], guard := none } : Oper) (by kernel_rfl) rfl (fun K hK => ?_)
    go_simp
    (go_at_call 49; (with_reducible refine (idle_any false (.slice va hn vc) jb _ (HJ1.out.blk.keep hS)).mono ?_); rintro e w6 ⟨rfl, rfl⟩)
    refine hK.out _ _ ?_ (fun hS1 => ?_)
    · (exact hS)
    clear hK K hS; have hS := hS1; clear hS1
    (try simp only [Act.put, List.setIfInBounds_toArray, List.set_cons_zero, List.set_cons_succ])
    refine wpAnyH_take (i := 6) (oi := ({ dst := some 7, op := Op.assign (Operand.tmp 12), type := 4, pos := "join.go:24", after := #[{ on := 1, ground := Ground.data }, { on := 1, ground := Ground.chain }, { on := 0, ground := Ground.phase }, { on := 1, ground := Ground.phase }, { on := 2, ground := Ground.textOnly Departure.lateStores }, { on := 3, ground := Ground.textOnly Departure.lateStores }, { on := 4, ground := Ground.textOnly Departure.lateStores }, { on := 5, ground := Ground.textOnly Departure.lateStores }], guard := none } : Oper)) (v := ?_) rfl (by kernel_rfl) (by kernel_rfl) (by kernel_rfl) (fun _ _ _ h => h) (Or.inl ⟨by rfl, ?_⟩) hS ?_
    rotate_left
    · (intro w hSw; (try dsimp only at hSw); go_simp; try with_reducible rfl)
    (try simp only [Act.put, List.setIfInBounds_toArray, List.set_cons_zero, List.set_cons_succ])
    refine wpAnyH_take (i := 7) (oi := ({ dst := some 8, op := Op.assign (Operand.tmp 16), type := 43, pos := "join.go:24", after := #[{ on := 5, ground := Ground.data }, { on := 6, ground := Ground.chain }, { on := 0, ground := Ground.phase }, { on := 1, ground := Ground.phase }, { on := 2, ground := Ground.phase }, { on := 3, ground := Ground.phase }, { on := 4, ground := Ground.phase }, { on := 5, ground := Ground.phase }, { on := 6, ground := Ground.phase }], guard := none } : Oper)) (v := ?_) rfl (by kernel_rfl) (by kernel_rfl) (by kernel_rfl) (fun _ _ _ h => h) (Or.inl ⟨by rfl, ?_⟩) hS ?_
    rotate_left
    · (intro w hSw; (try dsimp only at hSw); go_simp; try with_reducible rfl)
    (try simp only [Act.put, List.setIfInBounds_toArray, List.set_cons_zero, List.set_cons_succ])
    refine wpAnyH_done (by kernel_rfl) ?_ _
    obtain ⟨w2, hw2⟩ : ∃ q, World.drew w1 = q := ⟨_, rfl⟩
    rw [hw2] at hS
    simp only [hw2]
    have HB2 := Lib.hid (bch HB1.out hS)
    have HF2 := Lib.hid (HF1.out.keep hS)
    have HJ2 := Lib.hid (HJ1.out.keep hS)
    clear hS hw2
    go_wp2_with (first
      | (refine wpList_store_row rfl 130 _ _ rfl jb (jA false (.slice none 0 0)) rfl rfl _ _ HJ2.out.blk (jo_info _ _) rfl (jo_one _ _ _ _) ?_))
    obtain ⟨w3, hw3⟩ : ∃ q, w2.setRow jb (jA false (.slice none 0 0)) = q := ⟨_, rfl⟩
    rw [hw3]
    have HO3 : Hid (Oth w w3 jb (.slice va hn vc)) := Lib.hid (hw3 ▸ (Oth.of_below HB2.out).trans (Oth.row w2 jb _ _))
    have HF3 : Hid (FO w3 fb 2 ep (.slice da n dc)) := Lib.hid (hw3 ▸ HF2.out.apart (HJ2.out.blk.ne HF2.out (by decide)) _)
    have HR3 : Hid (w3.ownsRow W.heap.size 5 1 (.slice va hn vc) hn (il .u8 h)) := Lib.hid (by rw [← hw3]; have z := HJ2.out.blk.row_own (jA false (.slice none 0 0)) HJ2.out.row (by decide); rw [HN.out] at z; exact z)
    have HJ3 : Hid (JO w3 jb false (.slice none 0 0)) := Lib.hid (hw3 ▸ HJ2.out.blk.row _ _)
    obtain ⟨f30, f31, f32⟩ := HF3.out.cells
    have hlow := HJ.out.low
    clear hw3
    go_step3
    go_wp2
    try rw [Exit.noGoto_ret]
    go_ret3
    exact ⟨rfl, ⟨HJ3.out, World.ownsRow_nil _ _ _ _, fun _ => ⟨rfl, rfl⟩, by simp, hlow⟩, HO3.out⟩
  · go_enter Tryd.func50, Tryd.ntmps50
    go_wp2
    go_step3
    go_wp2_with fail
    obtain ⟨w1, hw1⟩ : ∃ q, w.alloc (.cells (fA 3 ep (.slice da n dc)) 70) = q := ⟨_, rfl⟩
    rw [hw1]
    obtain ⟨fb, hfb⟩ : ∃ q, w.heap.size = q := ⟨_, rfl⟩
    have hb1 : Below w.heap.size w w1 := hw1 ▸ balloc w _
    have HF1 : Hid (FO w1 fb 3 ep (.slice da n dc)) := Lib.hid (by rw [← hw1, ← hfb]; exact FO.alloc w)
    have HB1 := Lib.hid hb1
    have HJ1 := Lib.hid (HJ.out.keep hb1)
    rw [hfb]
    clear hb1 hw1 hfb
    refine wp_region_held_drew (S := (fun w' => Below w1.heap.size w1 w')) (by kernel_rfl) ((Below.refl w1.heap.size w1).drew) (fun hS => ?_)
    refine wpAnyH_take (i := 0) (oi := ({ dst := some 11, op := Op.move (Operand.tmp 0), type := 78, pos := "join.go:24", after := #[], guard := none } : Oper)) (v := ?_) rfl (by kernel_rfl) (by kernel_rfl) (by kernel_rfl) (fun _ _ _ h => h) (Or.inl ⟨by rfl, ?_⟩) hS ?_
    rotate_left
    · (intro w hSw; (try dsimp only at hSw); go_simp; try with_reducible rfl)
    (try simp only [Act.put, List.setIfInBounds_toArray, List.set_cons_zero, List.set_cons_succ])
    refine wpAnyH_take (i := 2) (oi := ({ dst := some 13, op := Op.move (Operand.tmp 0), type := 78, pos := "join.go:24", after := #[{ on := 6, ground := Ground.gcOnly Departure.lateStores }], guard := none } : Oper)) (v := ?_) rfl (by kernel_rfl) (by kernel_rfl) (by kernel_rfl) (fun _ _ _ h => h) (Or.inl ⟨by rfl, ?_⟩) hS ?_
    rotate_left
    · (intro w hSw; (try dsimp only at hSw); go_simp; try with_reducible rfl)
    (try simp only [Act.put, List.setIfInBounds_toArray, List.set_cons_zero, List.set_cons_succ])
    refine wpAnyH_take (i := 3) (oi := ({ dst := some 14, op := Op.nilCheck (Operand.tmp 13), type := 0, pos := "join.go:24", after := #[{ on := 2, ground := Ground.data }, { on := 6, ground := Ground.gcOnly Departure.lateStores }], guard := none } : Oper)) (v := ?_) rfl (by kernel_rfl) (by kernel_rfl) (by kernel_rfl) (fun _ _ _ h => h) (Or.inl ⟨by rfl, ?_⟩) hS ?_
    rotate_left
    · (intro w hSw; (try dsimp only at hSw); go_simp; try with_reducible rfl)
    (try simp only [Act.put, List.setIfInBounds_toArray, List.set_cons_zero, List.set_cons_succ])
    refine wpAnyH_take (i := 4) (oi := ({ dst := some 15, op := Op.fieldAddr 130 (Operand.tmp 14) 1, type := 0, pos := "join.go:24", after := #[{ on := 3, ground := Ground.data }, { on := 6, ground := Ground.gcOnly Departure.lateStores }], guard := none } : Oper)) (v := ?_) rfl (by kernel_rfl) (by kernel_rfl) (by kernel_rfl) (fun _ _ _ h => h) (Or.inl ⟨by rfl, ?_⟩) hS ?_
    rotate_left
    · (intro w hSw; (try dsimp only at hSw); go_simp; try with_reducible rfl)
    (try simp only [Act.put, List.setIfInBounds_toArray, List.set_cons_zero, List.set_cons_succ])
    refine wpAnyH_take (i := 5) (oi := ({ dst := some 16, op := Op.load 43 (Operand.tmp 15), type := 43, pos := "join.go:24", after := #[{ on := 4, ground := Ground.data }, { on := 6, ground := Ground.gcOnly Departure.lateStores }], guard := none } : Oper)) (v := .slice va hn vc) rfl (by kernel_rfl) (by kernel_rfl) (by kernel_rfl) (fun _ _ _ h => h) (Or.inl ⟨by rfl, ?_⟩) hS ?_
    · (intro w hSw; (try dsimp only at hSw); have z := (HJ1.out.blk.keep hSw).cells.2; go_simp)
    (try simp only [Act.put, List.setIfInBounds_toArray, List.set_cons_zero, List.set_cons_succ])
    refine rg_one 1 ({ dst := some 12, op := Op.call { callee := Callee.value (Operand.func 49), args := #[Operand.tmp 11], argTypes := #[78] }, type := 4, pos := "join.go:24", after := #[{ on := 0, ground := Ground.data }], guard := none } : Oper) (by kernel_rfl) rfl (fun K hK => ?_)
    go_simp
    (go_at_call 49; (with_reducible refine (idle_any true (.slice va hn vc) jb _ (HJ1.out.blk.keep hS)).mono ?_); rintro e w6 ⟨rfl, rfl⟩)
    refine hK.out _ _ ?_ (fun hS1 => ?_)
    · (exact hS)
    clear hK K hS; have hS := hS1; clear hS1
    (try simp only [Act.put, List.setIfInBounds_toArray, List.set_cons_zero, List.set_cons_succ])
    refine wpAnyH_take (i := 6) (oi := ({ dst := some 7, op := Op.assign (Operand.tmp 12), type := 4, pos := "join.go:24", after := #[{ on := 1, ground := Ground.data }, { on := 1, ground := Ground.chain }, { on := 0, ground := Ground.phase }, { on := 1, ground := Ground.phase }, { on := 2, ground := Ground.textOnly Departure.lateStores }, { on := 3, ground := Ground.textOnly Departure.lateStores }, { on := 4, ground := Ground.textOnly Departure.lateStores }, { on := 5, ground := Ground.textOnly Departure.lateStores }], guard := none } : Oper)) (v := ?_) rfl (by kernel_rfl) (by kernel_rfl) (by kernel_rfl) (fun _ _ _ h => h) (Or.inl ⟨by rfl, ?_⟩) hS ?_
    rotate_left
    · (intro w hSw; (try dsimp only at hSw); go_simp; try with_reducible rfl)
    (try simp only [Act.put, List.setIfInBounds_toArray, List.set_cons_zero, List.set_cons_succ])
    refine wpAnyH_take (i := 7) (oi := ({ dst := some 8, op := Op.assign (Operand.tmp 16), type := 43, pos := "join.go:24", after := #[{ on := 5, ground := Ground.data }, { on := 6, ground := Ground.chain }, { on := 0, ground := Ground.phase }, { on := 1, ground := Ground.phase }, { on := 2, ground := Ground.phase }, { on := 3, ground := Ground.phase }, { on := 4, ground := Ground.phase }, { on := 5, ground := Ground.phase }, { on := 6, ground := Ground.phase }], guard := none } : Oper)) (v := ?_) rfl (by kernel_rfl) (by kernel_rfl) (by kernel_rfl) (fun _ _ _ h => h) (Or.inl ⟨by rfl, ?_⟩) hS ?_
    rotate_left
    · (intro w hSw; (try dsimp only at hSw); go_simp; try with_reducible rfl)
    (try simp only [Act.put, List.setIfInBounds_toArray, List.set_cons_zero, List.set_cons_succ])
    refine wpAnyH_done (by kernel_rfl) ?_ _
    obtain ⟨w2, hw2⟩ : ∃ q, World.drew w1 = q := ⟨_, rfl⟩
    rw [hw2] at hS
    simp only [hw2]
    have HB2 := Lib.hid (bch HB1.out hS)
    have HF2 := Lib.hid (HF1.out.keep hS)
    have HJ2 := Lib.hid (HJ1.out.keep hS)
    clear hS hw2
    go_wp2_with (first
      | (refine wpList_store_row rfl 130 _ _ rfl jb (jA false (.slice none 0 0)) rfl rfl _ _ HJ2.out.blk (jo_info _ _) rfl (jo_one _ _ _ _) ?_))
    obtain ⟨w3, hw3⟩ : ∃ q, w2.setRow jb (jA false (.slice none 0 0)) = q := ⟨_, rfl⟩
    rw [hw3]
    have HO3 : Hid (Oth w w3 jb (.slice va hn vc)) := Lib.hid (hw3 ▸ (Oth.of_below HB2.out).trans (Oth.row w2 jb _ _))
    have HF3 : Hid (FO w3 fb 3 ep (.slice da n dc)) := Lib.hid (hw3 ▸ HF2.out.apart (HJ2.out.blk.ne HF2.out (by decide)) _)
    have HR3 : Hid (w3.ownsRow W.heap.size 5 1 (.slice va hn vc) hn (il .u8 h)) := Lib.hid (by rw [← hw3]; have z := HJ2.out.blk.row_own (jA false (.slice none 0 0)) HJ2.out.row (by decide); rw [HN.out] at z; exact z)
    have HJ3 : Hid (JO w3 jb false (.slice none 0 0)) := Lib.hid (hw3 ▸ HJ2.out.blk.row _ _)
    obtain ⟨f30, f31, f32⟩ := HF3.out.cells
    have hlow := HJ.out.low
    clear hw3
    go_step3
    go_wp2
    try rw [Exit.noGoto_ret]
    go_ret3
    exact ⟨rfl, ⟨HJ3.out, World.ownsRow_nil _ _ _ _, fun _ => ⟨rfl, rfl⟩, by simp, hlow⟩, HO3.out⟩
  · go_enter Tryd.func50, Tryd.ntmps50
    go_wp2
    go_step3
    go_wp2_with fail
    obtain ⟨w1, hw1⟩ : ∃ q, w.alloc (.cells (fA 4 ep (.slice da n dc)) 70) = q := ⟨_, rfl⟩
    rw [hw1]
    obtain ⟨fb, hfb⟩ : ∃ q, w.heap.size = q := ⟨_, rfl⟩
    have hb1 : Below w.heap.size w w1 := hw1 ▸ balloc w _
    have HF1 : Hid (FO w1 fb 4 ep (.slice da n dc)) := Lib.hid (by rw [← hw1, ← hfb]; exact FO.alloc w)
    have HB1 := Lib.hid hb1
    have HJ1 := Lib.hid (HJ.out.keep hb1)
    rw [hfb]
    clear hb1 hw1 hfb
    refine wp_region_held_drew (S := (fun w' => Below w1.heap.size w1 w')) (by kernel_rfl) ((Below.refl w1.heap.size w1).drew) (fun hS => ?_)
    refine wpAnyH_take (i := 0) (oi := ({ dst := some 11, op := Op.move (Operand.tmp 0), type := 78, pos := "join.go:24", after := #[], guard := none } : Oper)) (v := ?_) rfl (by kernel_rfl) (by kernel_rfl) (by kernel_rfl) (fun _ _ _ h => h) (Or.inl ⟨by rfl, ?_⟩) hS ?_
    rotate_left
    · (intro w hSw; (try dsimp only at hSw); go_simp; try with_reducible rfl)
    (try simp only [Act.put, List.setIfInBounds_toArray, List.set_cons_zero, List.set_cons_succ])
    refine wpAnyH_take (i := 2) (oi := ({ dst := some 13, op := Op.move (Operand.tmp 0), type := 78, pos := "join.go:24", after := #[{ on := 6, ground := Ground.gcOnly Departure.lateStores }], guard := none } : Oper)) (v := ?_) rfl (by kernel_rfl) (by kernel_rfl) (by kernel_rfl) (fun _ _ _ h => h) (Or.inl ⟨by rfl, ?_⟩) hS ?_
    rotate_left
    · (intro w hSw; (try dsimp only at hSw); go_simp; try with_reducible rfl)
    (try simp only [Act.put, List.setIfInBounds_toArray, List.set_cons_zero, List.set_cons_succ])
    refine wpAnyH_take (i := 3) (oi := ({ dst := some 14, op := Op.nilCheck (Operand.tmp 13), type := 0, pos := "join.go:24", after := #[{ on := 2, ground := Ground.data }, { on := 6, ground := Ground.gcOnly Departure.lateStores }], guard := none } : Oper)) (v := ?_) rfl (by kernel_rfl) (by kernel_rfl) (by kernel_rfl) (fun _ _ _ h => h) (Or.inl ⟨by rfl, ?_⟩) hS ?_
    rotate_left
    · (intro w hSw; (try dsimp only at hSw); go_simp; try with_reducible rfl)
    (try simp only [Act.put, List.setIfInBounds_toArray, List.set_cons_zero, List.set_cons_succ])
    refine wpAnyH_take (i := 4) (oi := ({ dst := some 15, op := Op.fieldAddr 130 (Operand.tmp 14) 1, type := 0, pos := "join.go:24", after := #[{ on := 3, ground := Ground.data }, { on := 6, ground := Ground.gcOnly Departure.lateStores }], guard := none } : Oper)) (v := ?_) rfl (by kernel_rfl) (by kernel_rfl) (by kernel_rfl) (fun _ _ _ h => h) (Or.inl ⟨by rfl, ?_⟩) hS ?_
    rotate_left
    · (intro w hSw; (try dsimp only at hSw); go_simp; try with_reducible rfl)
    (try simp only [Act.put, List.setIfInBounds_toArray, List.set_cons_zero, List.set_cons_succ])
    refine wpAnyH_take (i := 5) (oi := ({ dst := some 16, op := Op.load 43 (Operand.tmp 15), type := 43, pos := "join.go:24", after := #[{ on := 4, ground := Ground.data }, { on := 6, ground := Ground.gcOnly Departure.lateStores }], guard := none } : Oper)) (v := .slice va hn vc) rfl (by kernel_rfl) (by kernel_rfl) (by kernel_rfl) (fun _ _ _ h => h) (Or.inl ⟨by rfl, ?_⟩) hS ?_
    · (intro w hSw; (try dsimp only at hSw); have z := (HJ1.out.blk.keep hSw).cells.2; go_simp)
    (try simp only [Act.put, List.setIfInBounds_toArray, List.set_cons_zero, List.set_cons_succ])
    refine rg_one 1 ({ dst := some 12, op := Op.call { callee := Callee.value (Operand.func 49), args := #[Operand.tmp 11], argTypes := #[78] }, type := 4, pos := "join.go:24", after := #[{ on := 0, ground := Ground.data }], guard := none } : Oper) (by kernel_rfl) rfl (fun K hK => ?_)
    go_simp
    (go_at_call 49; (with_reducible refine (idle_any true (.slice va hn vc) jb _ (HJ1.out.blk.keep hS)).mono ?_); rintro e w6 ⟨rfl, rfl⟩)
    refine hK.out _ _ ?_ (fun hS1 => ?_)
    · (exact hS)
    clear hK K hS; have hS := hS1; clear hS1
    (try simp only [Act.put, List.setIfInBounds_toArray, List.set_cons_zero, List.set_cons_succ])
    refine wpAnyH_take (i := 6) (oi := ({ dst := some 7, op := Op.assign (Operand.tmp 12), type := 4, pos := "join.go:24", after := #[{ on := 1, ground := Ground.data }, { on := 1, ground := Ground.chain }, { on := 0, ground := Ground.phase }, { on := 1, ground := Ground.phase }, { on := 2, ground := Ground.textOnly Departure.lateStores }, { on := 3, ground := Ground.textOnly Departure.lateStores }, { on := 4, ground := Ground.textOnly Departure.lateStores }, { on := 5, ground := Ground.textOnly Departure.lateStores }], guard := none } : Oper)) (v := ?_) rfl (by kernel_rfl) (by kernel_rfl) (by kernel_rfl) (fun _ _ _ h => h) (Or.inl ⟨by rfl, ?_⟩) hS ?_
    rotate_left
    · (intro w hSw; (try dsimp only at hSw); go_simp; try with_reducible rfl)
    (try simp only [Act.put, List.setIfInBounds_toArray, List.set_cons_zero, List.set_cons_succ])
    refine wpAnyH_take (i := 7) (oi := ({ dst := some 8, op := Op.assign (Operand.tmp 16), type := 43, pos := "join.go:24", after := #[{ on := 5, ground := Ground.data }, { on := 6, ground := Ground.chain }, { on := 0, ground := Ground.phase }, { on := 1, ground := Ground.phase }, { on := 2, ground := Ground.phase }, { on := 3, ground := Ground.phase }, { on := 4, ground := Ground.phase }, { on := 5, ground := Ground.phase }, { on := 6, ground := Ground.phase }], guard := none } : Oper)) (v := ?_) rfl (by kernel_rfl) (by kernel_rfl) (by kernel_rfl) (fun _ _ _ h => h) (Or.inl ⟨by rfl, ?_⟩) hS ?_
    rotate_left
    · (intro w hSw; (try dsimp only at hSw); go_simp; try with_reducible rfl)
    (try simp only [Act.put, List.setIfInBounds_toArray, List.set_cons_zero, List.set_cons_succ])
    refine wpAnyH_done (by kernel_rfl) ?_ _
    obtain ⟨w2, hw2⟩ : ∃ q, World.drew w1 = q := ⟨_, rfl⟩
    rw [hw2] at hS
    simp only [hw2]
    have HB2 := Lib.hid (bch HB1.out hS)
    have HF2 := Lib.hid (HF1.out.keep hS)
    have HJ2 := Lib.hid (HJ1.out.keep hS)
    clear hS hw2
    go_wp2_with (first
      | (refine wpList_store_row rfl 130 _ _ rfl jb (jA false (.slice none 0 0)) rfl rfl _ _ HJ2.out.blk (jo_info _ _) rfl (jo_one _ _ _ _) ?_))
    obtain ⟨w3, hw3⟩ : ∃ q, w2.setRow jb (jA false (.slice none 0 0)) = q := ⟨_, rfl⟩
    rw [hw3]
    have HO3 : Hid (Oth w w3 jb (.slice va hn vc)) := Lib.hid (hw3 ▸ (Oth.of_below HB2.out).trans (Oth.row w2 jb _ _))
    have HF3 : Hid (FO w3 fb 4 ep (.slice da n dc)) := Lib.hid (hw3 ▸ HF2.out.apart (HJ2.out.blk.ne HF2.out (by decide)) _)
    have HR3 : Hid (w3.ownsRow W.heap.size 5 1 (.slice va hn vc) hn (il .u8 h)) := Lib.hid (by rw [← hw3]; have z := HJ2.out.blk.row_own (jA false (.slice none 0 0)) HJ2.out.row (by decide); rw [HN.out] at z; exact z)
    have HJ3 : Hid (JO w3 jb false (.slice none 0 0)) := Lib.hid (hw3 ▸ HJ2.out.blk.row _ _)
    obtain ⟨f30, f31, f32⟩ := HF3.out.cells
    have hlow := HJ.out.low
    clear hw3
    go_step3
    go_wp2
    try rw [Exit.noGoto_ret]
    go_ret3
    exact ⟨rfl, ⟨HJ3.out, World.ownsRow_nil _ _ _ _, fun _ => ⟨rfl, rfl⟩, by simp, hlow⟩, HO3.out⟩
set_option maxRecDepth 8000 in
set_option maxHeartbeats 2000000 in
/-- a kind that may not come -/
theorem feed_wrong (W : World) (o : Bool) (jb : Nat) (v : Value) (h : List Int) (k ep : Int) (dv : Value) (n : Nat) (d : List Int) (w : World) (hW : Below W.heap.size W w) (hj : JB w W.heap.size jb o v h) (hri : ∀ w', Oth w w' jb v → RI .u8 w' dv n d)
    (hk : jFit o k = false) :
    Calls Tryd.prog 50 #[.pointer (some ⟨jb, 0, none⟩), .agg (fA k ep dv)] w fun e w' =>
      e = .returned (.tuple #[.slice none 0 0, .bool false, .int .i64 2]) ∧ JB w' W.heap.size jb false (.slice none 0 0) [] ∧ Oth w w' jb v := by
  have hzl := (hri w (Oth.refl _ _ _)).length
  have HR := Lib.hid hri
  have HW := Lib.hid hW
  obtain ⟨hn, hhn⟩ : ∃ m, h.length = m := ⟨_, rfl⟩
  have hr := hj.row
  rw [hhn] at hr
  have hfew := hj.few
  rw [hhn] at hfew
  obtain ⟨va, vc, rfl⟩ := own_form hr
  have HJ := Lib.hid hj
  obtain ⟨da, dc, rfl, _, hdc, hdm, _⟩ := hri w (Oth.refl _ _ _)
  have HN := Lib.hid hhn
  have HZ := Lib.hid hzl
  clear hj hW hzl hhn hr
  cases o
  all_goals (unfold jFit at hk; simp only [Bool.false_eq_true, if_false, if_true, decide_eq_false_iff_not, not_or] at hk; obtain ⟨k1, k2⟩ := hk)
  · have e1 : (k == 1) = false := by simpa using k1
    have e2 : (k == 2) = false := by simpa using k2
    go_enter Tryd.func50, Tryd.ntmps50
    go_wp2
    go_step3
    go_wp2_with fail
    obtain ⟨w1, hw1⟩ : ∃ q, w.alloc (.cells (fA k ep (.slice da n dc)) 70) = q := ⟨_, rfl⟩
    rw [hw1]
    obtain ⟨fb, hfb⟩ : ∃ q, w.heap.size = q := ⟨_, rfl⟩
    have hb1 : Below w.heap.size w w1 := hw1 ▸ balloc w _
    have HF1 : Hid (FO w1 fb k ep (.slice da n dc)) := Lib.hid (by rw [← hw1, ← hfb]; exact FO.alloc w)
    have HB1 := Lib.hid hb1
    have HJ1 := Lib.hid (HJ.out.keep hb1)
    rw [hfb]
    clear hb1 hw1 hfb
    refine wp_region_held_drew (S := (fun w' => Below w1.heap.size w1 w')) (by kernel_rfl) ((Below.refl w1.heap.size w1).drew) (fun hS => ?_)
    refine wpAnyH_take (i := 0) (oi := ({ dst := some 11, op := Op.move (Operand.tmp 0), type := 78, pos := "join.go:24", after := #[], guard := none } : Oper)) (v := ?_) rfl (by kernel_rfl) (by kernel_rfl) (by kernel_rfl) (fun _ _ _ h => h) (Or.inl ⟨by rfl, ?_⟩) hS ?_
    rotate_left
    · (intro w hSw; (try dsimp only at hSw); go_simp; try with_reducible rfl)
    (try simp only [Act.put, List.setIfInBounds_toArray, List.set_cons_zero, List.set_cons_succ])
    refine wpAnyH_take (i := 2) (oi := ({ dst := some 13, op := Op.move (Operand.tmp 0), type := 78, pos := "join.go:24", after := #[{ on := 6, ground := Ground.gcOnly Departure.lateStores }], guard := none } : Oper)) (v := ?_) rfl (by kernel_rfl) (by kernel_rfl) (by kernel_rfl) (fun _ _ _ h => h) (Or.inl ⟨by rfl, ?_⟩) hS ?_
    rotate_left
    · (intro w hSw; (try dsimp only at hSw); go_simp; try with_reducible rfl)
    (try simp only [Act.put, List.setIfInBounds_toArray, List.set_cons_zero, List.set_cons_succ])
    refine wpAnyH_take (i := 3) (oi := ({ dst := some 14, op := Op.nilCheck (Operand.tmp 13), type := 0, pos := "join.go:24", after := #[{ on := 2, ground := Ground.data }, { on := 6, ground := Ground.gcOnly Departure.lateStores }], guard := none } : Oper)) (v := ?_) rfl (by kernel_rfl) (by kernel_rfl) (by kernel_rfl) (fun _ _ _ h => h) (Or.inl ⟨by rfl, ?_⟩) hS ?_
    rotate_left
    · (intro w hSw; (try dsimp only at hSw); go_simp; try with_reducible rfl)
    (try simp only [Act.put, List.setIfInBounds_toArray, List.set_cons_zero, List.set_cons_succ])
    refine wpAnyH_take (i := 4) (oi := ({ dst := some 15, op := Op.fieldAddr 130 (Operand.tmp 14) 1, type := 0, pos := "join.go:24", after := #[{ on := 3, ground := Ground.data }, { on := 6, ground := Ground.gcOnly Departure.lateStores }], guard := none } : Oper)) (v := ?_) rfl (by kernel_rfl) (by kernel_rfl) (by kernel_rfl) (fun _ _ _ h => h) (Or.inl ⟨by rfl, ?_⟩) hS ?_
    rotate_left
    · (intro w hSw; (try dsimp only at hSw); go_simp; try with_reducible rfl)
    (try simp only [Act.put, List.setIfInBounds_toArray, List.set_cons_zero, List.set_cons_succ])
    refine wpAnyH_take (i := 5) (oi := ({ dst := some 16, op := Op.load 43 (Operand.tmp 15), type := 43, pos := "join.go:24", after := #[{ on := 4, ground := Ground.data }, { on := 6, ground := Ground.gcOnly Departure.lateStores }], guard := none } : Oper)) (v := .slice va hn vc) rfl (by kernel_rfl) (by kernel_rfl) (by kernel_rfl) (fun _ _ _ h => h) (Or.inl ⟨by rfl, ?_⟩) hS ?_
    · (intro w hSw; (try dsimp only at hSw); have z := (HJ1.out.blk.keep hSw).cells.2; go_simp)
    (try simp only [Act.put, List.setIfInBounds_toArray, List.set_cons_zero, List.set_cons_succ])
    refine rg_one 1 ({ dst := some 12, op := Op.call { callee := Callee.value (Operand.func 49), args := #[Operand.tmp 11], argTypes := #[78] }, type := 4, pos := "join.go:24", after := #[{ on := 0, ground := Ground.data }], guard := none } : Oper) (by kernel_rfl) rfl (fun K hK => ?_)
    go_simp
    (go_at_call 49; (with_reducible refine (idle_any false (.slice va hn vc) jb _ (HJ1.out.blk.keep hS)).mono ?_); rintro e w6 ⟨rfl, rfl⟩)
    refine hK.out _ _ ?_ (fun hS1 => ?_)
    · (exact hS)
    clear hK K hS; have hS := hS1; clear hS1
    (try simp only [Act.put, List.setIfInBounds_toArray, List.set_cons_zero, List.set_cons_succ])
    refine wpAnyH_take (i := 6) (oi := ({ dst := some 7, op := Op.assign (Operand.tmp 12), type := 4, pos := "join.go:24", after := #[{ on := 1, ground := Ground.data }, { on := 1, ground := Ground.chain }, { on := 0, ground := Ground.phase }, { on := 1, ground := Ground.phase }, { on := 2, ground := Ground.textOnly Departure.lateStores }, { on := 3, ground := Ground.textOnly Departure.lateStores }, { on := 4, ground := Ground.textOnly Departure.lateStores }, { on := 5, ground := Ground.textOnly Departure.lateStores }], guard := none } : Oper)) (v := ?_) rfl (by kernel_rfl) (by kernel_rfl) (by kernel_rfl) (fun _ _ _ h => h) (Or.inl ⟨by rfl, ?_⟩) hS ?_
    rotate_left
    · (intro w hSw; (try dsimp only at hSw); go_simp; try with_reducible rfl)
    (try simp only [Act.put, List.setIfInBounds_toArray, List.set_cons_zero, List.set_cons_succ])
    refine wpAnyH_take (i := 7) (oi := ({ dst := some 8, op := Op.assign (Operand.tmp 16), type := 43, pos := "join.go:24", after := #[{ on := 5, ground := Ground.data }, { on := 6, ground := Ground.chain }, { on := 0, ground := Ground.phase }, { on := 1, ground := Ground.phase }, { on := 2, ground := Ground.phase }, { on := 3, ground := Ground.phase }, { on := 4, ground := Ground.phase }, { on := 5, ground := Ground.phase }, { on := 6, ground := Ground.phase }], guard := none } : Oper)) (v := ?_) rfl (by kernel_rfl) (by kernel_rfl) (by kernel_rfl) (fun _ _ _ h => h) (Or.inl ⟨by rfl, ?_⟩) hS ?_
    rotate_left
    · (intro w hSw; (try dsimp only at hSw); go_simp; try with_reducible rfl)
    (try simp only [Act.put, List.setIfInBounds_toArray, List.set_cons_zero, List.set_cons_succ])
    refine wpAnyH_done (by kernel_rfl) ?_ _
    obtain ⟨w2, hw2⟩ : ∃ q, World.drew w1 = q := ⟨_, rfl⟩
    rw [hw2] at hS
    simp only [hw2]
    have HB2 := Lib.hid (bch HB1.out hS)
    have HF2 := Lib.hid (HF1.out.keep hS)
    have HJ2 := Lib.hid (HJ1.out.keep hS)
    clear hS hw2
    go_wp2_with (first
      | (refine wpList_store_row rfl 130 _ _ rfl jb (jA false (.slice none 0 0)) rfl rfl _ _ HJ2.out.blk (jo_info _ _) rfl (jo_one _ _ _ _) ?_))
    obtain ⟨w3, hw3⟩ : ∃ q, w2.setRow jb (jA false (.slice none 0 0)) = q := ⟨_, rfl⟩
    rw [hw3]
    have HO3 : Hid (Oth w w3 jb (.slice va hn vc)) := Lib.hid (hw3 ▸ (Oth.of_below HB2.out).trans (Oth.row w2 jb _ _))
    have HF3 : Hid (FO w3 fb k ep (.slice da n dc)) := Lib.hid (hw3 ▸ HF2.out.apart (HJ2.out.blk.ne HF2.out (by decide)) _)
    have HR3 : Hid (w3.ownsRow W.heap.size 5 1 (.slice va hn vc) hn (il .u8 h)) := Lib.hid (by rw [← hw3]; have z := HJ2.out.blk.row_own (jA false (.slice none 0 0)) HJ2.out.row (by decide); rw [HN.out] at z; exact z)
    have HJ3 : Hid (JO w3 jb false (.slice none 0 0)) := Lib.hid (hw3 ▸ HJ2.out.blk.row _ _)
    obtain ⟨f30, f31, f32⟩ := HF3.out.cells
    have hlow := HJ.out.low
    clear hw3
    go_step3
    go_wp2
    try rw [Exit.noGoto_ret]
    go_ret3
    exact ⟨rfl, ⟨HJ3.out, World.ownsRow_nil _ _ _ _, fun _ => ⟨rfl, rfl⟩, by simp, hlow⟩, HO3.out⟩
  · have e1 : (k == 3) = false := by simpa using k1
    have e2 : (k == 4) = false := by simpa using k2
    go_enter Tryd.func50, Tryd.ntmps50
    go_wp2
    go_step3
    go_wp2_with fail
    obtain ⟨w1, hw1⟩ : ∃ q, w.alloc (.cells (fA k ep (.slice da n dc)) 70) = q := ⟨_, rfl⟩
    rw [hw1]
    obtain ⟨fb, hfb⟩ : ∃ q, w.heap.size = q := ⟨_, rfl⟩
    have hb1 : Below w.heap.size w w1 := hw1 ▸ balloc w _
    have HF1 : Hid (FO w1 fb k ep (.slice da n dc)) := Lib.hid (by rw [← hw1, ← hfb]; exact FO.alloc w)
    have HB1 := Lib.hid hb1
    have HJ1 := Lib.hid (HJ.out.keep hb1)
    rw [hfb]
    clear hb1 hw1 hfb
    refine wp_region_held_drew (S := (fun w' => Below w1.heap.size w1 w')) (by kernel_rfl) ((Below.refl w1.heap.size w1).drew) (fun hS => ?_)
    refine wpAnyH_take (i := 0) (oi := ({ dst := some 11, op := Op.move (Operand.tmp 0), type := 78, pos := "join.go:24", after := #[], guard := none } : Oper)) (v := ?_) rfl (by kernel_rfl) (by kernel_rfl) (by kernel_rfl) (fun _ _ _ h => h) (Or.inl ⟨by rfl, ?_⟩) hS ?_
    rotate_left
    · (intro w hSw; (try dsimp only at hSw); go_simp; try with_reducible rfl)
    (try simp only [Act.put, List.setIfInBounds_toArray, List.set_cons_zero, List.set_cons_succ])
    refine wpAnyH_take (i := 2) (oi := ({ dst := some 13, op := Op.move (Operand.tmp 0), type := 78, pos := "join.go:24", after := #[{ on := 6, ground := Ground.gcOnly Departure.lateStores }], guard := none } : Oper)) (v := ?_) rfl (by kernel_rfl) (by kernel_rfl) (by kernel_rfl) (fun _ _ _ h => h) (Or.inl ⟨by rfl, ?_⟩) hS ?_
    rotate_left
    · (intro w hSw; (try dsimp only at hSw); go_simp; try with_reducible rfl)
    (try simp only [Act.put, List.setIfInBounds_toArray, List.set_cons_zero, List.set_cons_succ])
    refine wpAnyH_take (i := 3) (oi := ({ dst := some 14, op := Op.nilCheck (Operand.tmp 13), type := 0, pos := "join.go:24", after := #[{ on := 2, ground := Ground.data }, { on := 6, ground := Ground.gcOnly Departure.lateStores }], guard := none } : Oper)) (v := ?_) rfl (by kernel_rfl) (by kernel_rfl) (by kernel_rfl) (fun _ _ _ h => h) (Or.inl ⟨by rfl, ?_⟩) hS ?_
    rotate_left
    · (intro w hSw; (try dsimp only at hSw); go_simp; try with_reducible rfl)
    (try simp only [Act.put, List.setIfInBounds_toArray, List.set_cons_zero, List.set_cons_succ])
    refine wpAnyH_take (i := 4) (oi := ({ dst := some 15, op := Op.fieldAddr 130 (Operand.tmp 14) 1, type := 0, pos := "join.go:24", after := #[{ on := 3, ground := Ground.data }, { on := 6, ground := Ground.gcOnly Departure.lateStores }], guard := none } : Oper)) (v := ?_) rfl (by kernel_rfl) (by kernel_rfl) (by kernel_rfl) (fun _ _ _ h => h) (Or.inl ⟨by rfl, ?_⟩) hS ?_
    rotate_left
    · (intro w hSw; (try dsimp only at hSw); go_simp; try with_reducible rfl)
    (try simp only [Act.put, List.setIfInBounds_toArray, List.set_cons_zero, List.set_cons_succ])
    refine wpAnyH_take (i := 5) (oi := ({ dst := some 16, op := Op.load 43 (Operand.tmp 15), type := 43, pos := "join.go:24", after := #[{ on := 4, ground := Ground.data }, { on := 6, ground := Ground.gcOnly Departure.lateStores }], guard := none } : Oper)) (v := .slice va hn vc) rfl (by kernel_rfl) (by kernel_rfl) (by kernel_rfl) (fun _ _ _ h => h) (Or.inl ⟨by rfl, ?_⟩) hS ?_
    · (intro w hSw; (try dsimp only at hSw); have z := (HJ1.out.blk.keep hSw).cells.2; go_simp)
    (try simp only [Act.put, List.setIfInBounds_toArray, List.set_cons_zero, List.set_cons_succ])
    refine rg_one 1 ({ dst := some 12, op := Op.call { callee := Callee.value (Operand.func 49), args := #[Operand.tmp 11], argTypes := #[78] }, type := 4, pos := "join.go:24", after := #[{ on := 0, ground := Ground.data }], guard := none } : Oper) (by kernel_rfl) rfl (fun K hK => ?_)
    go_simp
    (go_at_call 49; (with_reducible refine (idle_any true (.slice va hn vc) jb _ (HJ1.out.blk.keep hS)).mono ?_); rintro e w6 ⟨rfl, rfl⟩)
    refine hK.out _ _ ?_ (fun hS1 => ?_)
    · (exact hS)
    clear hK K hS; have hS := hS1; clear hS1
    (try simp only [Act.put, List.setIfInBounds_toArray, List.set_cons_zero, List.set_cons_succ])
    refine wpAnyH_take (i := 6) (oi := ({ dst := some 7, op := Op.assign (Operand.tmp 12), type := 4, pos := "join.go:24", after := #[{ on := 1, ground := Ground.data }, { on := 1, ground := Ground.chain }, { on := 0, ground := Ground.phase }, { on := 1, ground := Ground.phase }, { on := 2, ground := Ground.textOnly Departure.lateStores }, { on := 3, ground := Ground.textOnly Departure.lateStores }, { on := 4, ground := Ground.textOnly Departure.lateStores }, { on := 5, ground := Ground.textOnly Departure.lateStores }], guard := none } : Oper)) (v := ?_) rfl (by kernel_rfl) (by kernel_rfl) (by kernel_rfl) (fun _ _ _ h => h) (Or.inl ⟨by rfl, ?_⟩) hS ?_
    rotate_left
    · (intro w hSw; (try dsimp only at hSw); go_simp; try with_reducible rfl)
    (try simp only [Act.put, List.setIfInBounds_toArray, List.set_cons_zero, List.set_cons_succ])
    refine wpAnyH_take (i := 7) (oi := ({ dst := some 8, op := Op.assign (Operand.tmp 16), type := 43, pos := "join.go:24", after := #[{ on := 5, ground := Ground.data }, { on := 6, ground := Ground.chain }, { on := 0, ground := Ground.phase }, { on := 1, ground := Ground.phase }, { on := 2, ground := Ground.phase }, { on := 3, ground := Ground.phase }, { on := 4, ground := Ground.phase }, { on := 5, ground := Ground.phase }, { on := 6, ground := Ground.phase }], guard := none } : Oper)) (v := ?_) rfl (by kernel_rfl) (by kernel_rfl) (by kernel_rfl) (fun _ _ _ h => h) (Or.inl ⟨by rfl, ?_⟩) hS ?_
    rotate_left
    · (intro w hSw; (try dsimp only at hSw); go_simp; try with_reducible rfl)
    (try simp only [Act.put, List.setIfInBounds_toArray, List.set_cons_zero, List.set_cons_succ])
    refine wpAnyH_done (by kernel_rfl) ?_ _
    obtain ⟨w2, hw2⟩ : ∃ q, World.drew w1 = q := ⟨_, rfl⟩
    rw [hw2] at hS
    simp only [hw2]
    have HB2 := Lib.hid (bch HB1.out hS)
    have HF2 := Lib.hid (HF1.out.keep hS)
    have HJ2 := Lib.hid (HJ1.out.keep hS)
    clear hS hw2
    go_wp2_with (first
      | (refine wpList_store_row rfl 130 _ _ rfl jb (jA false (.slice none 0 0)) rfl rfl _ _ HJ2.out.blk (jo_info _ _) rfl (jo_one _ _ _ _) ?_))
    obtain ⟨w3, hw3⟩ : ∃ q, w2.setRow jb (jA false (.slice none 0 0)) = q := ⟨_, rfl⟩
    rw [hw3]
    have HO3 : Hid (Oth w w3 jb (.slice va hn vc)) := Lib.hid (hw3 ▸ (Oth.of_below HB2.out).trans (Oth.row w2 jb _ _))
    have HF3 : Hid (FO w3 fb k ep (.slice da n dc)) := Lib.hid (hw3 ▸ HF2.out.apart (HJ2.out.blk.ne HF2.out (by decide)) _)
    have HR3 : Hid (w3.ownsRow W.heap.size 5 1 (.slice va hn vc) hn (il .u8 h)) := Lib.hid (by rw [← hw3]; have z := HJ2.out.blk.row_own (jA false (.slice none 0 0)) HJ2.out.row (by decide); rw [HN.out] at z; exact z)
    have HJ3 : Hid (JO w3 jb false (.slice none 0 0)) := Lib.hid (hw3 ▸ HJ2.out.blk.row _ _)
    obtain ⟨f30, f31, f32⟩ := HF3.out.cells
    have hlow := HJ.out.low
    clear hw3
    go_step3
    go_wp2
    try rw [Exit.noGoto_ret]
    go_ret3
    exact ⟨rfl, ⟨HJ3.out, World.ownsRow_nil _ _ _ _, fun _ => ⟨rfl, rfl⟩, by simp, hlow⟩, HO3.out⟩
/-- all of it, where the data stay whatever the joiner does -/
theorem feed_own (W : World) (o : Bool) (jb : Nat) (v : Value) (h : List Int) (k ep : Int) (dv : Value) (n : Nat) (d : List Int) (w : World) (hW : Below W.heap.size W w) (hj : JB w W.heap.size jb o v h) (hri : ∀ w', Oth w w' jb v → RI .u8 w' dv n d) :
    Calls Tryd.prog 50 #[.pointer (some ⟨jb, 0, none⟩), .agg (fA k ep dv)] w fun e w' =>
      ∃ u v', e = .returned (.tuple #[u, .bool (jEnds o h k d), .int .i64 (jErr o h k d)]) ∧ JB w' W.heap.size jb (jGoes o h k d) v' (jHad o h k d) ∧ w'.ownsRow W.heap.size 5 1 u (jTell o h k d).length (il .u8 (jTell o h k d)) ∧ Lies w v u ∧ Lies w v v' ∧ Oth w w' jb v := by
  have hz := (hri w (Oth.refl _ _ _)).length
  cases hf : jFit o k with
  | false =>
    obtain ⟨e1, e2, e3, e4, e5⟩ := j_wrong (h := h) (d := d) hf
    rw [e1, e2, e3, e4, e5]
    exact (feed_wrong W o jb v h k ep dv n d w hW hj hri hf).mono fun e w' ⟨h1, h2, h3⟩ => ⟨_, _, h1, h2, World.ownsRow_nil _ _ _ _, Lies.nil _ _ _ _, Lies.nil _ _ _ _, h3⟩
  | true =>
    by_cases hl : h.length + n > 512
    · obtain ⟨e1, e2, e3, e4, e5⟩ := j_long (h := h) (d := d) hf (by rw [hz]; exact hl)
      rw [e1, e2, e3, e4, e5]
      exact (feed_long W o jb v h k ep dv n d w hW hj hri hf hl).mono fun e w' ⟨h1, h2, h3⟩ => ⟨_, _, h1, h2, World.ownsRow_nil _ _ _ _, Lies.nil _ _ _ _, Lies.nil _ _ _ _, h3⟩
    · cases hk : jLast k with
      | true =>
        obtain ⟨e1, e2, e3, e4, e5⟩ := j_ends (h := h) (d := d) hf (by rw [hz]; exact hl) hk
        rw [e1, e2, e3, e4, e5]
        exact (feed_ends W o jb v h k ep dv n d w hW hj hri (by unfold jFit at hf; unfold jLast at hk; cases o <;> simp at hf hk ⊢ <;> omega) hl).mono fun e w' ⟨u, h1, h2, h3, h4, h5⟩ => ⟨u, _, h1, h2, h3, h4, Lies.nil _ _ _ _, h5⟩
      | false =>
        obtain ⟨e1, e2, e3, e4, e5⟩ := j_goes (h := h) (d := d) hf (by rw [hz]; exact hl) hk
        rw [e1, e2, e3, e4, e5]
        exact (feed_goes W o jb v h k ep dv n d w hW hj hri (by unfold jFit at hf; unfold jLast at hk; cases o <;> simp at hf hk ⊢ <;> omega) hl).mono fun e w' ⟨u, h1, h2, h4, h5⟩ => ⟨_, u, h1, h2, World.ownsRow_nil _ _ _ _, Lies.nil _ _ _ _, h4, h5⟩
/-- all of it, where the data lay ahead of the joiner -/
theorem feed_any (W : World) (o : Bool) (jb : Nat) (v : Value) (h : List Int) (k ep : Int) (dv : Value) (n : Nat) (d : List Int) (w : World) (hW : Below W.heap.size W w) (hj : JB w W.heap.size jb o v h) (hri : RI .u8 W dv n d) :
    Calls Tryd.prog 50 #[.pointer (some ⟨jb, 0, none⟩), .agg (fA k ep dv)] w fun e w' =>
      ∃ u v', e = .returned (.tuple #[u, .bool (jEnds o h k d), .int .i64 (jErr o h k d)]) ∧ JB w' W.heap.size jb (jGoes o h k d) v' (jHad o h k d) ∧ w'.ownsRow W.heap.size 5 1 u (jTell o h k d).length (il .u8 (jTell o h k d)) ∧ Lies w v u ∧ Lies w v v' ∧ Oth w w' jb v :=
  feed_own W o jb v h k ep dv n d w hW hj fun _ q => hri.keep (hW.trans (hj.below q))
end Go.Proofs.YtepaghohojomeaaDoor
/-
  A STEP OF THE SCANNER (layer 19): what its method step does. The table of half a byte's steps must lie in its block as start-up lays it; the body and the stamps must lie in a world that was ahead. (Written by wip/gen/g31.py.)
-/
namespace Go.Proofs.YtepaghohojomeaaDoor
open Go.RowKit
/-- a scanner that is so far -/
def SX (W w : World) (sb jb : Nat) (ep : Int) (bv kv : Value) (s : SS) : Prop :=
  ∃ hv rv es pv, SC W w sb jb ep bv kv s.at_ s.first s.fin s.o s.h hv rv es pv s.places ∧ es.map Prod.fst = s.recs
theorem scStep_ends (s : SS) (f : FR) (n : Nat) (he : jEnds s.o s.h f.kind f.data = true) :
    scStep s f n = ⟨beginN s.at_ + n, scFirst s, jGoes s.o s.h f.kind f.data, jHad s.o s.h f.kind f.data, s.recs ++ [jTell s.o s.h f.kind f.data], s.places ++ [((scFirst s : Nat) : Int)], beginN s.at_ + n⟩ := by unfold scStep; rw [he]; rfl
theorem scStep_goes (s : SS) (f : FR) (n : Nat) (he : jEnds s.o s.h f.kind f.data = false) :
    scStep s f n = ⟨beginN s.at_ + n, scFirst s, jGoes s.o s.h f.kind f.data, jHad s.o s.h f.kind f.data, s.recs, s.places, s.fin⟩ := by unfold scStep; rw [he]; rfl
/-- what step leaves -/
def StepT (ep : Int) (B : List Int) (K : List Bool) (W : World) (sb jb : Nat) (bv kv : Value) (s : SS) (r : Ending) (w' : World) : Prop :=
  (∃ t, scNext ep B K s = some t ∧ r = .returned (.bool true) ∧ SX W w' sb jb ep bv kv t) ∨
  (scNext ep B K s = none ∧ r = .returned (.bool false) ∧ ∃ t, SX W w' sb jb ep bv kv t ∧ t.recs = s.recs ∧ t.places = s.places ∧ t.fin = s.fin)
set_option maxRecDepth 8000 in
set_option maxHeartbeats 8000000 in
theorem step_scan {W w : World} {sb jb : Nat} {ep : Int} {bv kv : Value} {B : List Int} {K : List Bool} (s : SS) (hs : s.Ok) (hx : SX W w sb jb ep bv kv s) (hT : Tab W) (hB : B.length = 832) (hBb : isB B) (hbv : RI .u8 W bv 832 B) (hk : BS W kv 16 K) :
    Calls Tryd.prog 27 #[.pointer (some ⟨sb, 0, none⟩)] w (StepT ep B K W sb jb bv kv s) := by
  obtain ⟨at0, first, o, h, recs, places, fin⟩ := s
  obtain ⟨hv, rv, es, pv, hc, hes0⟩ := hx
  dsimp only at hc hes0
  have ha0 : at0 ≤ 832 := hs.at_
  have hroom : 11 * recs.length ≤ at0 := hs.room
  have hfew : recs.length = places.length := hs.few
  have hesl : es.length = recs.length := by rw [← hes0, List.length_map]
  have hes : es.length ≤ 1000 := by omega
  have hpl : places.length ≤ 1000 := by omega
  have HC := Lib.hid hc
  have HES := Lib.hid hes0
  have hble := begin_le at0 ha0
  have HNXF : ∀ f m, scF ep B K (beginN at0) = (f, m) → (m = 0 ∨ jErr o h f.kind f.data ≠ 0) → scNext ep B K ⟨at0, first, o, h, recs, places, fin⟩ = none := fun f m e q => scNext_none (by dsimp only; rw [e]; exact q)
  have HNXT : ∀ f m, scF ep B K (beginN at0) = (f, m) → m ≠ 0 → jErr o h f.kind f.data = 0 → scNext ep B K ⟨at0, first, o, h, recs, places, fin⟩ = some (scStep ⟨at0, first, o, h, recs, places, fin⟩ f m) := fun f m e q1 q2 => by
    have := scNext_some (ep := ep) (B := B) (K := K) (s := ⟨at0, first, o, h, recs, places, fin⟩) (by dsimp only; rw [e]; exact q1) (by dsimp only; rw [e]; exact q2)
    dsimp only at this
    rw [e] at this
    exact this
  have HSE : ∀ f m, jEnds o h f.kind f.data = true → scStep ⟨at0, first, o, h, recs, places, fin⟩ f m = ⟨beginN at0 + m, if o = true then first else beginN at0, jGoes o h f.kind f.data, jHad o h f.kind f.data, recs ++ [jTell o h f.kind f.data], places ++ [(((if o = true then first else beginN at0) : Nat) : Int)], beginN at0 + m⟩ := fun f m q => scStep_ends _ f m q
  have HSG : ∀ f m, jEnds o h f.kind f.data = false → scStep ⟨at0, first, o, h, recs, places, fin⟩ f m = ⟨beginN at0 + m, if o = true then first else beginN at0, jGoes o h f.kind f.data, jHad o h f.kind f.data, recs, places, fin⟩ := fun f m q => scStep_goes _ f m q
  have HBG : Hid (∀ w, Calls Tryd.prog 47 #[.int .i64 at0] w fun e w' => e = .returned (.int .i64 (beginN at0 : Int)) ∧ Below w.heap.size w w') := Lib.hid fun w => by
    have := begin_any (at0 : Int) (by unfold I63; omega) w; rwa [nr_nat at0 ha0] at this
  obtain ⟨a, hab⟩ : ∃ a, beginN at0 = a := ⟨_, rfl⟩
  rw [hab] at hble HBG HNXF HNXT HSE HSG
  have HFA : ∀ w, SO w sb ep bv kv jb at0 first rv pv fin 0 → Below W.heap.size W w → Calls Tryd.prog 48 #[.pointer (some ⟨sb, 0, none⟩), .int .i64 a] w (FragT ep B K a w) := fun w h1 h2 => fragment_any h1 h2 hT hB hBb hbv hk a hble
  obtain ⟨⟨⟨k, e, d⟩, m⟩, hF⟩ : ∃ F, scF ep B K a = F := ⟨_, rfl⟩
  obtain ⟨p0, q0, hrv⟩ := own_form hc.recs.row
  have hsz : ∀ hm : m ≠ 0, a + m ≤ 832 ∧ d.length ≤ 197 := fun hm => by
    obtain ⟨_, _, h3, _, h5⟩ := scF_some (ep := ep) (B := B) (K := K) (a := a) (by rw [hF]; exact hm)
    have hp := scD_parts hB hble h3
    rw [hF] at h5
    simp only [Prod.mk.injEq] at h5
    rw [← h5.1, ← h5.2] at hp
    exact ⟨hp.2.2.1, hp.2.2.2.2⟩
  by_cases hm : m = 0
  · have HFR : Hid (∀ w, SO w sb ep bv kv jb at0 first rv pv fin 0 → Below W.heap.size W w → Calls Tryd.prog 48 #[.pointer (some ⟨sb, 0, none⟩), .int .i64 a] w fun r w' => ∃ k e x n c m, r = .returned (.tuple #[.agg (fA k e (.slice x n c)), .int .i64 m, .bool false]) ∧ Below w.heap.size w w') := Lib.hid fun w h1 h2 => (HFA w h1 h2).mono fun r w' ⟨hb, hq⟩ => by
      rcases hq with ⟨_, k, e, x, n, c, m, hr⟩ | ⟨h0, _⟩
      · exact ⟨k, e, x, n, c, m, hr, hb⟩
      · rw [hF] at h0; exact absurd hm h0
    have HNX := Lib.hid (HNXF _ _ hF (.inl hm))
    clear HNXF HNXT HSE HSG HFA hF hsz hm hc hs hT hB hBb hbv hk hes0 hrv hroom hfew hesl
    have z4 := HC.out.blk.cells.2.2.2.2.1
    go_enter Tryd.func27, Tryd.ntmps27
    go_wp2_with (first
      | (go_at_call 47; (with_reducible refine (HBG.out _).mono ?_); rintro r w1 ⟨rfl, hb⟩; have HC1 := Lib.hid (HC.out.keep hb); clear hb)
      | (go_at_call 48; (refine (HFR.out _ HC1.out.blk HC1.out.below).mono ?_); rintro r w2 ⟨k2, e2, x2, n2, c2, m2, rfl, hb⟩; have HC2 := Lib.hid (HC1.out.keep hb); clear hb)
      | (refine wpl_put_fr rfl (.tmp 4) (.tmp 19) rfl w2.heap.size (FO.alloc w2) k2 e2 x2 n2 c2 rfl rfl ?_; intro w3 HF3 HG3; have HC3 := Lib.hid (HC2.out.keep (below_over (balloc w2 _) HG3.out (Nat.le_refl _) (balloc w2 _).size))))
    go_ret
    exact .inr ⟨HNX.out, rfl, ⟨at0, first, o, h, recs, places, fin⟩, ⟨_, _, _, _, HC3.out, HES.out⟩, rfl, rfl, rfl⟩
  · have HFR : Hid (∀ w, SO w sb ep bv kv jb at0 first rv pv fin 0 → Below W.heap.size W w → Calls Tryd.prog 48 #[.pointer (some ⟨sb, 0, none⟩), .int .i64 a] w fun r w' => ∃ x c, r = .returned (.tuple #[.agg (fA k e (.slice x d.length c)), .int .i64 (m : Int), .bool true]) ∧ w'.ownsRow w.heap.size 5 1 (.slice x d.length c) d.length (il .u8 d) ∧ Below w.heap.size w w') := Lib.hid fun w h1 h2 => (HFA w h1 h2).mono fun r w' ⟨hb, hq⟩ => by
      rcases hq with ⟨h0, _⟩ | ⟨_, x, c, hr, ho⟩
      · rw [hF] at h0; exact absurd h0 hm
      · rw [hF] at hr ho; exact ⟨x, c, hr, ho, hb⟩
    obtain ⟨ham, hdl⟩ := hsz hm
    have HNXT := HNXT _ _ hF hm
    have HNXF := HNXF _ _ hF
    have HFD : ∀ (w : World) (x : Option Addr) (c : Nat), Below W.heap.size W w → JB w W.heap.size jb o hv h → (∀ w', Oth w w' jb hv → RI .u8 w' (.slice x d.length c) d.length d) → Calls Tryd.prog 50 #[.pointer (some ⟨jb, 0, none⟩), .agg (fA k e (.slice x d.length c))] w fun r w' =>
        ∃ u v', r = .returned (.tuple #[u, .bool (jEnds o h k d), .int .i64 (jErr o h k d)]) ∧ JB w' W.heap.size jb (jGoes o h k d) v' (jHad o h k d) ∧ w'.ownsRow W.heap.size 5 1 u (jTell o h k d).length (il .u8 (jTell o h k d)) ∧ Lies w hv u ∧ Lies w hv v' ∧ Oth w w' jb hv := fun w x c h1 h2 h3 =>
      feed_own W o jb hv h k e (.slice x d.length c) d.length d w h1 h2 h3
    have hGE : jEnds o h k d = true → jGoes o h k d = false := fun q => jGoes_ends q
    have HSE := HSE ⟨k, e, d⟩ m
    have HSG := HSG ⟨k, e, d⟩ m
    dsimp only at HNXT HNXF HSE HSG
    obtain ⟨t, ht⟩ : ∃ t, a + m = t := ⟨_, rfl⟩
    rw [ht] at HSE HSG ham
    have htI : (a : Int) + (m : Int) = (t : Int) := by omega
    have htb : (t : Int) ≤ 832 := by omega
    by_cases her : jErr o h k d = 0
    · have HNX1 := HNXT her
      rw [her] at HFD
      cases hen : jEnds o h k d with
      | true =>
        have HNX2 := HNX1
        rw [HSE hen] at HNX2
        have HGO := Lib.hid (hGE hen)
        rw [hen] at HFD
        clear HNX1 HNXF HNXT HSE HSG HFA hF hsz hm hc hs hT hB hBb hbv hk hes0 hrv hroom hfew hesl hGE her hen ht ham
        generalize jGoes o h k d = g6 at *
        generalize jHad o h k d = h6 at *
        generalize jTell o h k d = t6 at *
        have HFD := Lib.hid HFD
        cases o with
        | true =>
          rw [if_pos rfl] at HNX2
          have HNX := Lib.hid HNX2
          clear HNX2
          have z4 := HC.out.blk.cells.2.2.2.2.1
          go_enter Tryd.func27, Tryd.ntmps27
          go_wp2_with (first
            | (go_at_call 47; (with_reducible refine (HBG.out _).mono ?_); rintro r w1 ⟨rfl, hb⟩; have HC1 := Lib.hid (HC.out.keep hb); clear hb)
            | (go_at_call 48; (refine (HFR.out _ HC1.out.blk HC1.out.below).mono ?_); rintro r w2 ⟨x2, c2, rfl, ho, hb⟩; have HC2 := Lib.hid (HC1.out.keep hb); have HO2 := Lib.hid ho; have HNE : Hid (∀ g, (Value.slice x2 d.length c2).ownBlock = some g → some g ≠ hv.ownBlock) := Lib.hid (fun g hg e => by have h1 := (HO2.out.lt g hg).1; have h2 := (HC1.out.jn.row.lt g e.symm).2; omega); clear ho hb)
            | (refine wpl_put_fr rfl (.tmp 4) (.tmp 19) rfl w2.heap.size (FO.alloc w2) k e x2 d.length c2 rfl rfl ?_; intro w3 HF3 HG3; have hb3 : Below w2.heap.size w2 w3 := below_over (balloc w2 _) HG3.out (Nat.le_refl _) (balloc w2 _).size; have HC3 := Lib.hid (HC2.out.keep hb3); have HO3 := Lib.hid (own_keep HO2.out hb3); clear hb3; have z3 := HC3.out.blk.cells.2.2.2.1; have HC4 := HC3; have HF4 := HF3; have HO4 := HO3)
            | (go_at_call 49; (with_reducible refine (idle_any true _ jb _ HC3.out.jn.blk).mono ?_); rintro r w9 ⟨rfl, rfl⟩))
          have HC5 := Lib.hid (HC4.out.keep (Below.refl _ w3).drew)
          have HF5 := Lib.hid (HF4.out.keep (Below.refl _ w3).drew)
          have HO5 := Lib.hid (own_keep HO4.out (Below.refl _ w3).drew)
          clear z3 z4 HC3 HF3 HO3 HC1 HC2 HO2 HBG HFR
          (try go_wp2_with fail)
          refine wp_region_held_drew (S := (fun w' => w'.cell? ⟨sb, 3, none⟩ = some (.pointer (some ⟨jb, 0, none⟩)) ∧ FO w' w2.heap.size k e (.slice x2 d.length c2))) (by kernel_rfl) ⟨HC5.out.blk.cells.2.2.2.1, HF5.out⟩ (fun hS => ?_)
          refine wpAnyH_take (i := 0) (oi := ({ dst := some 34, op := Op.move (Operand.tmp 0), type := 75, pos := "scanner.go:43", after := #[], guard := none } : Oper)) (v := ?_) rfl (by kernel_rfl) (by kernel_rfl) (by kernel_rfl) (fun _ _ _ h => h) (Or.inl ⟨by rfl, ?_⟩) hS ?_
          rotate_left
          · (intro w hSw; (try dsimp only at hSw); go_simp; try with_reducible rfl)
          (try simp only [Act.put, List.setIfInBounds_toArray, List.set_cons_zero, List.set_cons_succ])
          refine wpAnyH_take (i := 1) (oi := ({ dst := some 35, op := Op.nilCheck (Operand.tmp 34), type := 0, pos := "scanner.go:43", after := #[{ on := 0, ground := Ground.data }], guard := none } : Oper)) (v := ?_) rfl (by kernel_rfl) (by kernel_rfl) (by kernel_rfl) (fun _ _ _ h => h) (Or.inl ⟨by rfl, ?_⟩) hS ?_
          rotate_left
          · (intro w hSw; (try dsimp only at hSw); go_simp; try with_reducible rfl)
          (try simp only [Act.put, List.setIfInBounds_toArray, List.set_cons_zero, List.set_cons_succ])
          refine wpAnyH_take (i := 2) (oi := ({ dst := some 36, op := Op.fieldAddr 80 (Operand.tmp 35) 3, type := 0, pos := "scanner.go:43", after := #[{ on := 1, ground := Ground.data }], guard := none } : Oper)) (v := ?_) rfl (by kernel_rfl) (by kernel_rfl) (by kernel_rfl) (fun _ _ _ h => h) (Or.inl ⟨by rfl, ?_⟩) hS ?_
          rotate_left
          · (intro w hSw; (try dsimp only at hSw); go_simp; try with_reducible rfl)
          (try simp only [Act.put, List.setIfInBounds_toArray, List.set_cons_zero, List.set_cons_succ])
          refine wpAnyH_take (i := 3) (oi := ({ dst := some 37, op := Op.load 78 (Operand.tmp 36), type := 78, pos := "scanner.go:43", after := #[{ on := 2, ground := Ground.data }], guard := none } : Oper)) (v := ?_) rfl (by kernel_rfl) (by kernel_rfl) (by kernel_rfl) (fun _ _ _ h => h) (Or.inl ⟨by rfl, ?_⟩) hS ?_
          rotate_left
          · (intro w hSw; (try dsimp only at hSw); go_simp; try with_reducible rfl)
          (try simp only [Act.put, List.setIfInBounds_toArray, List.set_cons_zero, List.set_cons_succ])
          refine wpAnyH_take (i := 4) (oi := ({ dst := some 38, op := Op.load 70 (Operand.tmp 4), type := 70, pos := "scanner.go:43", after := #[], guard := none } : Oper)) (v := ?_) rfl (by kernel_rfl) (by kernel_rfl) (by kernel_rfl) (fun _ _ _ h => h) (Or.inl ⟨by rfl, ?_⟩) hS ?_
          rotate_left
          · (intro w hSw; (try dsimp only at hSw); refine exec_load_fr (.tmp 4) ?_ ?_ hSw.2 <;> rfl)
          (try simp only [Act.put, List.setIfInBounds_toArray, List.set_cons_zero, List.set_cons_succ])
          refine rg_one 5 ({ dst := some 39, op := Op.call { callee := Callee.value (Operand.func 50), args := #[Operand.tmp 37, Operand.tmp 38], argTypes := #[78, 70] }, type := 108, pos := "scanner.go:43", after := #[{ on := 3, ground := Ground.data }, { on := 4, ground := Ground.data }], guard := none } : Oper) (by kernel_rfl) rfl (fun K hK => ?_)
          go_simp
          (go_at_call 50; (refine (HFD.out _ x2 c2 HC5.out.below HC5.out.jn (fun w' k => RI.own (HC5.out.jn.oth k HO5.out (by decide) HNE.out))).mono ?_); rintro r w6 ⟨u, v6, rfl, hj6, ho6, hl6, hl7, hk6⟩; obtain ⟨ua, uc, rfl⟩ := own_form ho6; have HC6 := Lib.hid (HC5.out.feed hj6 hl7 hk6); have HF6 := Lib.hid (HC5.out.jn.oth_blk hk6 HF5.out (by decide) (by decide)); have HO6 := Lib.hid ho6; have hN := And.intro HC6.out.blk.cells.2.2.2.1 HF6.out; clear hj6 ho6 hl6 hl7 hk6)
          refine hK.out _ _ ?_ (fun hS1 => ?_)
          · (first | exact hN | exact hS)
          clear hK K hS; have hS := hS1; clear hS1
          (try simp only [Act.put, List.setIfInBounds_toArray, List.set_cons_zero, List.set_cons_succ])
          refine wpAnyH_take (i := 6) (oi := ({ dst := some 33, op := Op.move (Operand.tmp 39), type := 108, pos := "scanner.go:43", after := #[{ on := 5, ground := Ground.data }], guard := none } : Oper)) (v := ?_) rfl (by kernel_rfl) (by kernel_rfl) (by kernel_rfl) (fun _ _ _ h => h) (Or.inl ⟨by rfl, ?_⟩) hS ?_
          rotate_left
          · (intro w hSw; (try dsimp only at hSw); go_simp; try with_reducible rfl)
          (try simp only [Act.put, List.setIfInBounds_toArray, List.set_cons_zero, List.set_cons_succ])
          refine wpAnyH_take (i := 7) (oi := ({ dst := some 40, op := Op.extract (Operand.tmp 33) 0, type := 43, pos := "scanner.go:43", after := #[{ on := 6, ground := Ground.data }], guard := none } : Oper)) (v := ?_) rfl (by kernel_rfl) (by kernel_rfl) (by kernel_rfl) (fun _ _ _ h => h) (Or.inl ⟨by rfl, ?_⟩) hS ?_
          rotate_left
          · (intro w hSw; (try dsimp only at hSw); go_simp; try with_reducible rfl)
          (try simp only [Act.put, List.setIfInBounds_toArray, List.set_cons_zero, List.set_cons_succ])
          refine wpAnyH_take (i := 8) (oi := ({ dst := some 41, op := Op.extract (Operand.tmp 33) 1, type := 4, pos := "scanner.go:43", after := #[{ on := 6, ground := Ground.data }, { on := 10, ground := Ground.gcOnly Departure.lateStores }], guard := none } : Oper)) (v := ?_) rfl (by kernel_rfl) (by kernel_rfl) (by kernel_rfl) (fun _ _ _ h => h) (Or.inl ⟨by rfl, ?_⟩) hS ?_
          rotate_left
          · (intro w hSw; (try dsimp only at hSw); go_simp; try with_reducible rfl)
          (try simp only [Act.put, List.setIfInBounds_toArray, List.set_cons_zero, List.set_cons_succ])
          refine wpAnyH_take (i := 9) (oi := ({ dst := some 42, op := Op.extract (Operand.tmp 33) 2, type := 86, pos := "scanner.go:43", after := #[{ on := 6, ground := Ground.data }, { on := 11, ground := Ground.gcOnly Departure.lateStores }], guard := none } : Oper)) (v := ?_) rfl (by kernel_rfl) (by kernel_rfl) (by kernel_rfl) (fun _ _ _ h => h) (Or.inl ⟨by rfl, ?_⟩) hS ?_
          rotate_left
          · (intro w hSw; (try dsimp only at hSw); go_simp; try with_reducible rfl)
          (try simp only [Act.put, List.setIfInBounds_toArray, List.set_cons_zero, List.set_cons_succ])
          refine wpAnyH_take (i := 10) (oi := ({ dst := some 7, op := Op.assign (Operand.tmp 40), type := 43, pos := "scanner.go:43", after := #[{ on := 7, ground := Ground.data }, { on := 5, ground := Ground.chain }, { on := 0, ground := Ground.phase }, { on := 1, ground := Ground.phase }, { on := 2, ground := Ground.phase }, { on := 3, ground := Ground.phase }, { on := 4, ground := Ground.phase }, { on := 5, ground := Ground.phase }, { on := 6, ground := Ground.phase }, { on := 7, ground := Ground.phase }, { on := 8, ground := Ground.textOnly Departure.lateStores }, { on := 9, ground := Ground.textOnly Departure.lateStores }], guard := none } : Oper)) (v := ?_) rfl (by kernel_rfl) (by kernel_rfl) (by kernel_rfl) (fun _ _ _ h => h) (Or.inl ⟨by rfl, ?_⟩) hS ?_
          rotate_left
          · (intro w hSw; (try dsimp only at hSw); go_simp; try with_reducible rfl)
          (try simp only [Act.put, List.setIfInBounds_toArray, List.set_cons_zero, List.set_cons_succ])
          refine wpAnyH_take (i := 11) (oi := ({ dst := some 8, op := Op.assign (Operand.tmp 41), type := 4, pos := "scanner.go:43", after := #[{ on := 8, ground := Ground.data }, { on := 10, ground := Ground.chain }, { on := 0, ground := Ground.phase }, { on := 1, ground := Ground.phase }, { on := 2, ground := Ground.phase }, { on := 3, ground := Ground.phase }, { on := 4, ground := Ground.phase }, { on := 5, ground := Ground.phase }, { on := 6, ground := Ground.phase }, { on := 7, ground := Ground.phase }, { on := 8, ground := Ground.phase }, { on := 9, ground := Ground.textOnly Departure.lateStores }, { on := 10, ground := Ground.phase }], guard := none } : Oper)) (v := ?_) rfl (by kernel_rfl) (by kernel_rfl) (by kernel_rfl) (fun _ _ _ h => h) (Or.inl ⟨by rfl, ?_⟩) hS ?_
          rotate_left
          · (intro w hSw; (try dsimp only at hSw); go_simp; try with_reducible rfl)
          (try simp only [Act.put, List.setIfInBounds_toArray, List.set_cons_zero, List.set_cons_succ])
          refine wpAnyH_take (i := 12) (oi := ({ dst := some 9, op := Op.assign (Operand.tmp 42), type := 86, pos := "scanner.go:43", after := #[{ on := 9, ground := Ground.data }, { on := 11, ground := Ground.chain }, { on := 0, ground := Ground.phase }, { on := 1, ground := Ground.phase }, { on := 2, ground := Ground.phase }, { on := 3, ground := Ground.phase }, { on := 4, ground := Ground.phase }, { on := 5, ground := Ground.phase }, { on := 6, ground := Ground.phase }, { on := 7, ground := Ground.phase }, { on := 8, ground := Ground.phase }, { on := 9, ground := Ground.phase }, { on := 10, ground := Ground.phase }, { on := 11, ground := Ground.phase }], guard := none } : Oper)) (v := ?_) rfl (by kernel_rfl) (by kernel_rfl) (by kernel_rfl) (fun _ _ _ h => h) (Or.inl ⟨by rfl, ?_⟩) hS ?_
          rotate_left
          · (intro w hSw; (try dsimp only at hSw); go_simp; try with_reducible rfl)
          (try simp only [Act.put, List.setIfInBounds_toArray, List.set_cons_zero, List.set_cons_succ])
          refine wpAnyH_done (by kernel_rfl) ?_ _
          clear hS hN HC5 HF5 HO5 HF6 HNE HFD
          obtain ⟨_, _, _, _, y4, _⟩ := HC6.out.blk.cells
          have f4 := HC6.out.blk.frozen 4
          obtain ⟨w7, hw7⟩ : ∃ q, w6.setCell ⟨sb, 4, none⟩ (.int .i64 (t : Int)) = q := ⟨_, rfl⟩
          have HC7 := Lib.hid (show SC W w7 sb jb ep bv kv t first fin g6 h6 v6 rv es pv places from by rw [← hw7]; exact HC6.out.set4 t)
          have HO7 := Lib.hid (show w7.ownsRow W.heap.size 5 1 (.slice ua t6.length uc) t6.length (il .u8 t6) from by rw [← hw7]; exact own_over HO6.out (grown_store w6 sb 4 _) (fun q hq e => HC6.out.blk.ne_own HO6.out (by decide) q hq (Option.some.inj e)))
          have HAP : Hid (∀ g, (Value.slice ua t6.length uc).ownBlock = some g → some g ≠ v6.ownBlock) := Lib.hid (fun g _ => by have := (HC7.out.jn.idle HGO.out).1; rw [this]; simp [Value.ownBlock])
          clear HO6
          go_wp2_with (first
            | (go_at_call 51; (refine (tell_any HC7.out (.slice ua t6.length uc) t6 HO7.out HAP.out hes hpl).mono ?_); rintro r w8 ⟨rfl, rv8, pv8, hc8⟩; have HC8 := Lib.hid hc8; clear hc8))
          go_ret
          refine .inl ⟨_, HNX.out, rfl, v6, rv8, _, pv8, HC8.out, ?_⟩
          rw [List.map_append, HES.out]; rfl
        | false =>
          rw [if_neg (by decide)] at HNX2
          have HNX := Lib.hid HNX2
          clear HNX2
          have z4 := HC.out.blk.cells.2.2.2.2.1
          go_enter Tryd.func27, Tryd.ntmps27
          go_wp2_with (first
            | (go_at_call 47; (with_reducible refine (HBG.out _).mono ?_); rintro r w1 ⟨rfl, hb⟩; have HC1 := Lib.hid (HC.out.keep hb); clear hb)
            | (go_at_call 48; (refine (HFR.out _ HC1.out.blk HC1.out.below).mono ?_); rintro r w2 ⟨x2, c2, rfl, ho, hb⟩; have HC2 := Lib.hid (HC1.out.keep hb); have HO2 := Lib.hid ho; have HNE : Hid (∀ g, (Value.slice x2 d.length c2).ownBlock = some g → some g ≠ hv.ownBlock) := Lib.hid (fun g hg e => by have h1 := (HO2.out.lt g hg).1; have h2 := (HC1.out.jn.row.lt g e.symm).2; omega); clear ho hb)
            | (refine wpl_put_fr rfl (.tmp 4) (.tmp 19) rfl w2.heap.size (FO.alloc w2) k e x2 d.length c2 rfl rfl ?_; intro w3 HF3 HG3; have hb3 : Below w2.heap.size w2 w3 := below_over (balloc w2 _) HG3.out (Nat.le_refl _) (balloc w2 _).size; have HC3 := Lib.hid (HC2.out.keep hb3); have HO3 := Lib.hid (own_keep HO2.out hb3); clear hb3; have z3 := HC3.out.blk.cells.2.2.2.1; have z5 := HC3.out.blk.cells.2.2.2.2.2.1; have f5 := HC3.out.blk.frozen 5; obtain ⟨w4, hw4⟩ : ∃ q, w3.setCell ⟨sb, 5, none⟩ (.int .i64 (a : Int)) = q := ⟨_, rfl⟩; have HC4 := Lib.hid (show SC W w4 sb jb ep bv kv at0 a fin false h hv rv es pv places from by rw [← hw4]; exact HC3.out.set5 a); have HG4 := Lib.hid (show w3.grownBy w4 (some sb) from by rw [← hw4]; exact grown_store _ _ _ _); have HF4 := Lib.hid (HF3.out.over HG4.out (Nat.ne_of_gt HC2.out.blk.lt)); have HO4 := Lib.hid (own_over HO3.out HG4.out (fun q hq e => HC3.out.blk.ne_own HO3.out (by decide) q hq (Option.some.inj e))))
            | (go_at_call 49; (with_reducible refine (idle_any false _ jb _ HC3.out.jn.blk).mono ?_); rintro r w9 ⟨rfl, rfl⟩))
          have HC5 := Lib.hid (HC4.out.keep (Below.refl _ w4).drew)
          have HF5 := Lib.hid (HF4.out.keep (Below.refl _ w4).drew)
          have HO5 := Lib.hid (own_keep HO4.out (Below.refl _ w4).drew)
          clear z3 z4 HC3 HF3 HO3 HC1 HC2 HO2 HBG HFR
          clear z5 f5
          (try go_wp2_with fail)
          refine wp_region_held_drew (S := (fun w' => w'.cell? ⟨sb, 3, none⟩ = some (.pointer (some ⟨jb, 0, none⟩)) ∧ FO w' w2.heap.size k e (.slice x2 d.length c2))) (by kernel_rfl) ⟨HC5.out.blk.cells.2.2.2.1, HF5.out⟩ (fun hS => ?_)
          refine wpAnyH_take (i := 0) (oi := ({ dst := some 34, op := Op.move (Operand.tmp 0), type := 75, pos := "scanner.go:43", after := #[], guard := none } : Oper)) (v := ?_) rfl (by kernel_rfl) (by kernel_rfl) (by kernel_rfl) (fun _ _ _ h => h) (Or.inl ⟨by rfl, ?_⟩) hS ?_
          rotate_left
          · (intro w hSw; (try dsimp only at hSw); go_simp; try with_reducible rfl)
          (try simp only [Act.put, List.setIfInBounds_toArray, List.set_cons_zero, List.set_cons_succ])
          refine wpAnyH_take (i := 1) (oi := ({ dst := some 35, op := Op.nilCheck (Operand.tmp 34), type := 0, pos := "scanner.go:43", after := #[{ on := 0, ground := Ground.data }], guard := none } : Oper)) (v := ?_) rfl (by kernel_rfl) (by kernel_rfl) (by kernel_rfl) (fun _ _ _ h => h) (Or.inl ⟨by rfl, ?_⟩) hS ?_
          rotate_left
          · (intro w hSw; (try dsimp only at hSw); go_simp; try with_reducible rfl)
          (try simp only [Act.put, List.setIfInBounds_toArray, List.set_cons_zero, List.set_cons_succ])
          refine wpAnyH_take (i := 2) (oi := ({ dst := some 36, op := Op.fieldAddr 80 (Operand.tmp 35) 3, type := 0, pos := "scanner.go:43", after := #[{ on := 1, ground := Ground.data }], guard := none } : Oper)) (v := ?_) rfl (by kernel_rfl) (by kernel_rfl) (by kernel_rfl) (fun _ _ _ h => h) (Or.inl ⟨by rfl, ?_⟩) hS ?_
          rotate_left
          · (intro w hSw; (try dsimp only at hSw); go_simp; try with_reducible rfl)
          (try simp only [Act.put, List.setIfInBounds_toArray, List.set_cons_zero, List.set_cons_succ])
          refine wpAnyH_take (i := 3) (oi := ({ dst := some 37, op := Op.load 78 (Operand.tmp 36), type := 78, pos := "scanner.go:43", after := #[{ on := 2, ground := Ground.data }], guard := none } : Oper)) (v := ?_) rfl (by kernel_rfl) (by kernel_rfl) (by kernel_rfl) (fun _ _ _ h => h) (Or.inl ⟨by rfl, ?_⟩) hS ?_
          rotate_left
          · (intro w hSw; (try dsimp only at hSw); go_simp; try with_reducible rfl)
          (try simp only [Act.put, List.setIfInBounds_toArray, List.set_cons_zero, List.set_cons_succ])
          refine wpAnyH_take (i := 4) (oi := ({ dst := some 38, op := Op.load 70 (Operand.tmp 4), type := 70, pos := "scanner.go:43", after := #[], guard := none } : Oper)) (v := ?_) rfl (by kernel_rfl) (by kernel_rfl) (by kernel_rfl) (fun _ _ _ h => h) (Or.inl ⟨by rfl, ?_⟩) hS ?_
          rotate_left
          · (intro w hSw; (try dsimp only at hSw); refine exec_load_fr (.tmp 4) ?_ ?_ hSw.2 <;> rfl)
          (try simp only [Act.put, List.setIfInBounds_toArray, List.set_cons_zero, List.set_cons_succ])
          refine rg_one 5 ({ dst := some 39, op := Op.call { callee := Callee.value (Operand.func 50), args := #[Operand.tmp 37, Operand.tmp 38], argTypes := #[78, 70] }, type := 108, pos := "scanner.go:43", after := #[{ on := 3, ground := Ground.data }, { on := 4, ground := Ground.data }], guard := none } : Oper) (by kernel_rfl) rfl (fun K hK => ?_)
          go_simp
          (go_at_call 50; (refine (HFD.out _ x2 c2 HC5.out.below HC5.out.jn (fun w' k => RI.own (HC5.out.jn.oth k HO5.out (by decide) HNE.out))).mono ?_); rintro r w6 ⟨u, v6, rfl, hj6, ho6, hl6, hl7, hk6⟩; obtain ⟨ua, uc, rfl⟩ := own_form ho6; have HC6 := Lib.hid (HC5.out.feed hj6 hl7 hk6); have HF6 := Lib.hid (HC5.out.jn.oth_blk hk6 HF5.out (by decide) (by decide)); have HO6 := Lib.hid ho6; have hN := And.intro HC6.out.blk.cells.2.2.2.1 HF6.out; clear hj6 ho6 hl6 hl7 hk6)
          refine hK.out _ _ ?_ (fun hS1 => ?_)
          · (first | exact hN | exact hS)
          clear hK K hS; have hS := hS1; clear hS1
          (try simp only [Act.put, List.setIfInBounds_toArray, List.set_cons_zero, List.set_cons_succ])
          refine wpAnyH_take (i := 6) (oi := ({ dst := some 33, op := Op.move (Operand.tmp 39), type := 108, pos := "scanner.go:43", after := #[{ on := 5, ground := Ground.data }], guard := none } : Oper)) (v := ?_) rfl (by kernel_rfl) (by kernel_rfl) (by kernel_rfl) (fun _ _ _ h => h) (Or.inl ⟨by rfl, ?_⟩) hS ?_
          rotate_left
          · (intro w hSw; (try dsimp only at hSw); go_simp; try with_reducible rfl)
          (try simp only [Act.put, List.setIfInBounds_toArray, List.set_cons_zero, List.set_cons_succ])
          refine wpAnyH_take (i := 7) (oi := ({ dst := some 40, op := Op.extract (Operand.tmp 33) 0, type := 43, pos := "scanner.go:43", after := #[{ on := 6, ground := Ground.data }], guard := none } : Oper)) (v := ?_) rfl (by kernel_rfl) (by kernel_rfl) (by kernel_rfl) (fun _ _ _ h => h) (Or.inl ⟨by rfl, ?_⟩) hS ?_
          rotate_left
          · (intro w hSw; (try dsimp only at hSw); go_simp; try with_reducible rfl)
          (try simp only [Act.put, List.setIfInBounds_toArray, List.set_cons_zero, List.set_cons_succ])
          refine wpAnyH_take (i := 8) (oi := ({ dst := some 41, op := Op.extract (Operand.tmp 33) 1, type := 4, pos := "scanner.go:43", after := #[{ on := 6, ground := Ground.data }, { on := 10, ground := Ground.gcOnly Departure.lateStores }], guard := none } : Oper)) (v := ?_) rfl (by kernel_rfl) (by kernel_rfl) (by kernel_rfl) (fun _ _ _ h => h) (Or.inl ⟨by rfl, ?_⟩) hS ?_
          rotate_left
          · (intro w hSw; (try dsimp only at hSw); go_simp; try with_reducible rfl)
          (try simp only [Act.put, List.setIfInBounds_toArray, List.set_cons_zero, List.set_cons_succ])
          refine wpAnyH_take (i := 9) (oi := ({ dst := some 42, op := Op.extract (Operand.tmp 33) 2, type := 86, pos := "scanner.go:43", after := #[{ on := 6, ground := Ground.data }, { on := 11, ground := Ground.gcOnly Departure.lateStores }], guard := none } : Oper)) (v := ?_) rfl (by kernel_rfl) (by kernel_rfl) (by kernel_rfl) (fun _ _ _ h => h) (Or.inl ⟨by rfl, ?_⟩) hS ?_
          rotate_left
          · (intro w hSw; (try dsimp only at hSw); go_simp; try with_reducible rfl)
          (try simp only [Act.put, List.setIfInBounds_toArray, List.set_cons_zero, List.set_cons_succ])
          refine wpAnyH_take (i := 10) (oi := ({ dst := some 7, op := Op.assign (Operand.tmp 40), type := 43, pos := "scanner.go:43", after := #[{ on := 7, ground := Ground.data }, { on := 5, ground := Ground.chain }, { on := 0, ground := Ground.phase }, { on := 1, ground := Ground.phase }, { on := 2, ground := Ground.phase }, { on := 3, ground := Ground.phase }, { on := 4, ground := Ground.phase }, { on := 5, ground := Ground.phase }, { on := 6, ground := Ground.phase }, { on := 7, ground := Ground.phase }, { on := 8, ground := Ground.textOnly Departure.lateStores }, { on := 9, ground := Ground.textOnly Departure.lateStores }], guard := none } : Oper)) (v := ?_) rfl (by kernel_rfl) (by kernel_rfl) (by kernel_rfl) (fun _ _ _ h => h) (Or.inl ⟨by rfl, ?_⟩) hS ?_
          rotate_left
          · (intro w hSw; (try dsimp only at hSw); go_simp; try with_reducible rfl)
          (try simp only [Act.put, List.setIfInBounds_toArray, List.set_cons_zero, List.set_cons_succ])
          refine wpAnyH_take (i := 11) (oi := ({ dst := some 8, op := Op.assign (Operand.tmp 41), type := 4, pos := "scanner.go:43", after := #[{ on := 8, ground := Ground.data }, { on := 10, ground := Ground.chain }, { on := 0, ground := Ground.phase }, { on := 1, ground := Ground.phase }, { on := 2, ground := Ground.phase }, { on := 3, ground := Ground.phase }, { on := 4, ground := Ground.phase }, { on := 5, ground := Ground.phase }, { on := 6, ground := Ground.phase }, { on := 7, ground := Ground.phase }, { on := 8, ground := Ground.phase }, { on := 9, ground := Ground.textOnly Departure.lateStores }, { on := 10, ground := Ground.phase }], guard := none } : Oper)) (v := ?_) rfl (by kernel_rfl) (by kernel_rfl) (by kernel_rfl) (fun _ _ _ h => h) (Or.inl ⟨by rfl, ?_⟩) hS ?_
          rotate_left
          · (intro w hSw; (try dsimp only at hSw); go_simp; try with_reducible rfl)
          (try simp only [Act.put, List.setIfInBounds_toArray, List.set_cons_zero, List.set_cons_succ])
          refine wpAnyH_take (i := 12) (oi := ({ dst := some 9, op := Op.assign (Operand.tmp 42), type := 86, pos := "scanner.go:43", after := #[{ on := 9, ground := Ground.data }, { on := 11, ground := Ground.chain }, { on := 0, ground := Ground.phase }, { on := 1, ground := Ground.phase }, { on := 2, ground := Ground.phase }, { on := 3, ground := Ground.phase }, { on := 4, ground := Ground.phase }, { on := 5, ground := Ground.phase }, { on := 6, ground := Ground.phase }, { on := 7, ground := Ground.phase }, { on := 8, ground := Ground.phase }, { on := 9, ground := Ground.phase }, { on := 10, ground := Ground.phase }, { on := 11, ground := Ground.phase }], guard := none } : Oper)) (v := ?_) rfl (by kernel_rfl) (by kernel_rfl) (by kernel_rfl) (fun _ _ _ h => h) (Or.inl ⟨by rfl, ?_⟩) hS ?_
          rotate_left
          · (intro w hSw; (try dsimp only at hSw); go_simp; try with_reducible rfl)
          (try simp only [Act.put, List.setIfInBounds_toArray, List.set_cons_zero, List.set_cons_succ])
          refine wpAnyH_done (by kernel_rfl) ?_ _
          clear hS hN HC5 HF5 HO5 HF6 HNE HFD
          obtain ⟨_, _, _, _, y4, _⟩ := HC6.out.blk.cells
          have f4 := HC6.out.blk.frozen 4
          obtain ⟨w7, hw7⟩ : ∃ q, w6.setCell ⟨sb, 4, none⟩ (.int .i64 (t : Int)) = q := ⟨_, rfl⟩
          have HC7 := Lib.hid (show SC W w7 sb jb ep bv kv t a fin g6 h6 v6 rv es pv places from by rw [← hw7]; exact HC6.out.set4 t)
          have HO7 := Lib.hid (show w7.ownsRow W.heap.size 5 1 (.slice ua t6.length uc) t6.length (il .u8 t6) from by rw [← hw7]; exact own_over HO6.out (grown_store w6 sb 4 _) (fun q hq e => HC6.out.blk.ne_own HO6.out (by decide) q hq (Option.some.inj e)))
          have HAP : Hid (∀ g, (Value.slice ua t6.length uc).ownBlock = some g → some g ≠ v6.ownBlock) := Lib.hid (fun g _ => by have := (HC7.out.jn.idle HGO.out).1; rw [this]; simp [Value.ownBlock])
          clear HO6
          go_wp2_with (first
            | (go_at_call 51; (refine (tell_any HC7.out (.slice ua t6.length uc) t6 HO7.out HAP.out hes hpl).mono ?_); rintro r w8 ⟨rfl, rv8, pv8, hc8⟩; have HC8 := Lib.hid hc8; clear hc8))
          go_ret
          refine .inl ⟨_, HNX.out, rfl, v6, rv8, _, pv8, HC8.out, ?_⟩
          rw [List.map_append, HES.out]; rfl
      | false =>
        have HNX2 := HNX1
        rw [HSG hen] at HNX2
        rw [hen] at HFD
        clear HNX1 HNXF HNXT HSE HSG HFA hF hsz hm hc hs hT hB hBb hbv hk hes0 hrv hroom hfew hesl hGE her hen ht ham
        generalize jGoes o h k d = g6 at *
        generalize jHad o h k d = h6 at *
        generalize jTell o h k d = t6 at *
        have HFD := Lib.hid HFD
        cases o with
        | true =>
          rw [if_pos rfl] at HNX2
          have HNX := Lib.hid HNX2
          clear HNX2
          have z4 := HC.out.blk.cells.2.2.2.2.1
          go_enter Tryd.func27, Tryd.ntmps27
          go_wp2_with (first
            | (go_at_call 47; (with_reducible refine (HBG.out _).mono ?_); rintro r w1 ⟨rfl, hb⟩; have HC1 := Lib.hid (HC.out.keep hb); clear hb)
            | (go_at_call 48; (refine (HFR.out _ HC1.out.blk HC1.out.below).mono ?_); rintro r w2 ⟨x2, c2, rfl, ho, hb⟩; have HC2 := Lib.hid (HC1.out.keep hb); have HO2 := Lib.hid ho; have HNE : Hid (∀ g, (Value.slice x2 d.length c2).ownBlock = some g → some g ≠ hv.ownBlock) := Lib.hid (fun g hg e => by have h1 := (HO2.out.lt g hg).1; have h2 := (HC1.out.jn.row.lt g e.symm).2; omega); clear ho hb)
            | (refine wpl_put_fr rfl (.tmp 4) (.tmp 19) rfl w2.heap.size (FO.alloc w2) k e x2 d.length c2 rfl rfl ?_; intro w3 HF3 HG3; have hb3 : Below w2.heap.size w2 w3 := below_over (balloc w2 _) HG3.out (Nat.le_refl _) (balloc w2 _).size; have HC3 := Lib.hid (HC2.out.keep hb3); have HO3 := Lib.hid (own_keep HO2.out hb3); clear hb3; have z3 := HC3.out.blk.cells.2.2.2.1; have HC4 := HC3; have HF4 := HF3; have HO4 := HO3)
            | (go_at_call 49; (with_reducible refine (idle_any true _ jb _ HC3.out.jn.blk).mono ?_); rintro r w9 ⟨rfl, rfl⟩))
          have HC5 := Lib.hid (HC4.out.keep (Below.refl _ w3).drew)
          have HF5 := Lib.hid (HF4.out.keep (Below.refl _ w3).drew)
          have HO5 := Lib.hid (own_keep HO4.out (Below.refl _ w3).drew)
          clear z3 z4 HC3 HF3 HO3 HC1 HC2 HO2 HBG HFR
          (try go_wp2_with fail)
          refine wp_region_held_drew (S := (fun w' => w'.cell? ⟨sb, 3, none⟩ = some (.pointer (some ⟨jb, 0, none⟩)) ∧ FO w' w2.heap.size k e (.slice x2 d.length c2))) (by kernel_rfl) ⟨HC5.out.blk.cells.2.2.2.1, HF5.out⟩ (fun hS => ?_)
          refine wpAnyH_take (i := 0) (oi := ({ dst := some 34, op := Op.move (Operand.tmp 0), type := 75, pos := "scanner.go:43", after := #[], guard := none } : Oper)) (v := ?_) rfl (by kernel_rfl) (by kernel_rfl) (by kernel_rfl) (fun _ _ _ h => h) (Or.inl ⟨by rfl, ?_⟩) hS ?_
          rotate_left
          · (intro w hSw; (try dsimp only at hSw); go_simp; try with_reducible rfl)
          (try simp only [Act.put, List.setIfInBounds_toArray, List.set_cons_zero, List.set_cons_succ])
          refine wpAnyH_take (i := 1) (oi := ({ dst := some 35, op := Op.nilCheck (Operand.tmp 34), type := 0, pos := "scanner.go:43", after := #[{ on := 0, ground := Ground.data }], guard := none } : Oper)) (v := ?_) rfl (by kernel_rfl) (by kernel_rfl) (by kernel_rfl) (fun _ _ _ h => h) (Or.inl ⟨by rfl, ?_⟩) hS ?_
          rotate_left
          · (intro w hSw; (try dsimp only at hSw); go_simp; try with_reducible rfl)
          (try simp only [Act.put, List.setIfInBounds_toArray, List.set_cons_zero, List.set_cons_succ])
          refine wpAnyH_take (i := 2) (oi := ({ dst := some 36, op := Op.fieldAddr 80 (Operand.tmp 35) 3, type := 0, pos := "scanner.go:43", after := #[{ on := 1, ground := Ground.data }], guard := none } : Oper)) (v := ?_) rfl (by kernel_rfl) (by kernel_rfl) (by kernel_rfl) (fun _ _ _ h => h) (Or.inl ⟨by rfl, ?_⟩) hS ?_
          rotate_left
          · (intro w hSw; (try dsimp only at hSw); go_simp; try with_reducible rfl)
          (try simp only [Act.put, List.setIfInBounds_toArray, List.set_cons_zero, List.set_cons_succ])
          refine wpAnyH_take (i := 3) (oi := ({ dst := some 37, op := Op.load 78 (Operand.tmp 36), type := 78, pos := "scanner.go:43", after := #[{ on := 2, ground := Ground.data }], guard := none } : Oper)) (v := ?_) rfl (by kernel_rfl) (by kernel_rfl) (by kernel_rfl) (fun _ _ _ h => h) (Or.inl ⟨by rfl, ?_⟩) hS ?_
          rotate_left
          · (intro w hSw; (try dsimp only at hSw); go_simp; try with_reducible rfl)
          (try simp only [Act.put, List.setIfInBounds_toArray, List.set_cons_zero, List.set_cons_succ])
          refine wpAnyH_take (i := 4) (oi := ({ dst := some 38, op := Op.load 70 (Operand.tmp 4), type := 70, pos := "scanner.go:43", after := #[], guard := none } : Oper)) (v := ?_) rfl (by kernel_rfl) (by kernel_rfl) (by kernel_rfl) (fun _ _ _ h => h) (Or.inl ⟨by rfl, ?_⟩) hS ?_
          rotate_left
          · (intro w hSw; (try dsimp only at hSw); refine exec_load_fr (.tmp 4) ?_ ?_ hSw.2 <;> rfl)
          (try simp only [Act.put, List.setIfInBounds_toArray, List.set_cons_zero, List.set_cons_succ])
          refine rg_one 5 ({ dst := some 39, op := Op.call { callee := Callee.value (Operand.func 50), args := #[Operand.tmp 37, Operand.tmp 38], argTypes := #[78, 70] }, type := 108, pos := "scanner.go:43", after := #[{ on := 3, ground := Ground.data }, { on := 4, ground := Ground.data }], guard := none } : Oper) (by kernel_rfl) rfl (fun K hK => ?_)
          go_simp
          (go_at_call 50; (refine (HFD.out _ x2 c2 HC5.out.below HC5.out.jn (fun w' k => RI.own (HC5.out.jn.oth k HO5.out (by decide) HNE.out))).mono ?_); rintro r w6 ⟨u, v6, rfl, hj6, ho6, hl6, hl7, hk6⟩; obtain ⟨ua, uc, rfl⟩ := own_form ho6; have HC6 := Lib.hid (HC5.out.feed hj6 hl7 hk6); have HF6 := Lib.hid (HC5.out.jn.oth_blk hk6 HF5.out (by decide) (by decide)); have HO6 := Lib.hid ho6; have hN := And.intro HC6.out.blk.cells.2.2.2.1 HF6.out; clear hj6 ho6 hl6 hl7 hk6)
          refine hK.out _ _ ?_ (fun hS1 => ?_)
          · (first | exact hN | exact hS)
          clear hK K hS; have hS := hS1; clear hS1
          (try simp only [Act.put, List.setIfInBounds_toArray, List.set_cons_zero, List.set_cons_succ])
          refine wpAnyH_take (i := 6) (oi := ({ dst := some 33, op := Op.move (Operand.tmp 39), type := 108, pos := "scanner.go:43", after := #[{ on := 5, ground := Ground.data }], guard := none } : Oper)) (v := ?_) rfl (by kernel_rfl) (by kernel_rfl) (by kernel_rfl) (fun _ _ _ h => h) (Or.inl ⟨by rfl, ?_⟩) hS ?_
          rotate_left
          · (intro w hSw; (try dsimp only at hSw); go_simp; try with_reducible rfl)
          (try simp only [Act.put, List.setIfInBounds_toArray, List.set_cons_zero, List.set_cons_succ])
          refine wpAnyH_take (i := 7) (oi := ({ dst := some 40, op := Op.extract (Operand.tmp 33) 0, type := 43, pos := "scanner.go:43", after := #[{ on := 6, ground := Ground.data }], guard := none } : Oper)) (v := ?_) rfl (by kernel_rfl) (by kernel_rfl) (by kernel_rfl) (fun _ _ _ h => h) (Or.inl ⟨by rfl, ?_⟩) hS ?_
          rotate_left
          · (intro w hSw; (try dsimp only at hSw); go_simp; try with_reducible rfl)
          (try simp only [Act.put, List.setIfInBounds_toArray, List.set_cons_zero, List.set_cons_succ])
          refine wpAnyH_take (i := 8) (oi := ({ dst := some 41, op := Op.extract (Operand.tmp 33) 1, type := 4, pos := "scanner.go:43", after := #[{ on := 6, ground := Ground.data }, { on := 10, ground := Ground.gcOnly Departure.lateStores }], guard := none } : Oper)) (v := ?_) rfl (by kernel_rfl) (by kernel_rfl) (by kernel_rfl) (fun _ _ _ h => h) (Or.inl ⟨by rfl, ?_⟩) hS ?_
          rotate_left
          · (intro w hSw; (try dsimp only at hSw); go_simp; try with_reducible rfl)
          (try simp only [Act.put, List.setIfInBounds_toArray, List.set_cons_zero, List.set_cons_succ])
          refine wpAnyH_take (i := 9) (oi := ({ dst := some 42, op := Op.extract (Operand.tmp 33) 2, type := 86, pos := "scanner.go:43", after := #[{ on := 6, ground := Ground.data }, { on := 11, ground := Ground.gcOnly Departure.lateStores }], guard := none } : Oper)) (v := ?_) rfl (by kernel_rfl) (by kernel_rfl) (by kernel_rfl) (fun _ _ _ h => h) (Or.inl ⟨by rfl, ?_⟩) hS ?_
          rotate_left
          · (intro w hSw; (try dsimp only at hSw); go_simp; try with_reducible rfl)
          (try simp only [Act.put, List.setIfInBounds_toArray, List.set_cons_zero, List.set_cons_succ])
          refine wpAnyH_take (i := 10) (oi := ({ dst := some 7, op := Op.assign (Operand.tmp 40), type := 43, pos := "scanner.go:43", after := #[{ on := 7, ground := Ground.data }, { on := 5, ground := Ground.chain }, { on := 0, ground := Ground.phase }, { on := 1, ground := Ground.phase }, { on := 2, ground := Ground.phase }, { on := 3, ground := Ground.phase }, { on := 4, ground := Ground.phase }, { on := 5, ground := Ground.phase }, { on := 6, ground := Ground.phase }, { on := 7, ground := Ground.phase }, { on := 8, ground := Ground.textOnly Departure.lateStores }, { on := 9, ground := Ground.textOnly Departure.lateStores }], guard := none } : Oper)) (v := ?_) rfl (by kernel_rfl) (by kernel_rfl) (by kernel_rfl) (fun _ _ _ h => h) (Or.inl ⟨by rfl, ?_⟩) hS ?_
          rotate_left
          · (intro w hSw; (try dsimp only at hSw); go_simp; try with_reducible rfl)
          (try simp only [Act.put, List.setIfInBounds_toArray, List.set_cons_zero, List.set_cons_succ])
          refine wpAnyH_take (i := 11) (oi := ({ dst := some 8, op := Op.assign (Operand.tmp 41), type := 4, pos := "scanner.go:43", after := #[{ on := 8, ground := Ground.data }, { on := 10, ground := Ground.chain }, { on := 0, ground := Ground.phase }, { on := 1, ground := Ground.phase }, { on := 2, ground := Ground.phase }, { on := 3, ground := Ground.phase }, { on := 4, ground := Ground.phase }, { on := 5, ground := Ground.phase }, { on := 6, ground := Ground.phase }, { on := 7, ground := Ground.phase }, { on := 8, ground := Ground.phase }, { on := 9, ground := Ground.textOnly Departure.lateStores }, { on := 10, ground := Ground.phase }], guard := none } : Oper)) (v := ?_) rfl (by kernel_rfl) (by kernel_rfl) (by kernel_rfl) (fun _ _ _ h => h) (Or.inl ⟨by rfl, ?_⟩) hS ?_
          rotate_left
          · (intro w hSw; (try dsimp only at hSw); go_simp; try with_reducible rfl)
          (try simp only [Act.put, List.setIfInBounds_toArray, List.set_cons_zero, List.set_cons_succ])
          refine wpAnyH_take (i := 12) (oi := ({ dst := some 9, op := Op.assign (Operand.tmp 42), type := 86, pos := "scanner.go:43", after := #[{ on := 9, ground := Ground.data }, { on := 11, ground := Ground.chain }, { on := 0, ground := Ground.phase }, { on := 1, ground := Ground.phase }, { on := 2, ground := Ground.phase }, { on := 3, ground := Ground.phase }, { on := 4, ground := Ground.phase }, { on := 5, ground := Ground.phase }, { on := 6, ground := Ground.phase }, { on := 7, ground := Ground.phase }, { on := 8, ground := Ground.phase }, { on := 9, ground := Ground.phase }, { on := 10, ground := Ground.phase }, { on := 11, ground := Ground.phase }], guard := none } : Oper)) (v := ?_) rfl (by kernel_rfl) (by kernel_rfl) (by kernel_rfl) (fun _ _ _ h => h) (Or.inl ⟨by rfl, ?_⟩) hS ?_
          rotate_left
          · (intro w hSw; (try dsimp only at hSw); go_simp; try with_reducible rfl)
          (try simp only [Act.put, List.setIfInBounds_toArray, List.set_cons_zero, List.set_cons_succ])
          refine wpAnyH_done (by kernel_rfl) ?_ _
          clear hS hN HC5 HF5 HO5 HF6 HNE HFD
          obtain ⟨_, _, _, _, y4, _⟩ := HC6.out.blk.cells
          have f4 := HC6.out.blk.frozen 4
          obtain ⟨w7, hw7⟩ : ∃ q, w6.setCell ⟨sb, 4, none⟩ (.int .i64 (t : Int)) = q := ⟨_, rfl⟩
          have HC7 := Lib.hid (show SC W w7 sb jb ep bv kv t first fin g6 h6 v6 rv es pv places from by rw [← hw7]; exact HC6.out.set4 t)
          go_wp2
          go_ret
          exact .inl ⟨_, HNX.out, rfl, v6, rv, es, pv, HC7.out, HES.out⟩
        | false =>
          rw [if_neg (by decide)] at HNX2
          have HNX := Lib.hid HNX2
          clear HNX2
          have z4 := HC.out.blk.cells.2.2.2.2.1
          go_enter Tryd.func27, Tryd.ntmps27
          go_wp2_with (first
            | (go_at_call 47; (with_reducible refine (HBG.out _).mono ?_); rintro r w1 ⟨rfl, hb⟩; have HC1 := Lib.hid (HC.out.keep hb); clear hb)
            | (go_at_call 48; (refine (HFR.out _ HC1.out.blk HC1.out.below).mono ?_); rintro r w2 ⟨x2, c2, rfl, ho, hb⟩; have HC2 := Lib.hid (HC1.out.keep hb); have HO2 := Lib.hid ho; have HNE : Hid (∀ g, (Value.slice x2 d.length c2).ownBlock = some g → some g ≠ hv.ownBlock) := Lib.hid (fun g hg e => by have h1 := (HO2.out.lt g hg).1; have h2 := (HC1.out.jn.row.lt g e.symm).2; omega); clear ho hb)
            | (refine wpl_put_fr rfl (.tmp 4) (.tmp 19) rfl w2.heap.size (FO.alloc w2) k e x2 d.length c2 rfl rfl ?_; intro w3 HF3 HG3; have hb3 : Below w2.heap.size w2 w3 := below_over (balloc w2 _) HG3.out (Nat.le_refl _) (balloc w2 _).size; have HC3 := Lib.hid (HC2.out.keep hb3); have HO3 := Lib.hid (own_keep HO2.out hb3); clear hb3; have z3 := HC3.out.blk.cells.2.2.2.1; have z5 := HC3.out.blk.cells.2.2.2.2.2.1; have f5 := HC3.out.blk.frozen 5; obtain ⟨w4, hw4⟩ : ∃ q, w3.setCell ⟨sb, 5, none⟩ (.int .i64 (a : Int)) = q := ⟨_, rfl⟩; have HC4 := Lib.hid (show SC W w4 sb jb ep bv kv at0 a fin false h hv rv es pv places from by rw [← hw4]; exact HC3.out.set5 a); have HG4 := Lib.hid (show w3.grownBy w4 (some sb) from by rw [← hw4]; exact grown_store _ _ _ _); have HF4 := Lib.hid (HF3.out.over HG4.out (Nat.ne_of_gt HC2.out.blk.lt)); have HO4 := Lib.hid (own_over HO3.out HG4.out (fun q hq e => HC3.out.blk.ne_own HO3.out (by decide) q hq (Option.some.inj e))))
            | (go_at_call 49; (with_reducible refine (idle_any false _ jb _ HC3.out.jn.blk).mono ?_); rintro r w9 ⟨rfl, rfl⟩))
          have HC5 := Lib.hid (HC4.out.keep (Below.refl _ w4).drew)
          have HF5 := Lib.hid (HF4.out.keep (Below.refl _ w4).drew)
          have HO5 := Lib.hid (own_keep HO4.out (Below.refl _ w4).drew)
          clear z3 z4 HC3 HF3 HO3 HC1 HC2 HO2 HBG HFR
          clear z5 f5
          (try go_wp2_with fail)
          refine wp_region_held_drew (S := (fun w' => w'.cell? ⟨sb, 3, none⟩ = some (.pointer (some ⟨jb, 0, none⟩)) ∧ FO w' w2.heap.size k e (.slice x2 d.length c2))) (by kernel_rfl) ⟨HC5.out.blk.cells.2.2.2.1, HF5.out⟩ (fun hS => ?_)
          refine wpAnyH_take (i := 0) (oi := ({ dst := some 34, op := Op.move (Operand.tmp 0), type := 75, pos := "scanner.go:43", after := #[], guard := none } : Oper)) (v := ?_) rfl (by kernel_rfl) (by kernel_rfl) (by kernel_rfl) (fun _ _ _ h => h) (Or.inl ⟨by rfl, ?_⟩) hS ?_
          rotate_left
          · (intro w hSw; (try dsimp only at hSw); go_simp; try with_reducible rfl)
          (try simp only [Act.put, List.setIfInBounds_toArray, List.set_cons_zero, List.set_cons_succ])
          refine wpAnyH_take (i := 1) (oi := ({ dst := some 35, op := Op.nilCheck (Operand.tmp 34), type := 0, pos := "scanner.go:43", after := #[{ on := 0, ground := Ground.data }], guard := none } : Oper)) (v := ?_) rfl (by kernel_rfl) (by kernel_rfl) (by kernel_rfl) (fun _ _ _ h => h) (Or.inl ⟨by rfl, ?_⟩) hS ?_
          rotate_left
          · (intro w hSw; (try dsimp only at hSw); go_simp; try with_reducible rfl)
          (try simp only [Act.put, List.setIfInBounds_toArray, List.set_cons_zero, List.set_cons_succ])
          refine wpAnyH_take (i := 2) (oi := ({ dst := some 36, op := Op.fieldAddr 80 (Operand.tmp 35) 3, type := 0, pos := "scanner.go:43", after := #[{ on := 1, ground := Ground.data }], guard := none } : Oper)) (v := ?_) rfl (by kernel_rfl) (by kernel_rfl) (by kernel_rfl) (fun _ _ _ h => h) (Or.inl ⟨by rfl, ?_⟩) hS ?_
          rotate_left
          · (intro w hSw; (try dsimp only at hSw); go_simp; try with_reducible rfl)
          (try simp only [Act.put, List.setIfInBounds_toArray, List.set_cons_zero, List.set_cons_succ])
          refine wpAnyH_take (i := 3) (oi := ({ dst := some 37, op := Op.load 78 (Operand.tmp 36), type := 78, pos := "scanner.go:43", after := #[{ on := 2, ground := Ground.data }], guard := none } : Oper)) (v := ?_) rfl (by kernel_rfl) (by kernel_rfl) (by kernel_rfl) (fun _ _ _ h => h) (Or.inl ⟨by rfl, ?_⟩) hS ?_
          rotate_left
          · (intro w hSw; (try dsimp only at hSw); go_simp; try with_reducible rfl)
          (try simp only [Act.put, List.setIfInBounds_toArray, List.set_cons_zero, List.set_cons_succ])
          refine wpAnyH_take (i := 4) (oi := ({ dst := some 38, op := Op.load 70 (Operand.tmp 4), type := 70, pos := "scanner.go:43", after := #[], guard := none } : Oper)) (v := ?_) rfl (by kernel_rfl) (by kernel_rfl) (by kernel_rfl) (fun _ _ _ h => h) (Or.inl ⟨by rfl, ?_⟩) hS ?_
          rotate_left
          · (intro w hSw; (try dsimp only at hSw); refine exec_load_fr (.tmp 4) ?_ ?_ hSw.2 <;> rfl)
          (try simp only [Act.put, List.setIfInBounds_toArray, List.set_cons_zero, List.set_cons_succ])
          refine rg_one 5 ({ dst := some 39, op := Op.call { callee := Callee.value (Operand.func 50), args := #[Operand.tmp 37, Operand.tmp 38], argTypes := #[78, 70] }, type := 108, pos := "scanner.go:43", after := #[{ on := 3, ground := Ground.data }, { on := 4, ground := Ground.data }], guard := none } : Oper) (by kernel_rfl) rfl (fun K hK => ?_)
          go_simp
          (go_at_call 50; (refine (HFD.out _ x2 c2 HC5.out.below HC5.out.jn (fun w' k => RI.own (HC5.out.jn.oth k HO5.out (by decide) HNE.out))).mono ?_); rintro r w6 ⟨u, v6, rfl, hj6, ho6, hl6, hl7, hk6⟩; obtain ⟨ua, uc, rfl⟩ := own_form ho6; have HC6 := Lib.hid (HC5.out.feed hj6 hl7 hk6); have HF6 := Lib.hid (HC5.out.jn.oth_blk hk6 HF5.out (by decide) (by decide)); have HO6 := Lib.hid ho6; have hN := And.intro HC6.out.blk.cells.2.2.2.1 HF6.out; clear hj6 ho6 hl6 hl7 hk6)
          refine hK.out _ _ ?_ (fun hS1 => ?_)
          · (first | exact hN | exact hS)
          clear hK K hS; have hS := hS1; clear hS1
          (try simp only [Act.put, List.setIfInBounds_toArray, List.set_cons_zero, List.set_cons_succ])
          refine wpAnyH_take (i := 6) (oi := ({ dst := some 33, op := Op.move (Operand.tmp 39), type := 108, pos := "scanner.go:43", after := #[{ on := 5, ground := Ground.data }], guard := none } : Oper)) (v := ?_) rfl (by kernel_rfl) (by kernel_rfl) (by kernel_rfl) (fun _ _ _ h => h) (Or.inl ⟨by rfl, ?_⟩) hS ?_
          rotate_left
          · (intro w hSw; (try dsimp only at hSw); go_simp; try with_reducible rfl)
          (try simp only [Act.put, List.setIfInBounds_toArray, List.set_cons_zero, List.set_cons_succ])
          refine wpAnyH_take (i := 7) (oi := ({ dst := some 40, op := Op.extract (Operand.tmp 33) 0, type := 43, pos := "scanner.go:43", after := #[{ on := 6, ground := Ground.data }], guard := none } : Oper)) (v := ?_) rfl (by kernel_rfl) (by kernel_rfl) (by kernel_rfl) (fun _ _ _ h => h) (Or.inl ⟨by rfl, ?_⟩) hS ?_
          rotate_left
          · (intro w hSw; (try dsimp only at hSw); go_simp; try with_reducible rfl)
          (try simp only [Act.put, List.setIfInBounds_toArray, List.set_cons_zero, List.set_cons_succ])
          refine wpAnyH_take (i := 8) (oi := ({ dst := some 41, op := Op.extract (Operand.tmp 33) 1, type := 4, pos := "scanner.go:43", after := #[{ on := 6, ground := Ground.data }, { on := 10, ground := Ground.gcOnly Departure.lateStores }], guard := none } : Oper)) (v := ?_) rfl (by kernel_rfl) (by kernel_rfl) (by kernel_rfl) (fun _ _ _ h => h) (Or.inl ⟨by rfl, ?_⟩) hS ?_
          rotate_left
          · (intro w hSw; (try dsimp only at hSw); go_simp; try with_reducible rfl)
          (try simp only [Act.put, List.setIfInBounds_toArray, List.set_cons_zero, List.set_cons_succ])
          refine wpAnyH_take (i := 9) (oi := ({ dst := some 42, op := Op.extract (Operand.tmp 33) 2, type := 86, pos := "scanner.go:43", after := #[{ on := 6, ground := Ground.data }, { on := 11, ground := Ground.gcOnly Departure.lateStores }], guard := none } : Oper)) (v := ?_) rfl (by kernel_rfl) (by kernel_rfl) (by kernel_rfl) (fun _ _ _ h => h) (Or.inl ⟨by rfl, ?_⟩) hS ?_
          rotate_left
          · (intro w hSw; (try dsimp only at hSw); go_simp; try with_reducible rfl)
          (try simp only [Act.put, List.setIfInBounds_toArray, List.set_cons_zero, List.set_cons_succ])
          refine wpAnyH_take (i := 10) (oi := ({ dst := some 7, op := Op.assign (Operand.tmp 40), type := 43, pos := "scanner.go:43", after := #[{ on := 7, ground := Ground.data }, { on := 5, ground := Ground.chain }, { on := 0, ground := Ground.phase }, { on := 1, ground := Ground.phase }, { on := 2, ground := Ground.phase }, { on := 3, ground := Ground.phase }, { on := 4, ground := Ground.phase }, { on := 5, ground := Ground.phase }, { on := 6, ground := Ground.phase }, { on := 7, ground := Ground.phase }, { on := 8, ground := Ground.textOnly Departure.lateStores }, { on := 9, ground := Ground.textOnly Departure.lateStores }], guard := none } : Oper)) (v := ?_) rfl (by kernel_rfl) (by kernel_rfl) (by kernel_rfl) (fun _ _ _ h => h) (Or.inl ⟨by rfl, ?_⟩) hS ?_
          rotate_left
          · (intro w hSw; (try dsimp only at hSw); go_simp; try with_reducible rfl)
          (try simp only [Act.put, List.setIfInBounds_toArray, List.set_cons_zero, List.set_cons_succ])
          refine wpAnyH_take (i := 11) (oi := ({ dst := some 8, op := Op.assign (Operand.tmp 41), type := 4, pos := "scanner.go:43", after := #[{ on := 8, ground := Ground.data }, { on := 10, ground := Ground.chain }, { on := 0, ground := Ground.phase }, { on := 1, ground := Ground.phase }, { on := 2, ground := Ground.phase }, { on := 3, ground := Ground.phase }, { on := 4, ground := Ground.phase }, { on := 5, ground := Ground.phase }, { on := 6, ground := Ground.phase }, { on := 7, ground := Ground.phase }, { on := 8, ground := Ground.phase }, { on := 9, ground := Ground.textOnly Departure.lateStores }, { on := 10, ground := Ground.phase }], guard := none } : Oper)) (v := ?_) rfl (by kernel_rfl) (by kernel_rfl) (by kernel_rfl) (fun _ _ _ h => h) (Or.inl ⟨by rfl, ?_⟩) hS ?_
          rotate_left
          · (intro w hSw; (try dsimp only at hSw); go_simp; try with_reducible rfl)
          (try simp only [Act.put, List.setIfInBounds_toArray, List.set_cons_zero, List.set_cons_succ])
          refine wpAnyH_take (i := 12) (oi := ({ dst := some 9, op := Op.assign (Operand.tmp 42), type := 86, pos := "scanner.go:43", after := #[{ on := 9, ground := Ground.data }, { on := 11, ground := Ground.chain }, { on := 0, ground := Ground.phase }, { on := 1, ground := Ground.phase }, { on := 2, ground := Ground.phase }, { on := 3, ground := Ground.phase }, { on := 4, ground := Ground.phase }, { on := 5, ground := Ground.phase }, { on := 6, ground := Ground.phase }, { on := 7, ground := Ground.phase }, { on := 8, ground := Ground.phase }, { on := 9, ground := Ground.phase }, { on := 10, ground := Ground.phase }, { on := 11, ground := Ground.phase }], guard := none } : Oper)) (v := ?_) rfl (by kernel_rfl) (by kernel_rfl) (by kernel_rfl) (fun _ _ _ h => h) (Or.inl ⟨by rfl, ?_⟩) hS ?_
          rotate_left
          · (intro w hSw; (try dsimp only at hSw); go_simp; try with_reducible rfl)
          (try simp only [Act.put, List.setIfInBounds_toArray, List.set_cons_zero, List.set_cons_succ])
          refine wpAnyH_done (by kernel_rfl) ?_ _
          clear hS hN HC5 HF5 HO5 HF6 HNE HFD
          obtain ⟨_, _, _, _, y4, _⟩ := HC6.out.blk.cells
          have f4 := HC6.out.blk.frozen 4
          obtain ⟨w7, hw7⟩ : ∃ q, w6.setCell ⟨sb, 4, none⟩ (.int .i64 (t : Int)) = q := ⟨_, rfl⟩
          have HC7 := Lib.hid (show SC W w7 sb jb ep bv kv t a fin g6 h6 v6 rv es pv places from by rw [← hw7]; exact HC6.out.set4 t)
          go_wp2
          go_ret
          exact .inl ⟨_, HNX.out, rfl, v6, rv, es, pv, HC7.out, HES.out⟩
    · have HNX := Lib.hid (HNXF (.inr her))
      have hne : (jErr o h k d != 0) = true := by simpa using her
      clear HNXF HNXT HSE HSG HFA hF hsz hm hc hs hT hB hBb hbv hk hes0 hrv hroom hfew hesl hGE her ht ham
      generalize jErr o h k d = er at *
      generalize jEnds o h k d = en at *
      generalize jGoes o h k d = g6 at *
      generalize jHad o h k d = h6 at *
      generalize jTell o h k d = t6 at *
      have HFD := Lib.hid HFD
      cases o with
      | true =>
        have z4 := HC.out.blk.cells.2.2.2.2.1
        go_enter Tryd.func27, Tryd.ntmps27
        go_wp2_with (first
          | (go_at_call 47; (with_reducible refine (HBG.out _).mono ?_); rintro r w1 ⟨rfl, hb⟩; have HC1 := Lib.hid (HC.out.keep hb); clear hb)
          | (go_at_call 48; (refine (HFR.out _ HC1.out.blk HC1.out.below).mono ?_); rintro r w2 ⟨x2, c2, rfl, ho, hb⟩; have HC2 := Lib.hid (HC1.out.keep hb); have HO2 := Lib.hid ho; have HNE : Hid (∀ g, (Value.slice x2 d.length c2).ownBlock = some g → some g ≠ hv.ownBlock) := Lib.hid (fun g hg e => by have h1 := (HO2.out.lt g hg).1; have h2 := (HC1.out.jn.row.lt g e.symm).2; omega); clear ho hb)
          | (refine wpl_put_fr rfl (.tmp 4) (.tmp 19) rfl w2.heap.size (FO.alloc w2) k e x2 d.length c2 rfl rfl ?_; intro w3 HF3 HG3; have hb3 : Below w2.heap.size w2 w3 := below_over (balloc w2 _) HG3.out (Nat.le_refl _) (balloc w2 _).size; have HC3 := Lib.hid (HC2.out.keep hb3); have HO3 := Lib.hid (own_keep HO2.out hb3); clear hb3; have z3 := HC3.out.blk.cells.2.2.2.1; have HC4 := HC3; have HF4 := HF3; have HO4 := HO3)
          | (go_at_call 49; (with_reducible refine (idle_any true _ jb _ HC3.out.jn.blk).mono ?_); rintro r w9 ⟨rfl, rfl⟩))
        have HC5 := Lib.hid (HC4.out.keep (Below.refl _ w3).drew)
        have HF5 := Lib.hid (HF4.out.keep (Below.refl _ w3).drew)
        have HO5 := Lib.hid (own_keep HO4.out (Below.refl _ w3).drew)
        clear z3 z4 HC3 HF3 HO3 HC1 HC2 HO2 HBG HFR
        (try go_wp2_with fail)
        refine wp_region_held_drew (S := (fun w' => w'.cell? ⟨sb, 3, none⟩ = some (.pointer (some ⟨jb, 0, none⟩)) ∧ FO w' w2.heap.size k e (.slice x2 d.length c2))) (by kernel_rfl) ⟨HC5.out.blk.cells.2.2.2.1, HF5.out⟩ (fun hS => ?_)
        refine wpAnyH_take (i := 0) (oi := ({ dst := some 34, op := Op.move (Operand.tmp 0), type := 75, pos := "scanner.go:43", after := #[], guard := none } : Oper)) (v := ?_) rfl (by kernel_rfl) (by kernel_rfl) (by kernel_rfl) (fun _ _ _ h => h) (Or.inl ⟨by rfl, ?_⟩) hS ?_
        rotate_left
        · (intro w hSw; (try dsimp only at hSw); go_simp; try with_reducible rfl)
        (try simp only [Act.put, List.setIfInBounds_toArray, List.set_cons_zero, List.set_cons_succ])
        refine wpAnyH_take (i := 1) (oi := ({ dst := some 35, op := Op.nilCheck (Operand.tmp 34), type := 0, pos := "scanner.go:43", after := #[{ on := 0, ground := Ground.data }], guard := none } : Oper)) (v := ?_) rfl (by kernel_rfl) (by kernel_rfl) (by kernel_rfl) (fun _ _ _ h => h) (Or.inl ⟨by rfl, ?_⟩) hS ?_
        rotate_left
        · (intro w hSw; (try dsimp only at hSw); go_simp; try with_reducible rfl)
        (try simp only [Act.put, List.setIfInBounds_toArray, List.set_cons_zero, List.set_cons_succ])
        refine wpAnyH_take (i := 2) (oi := ({ dst := some 36, op := Op.fieldAddr 80 (Operand.tmp 35) 3, type := 0, pos := "scanner.go:43", after := #[{ on := 1, ground := Ground.data }], guard := none } : Oper)) (v := ?_) rfl (by kernel_rfl) (by kernel_rfl) (by kernel_rfl) (fun _ _ _ h => h) (Or.inl ⟨by rfl, ?_⟩) hS ?_
        rotate_left
        · (intro w hSw; (try dsimp only at hSw); go_simp; try with_reducible rfl)
        (try simp only [Act.put, List.setIfInBounds_toArray, List.set_cons_zero, List.set_cons_succ])
        refine wpAnyH_take (i := 3) (oi := ({ dst := some 37, op := Op.load 78 (Operand.tmp 36), type := 78, pos := "scanner.go:43", after := #[{ on := 2, ground := Ground.data }], guard := none } : Oper)) (v := ?_) rfl (by kernel_rfl) (by kernel_rfl) (by kernel_rfl) (fun _ _ _ h => h) (Or.inl ⟨by rfl, ?_⟩) hS ?_
        rotate_left
        · (intro w hSw; (try dsimp only at hSw); go_simp; try with_reducible rfl)
        (try simp only [Act.put, List.setIfInBounds_toArray, List.set_cons_zero, List.set_cons_succ])
        refine wpAnyH_take (i := 4) (oi := ({ dst := some 38, op := Op.load 70 (Operand.tmp 4), type := 70, pos := "scanner.go:43", after := #[], guard := none } : Oper)) (v := ?_) rfl (by kernel_rfl) (by kernel_rfl) (by kernel_rfl) (fun _ _ _ h => h) (Or.inl ⟨by rfl, ?_⟩) hS ?_
        rotate_left
        · (intro w hSw; (try dsimp only at hSw); refine exec_load_fr (.tmp 4) ?_ ?_ hSw.2 <;> rfl)
        (try simp only [Act.put, List.setIfInBounds_toArray, List.set_cons_zero, List.set_cons_succ])
        refine rg_one 5 ({ dst := some 39, op := Op.call { callee := Callee.value (Operand.func 50), args := #[Operand.tmp 37, Operand.tmp 38], argTypes := #[78, 70] }, type := 108, pos := "scanner.go:43", after := #[{ on := 3, ground := Ground.data }, { on := 4, ground := Ground.data }], guard := none } : Oper) (by kernel_rfl) rfl (fun K hK => ?_)
        go_simp
        (go_at_call 50; (refine (HFD.out _ x2 c2 HC5.out.below HC5.out.jn (fun w' k => RI.own (HC5.out.jn.oth k HO5.out (by decide) HNE.out))).mono ?_); rintro r w6 ⟨u, v6, rfl, hj6, ho6, hl6, hl7, hk6⟩; obtain ⟨ua, uc, rfl⟩ := own_form ho6; have HC6 := Lib.hid (HC5.out.feed hj6 hl7 hk6); have HF6 := Lib.hid (HC5.out.jn.oth_blk hk6 HF5.out (by decide) (by decide)); have HO6 := Lib.hid ho6; have hN := And.intro HC6.out.blk.cells.2.2.2.1 HF6.out; clear hj6 ho6 hl6 hl7 hk6)
        refine hK.out _ _ ?_ (fun hS1 => ?_)
        · (first | exact hN | exact hS)
        clear hK K hS; have hS := hS1; clear hS1
        (try simp only [Act.put, List.setIfInBounds_toArray, List.set_cons_zero, List.set_cons_succ])
        refine wpAnyH_take (i := 6) (oi := ({ dst := some 33, op := Op.move (Operand.tmp 39), type := 108, pos := "scanner.go:43", after := #[{ on := 5, ground := Ground.data }], guard := none } : Oper)) (v := ?_) rfl (by kernel_rfl) (by kernel_rfl) (by kernel_rfl) (fun _ _ _ h => h) (Or.inl ⟨by rfl, ?_⟩) hS ?_
        rotate_left
        · (intro w hSw; (try dsimp only at hSw); go_simp; try with_reducible rfl)
        (try simp only [Act.put, List.setIfInBounds_toArray, List.set_cons_zero, List.set_cons_succ])
        refine wpAnyH_take (i := 7) (oi := ({ dst := some 40, op := Op.extract (Operand.tmp 33) 0, type := 43, pos := "scanner.go:43", after := #[{ on := 6, ground := Ground.data }], guard := none } : Oper)) (v := ?_) rfl (by kernel_rfl) (by kernel_rfl) (by kernel_rfl) (fun _ _ _ h => h) (Or.inl ⟨by rfl, ?_⟩) hS ?_
        rotate_left
        · (intro w hSw; (try dsimp only at hSw); go_simp; try with_reducible rfl)
        (try simp only [Act.put, List.setIfInBounds_toArray, List.set_cons_zero, List.set_cons_succ])
        refine wpAnyH_take (i := 8) (oi := ({ dst := some 41, op := Op.extract (Operand.tmp 33) 1, type := 4, pos := "scanner.go:43", after := #[{ on := 6, ground := Ground.data }, { on := 10, ground := Ground.gcOnly Departure.lateStores }], guard := none } : Oper)) (v := ?_) rfl (by kernel_rfl) (by kernel_rfl) (by kernel_rfl) (fun _ _ _ h => h) (Or.inl ⟨by rfl, ?_⟩) hS ?_
        rotate_left
        · (intro w hSw; (try dsimp only at hSw); go_simp; try with_reducible rfl)
        (try simp only [Act.put, List.setIfInBounds_toArray, List.set_cons_zero, List.set_cons_succ])
        refine wpAnyH_take (i := 9) (oi := ({ dst := some 42, op := Op.extract (Operand.tmp 33) 2, type := 86, pos := "scanner.go:43", after := #[{ on := 6, ground := Ground.data }, { on := 11, ground := Ground.gcOnly Departure.lateStores }], guard := none } : Oper)) (v := ?_) rfl (by kernel_rfl) (by kernel_rfl) (by kernel_rfl) (fun _ _ _ h => h) (Or.inl ⟨by rfl, ?_⟩) hS ?_
        rotate_left
        · (intro w hSw; (try dsimp only at hSw); go_simp; try with_reducible rfl)
        (try simp only [Act.put, List.setIfInBounds_toArray, List.set_cons_zero, List.set_cons_succ])
        refine wpAnyH_take (i := 10) (oi := ({ dst := some 7, op := Op.assign (Operand.tmp 40), type := 43, pos := "scanner.go:43", after := #[{ on := 7, ground := Ground.data }, { on := 5, ground := Ground.chain }, { on := 0, ground := Ground.phase }, { on := 1, ground := Ground.phase }, { on := 2, ground := Ground.phase }, { on := 3, ground := Ground.phase }, { on := 4, ground := Ground.phase }, { on := 5, ground := Ground.phase }, { on := 6, ground := Ground.phase }, { on := 7, ground := Ground.phase }, { on := 8, ground := Ground.textOnly Departure.lateStores }, { on := 9, ground := Ground.textOnly Departure.lateStores }], guard := none } : Oper)) (v := ?_) rfl (by kernel_rfl) (by kernel_rfl) (by kernel_rfl) (fun _ _ _ h => h) (Or.inl ⟨by rfl, ?_⟩) hS ?_
        rotate_left
        · (intro w hSw; (try dsimp only at hSw); go_simp; try with_reducible rfl)
        (try simp only [Act.put, List.setIfInBounds_toArray, List.set_cons_zero, List.set_cons_succ])
        refine wpAnyH_take (i := 11) (oi := ({ dst := some 8, op := Op.assign (Operand.tmp 41), type := 4, pos := "scanner.go:43", after := #[{ on := 8, ground := Ground.data }, { on := 10, ground := Ground.chain }, { on := 0, ground := Ground.phase }, { on := 1, ground := Ground.phase }, { on := 2, ground := Ground.phase }, { on := 3, ground := Ground.phase }, { on := 4, ground := Ground.phase }, { on := 5, ground := Ground.phase }, { on := 6, ground := Ground.phase }, { on := 7, ground := Ground.phase }, { on := 8, ground := Ground.phase }, { on := 9, ground := Ground.textOnly Departure.lateStores }, { on := 10, ground := Ground.phase }], guard := none } : Oper)) (v := ?_) rfl (by kernel_rfl) (by kernel_rfl) (by kernel_rfl) (fun _ _ _ h => h) (Or.inl ⟨by rfl, ?_⟩) hS ?_
        rotate_left
        · (intro w hSw; (try dsimp only at hSw); go_simp; try with_reducible rfl)
        (try simp only [Act.put, List.setIfInBounds_toArray, List.set_cons_zero, List.set_cons_succ])
        refine wpAnyH_take (i := 12) (oi := ({ dst := some 9, op := Op.assign (Operand.tmp 42), type := 86, pos := "scanner.go:43", after := #[{ on := 9, ground := Ground.data }, { on := 11, ground := Ground.chain }, { on := 0, ground := Ground.phase }, { on := 1, ground := Ground.phase }, { on := 2, ground := Ground.phase }, { on := 3, ground := Ground.phase }, { on := 4, ground := Ground.phase }, { on := 5, ground := Ground.phase }, { on := 6, ground := Ground.phase }, { on := 7, ground := Ground.phase }, { on := 8, ground := Ground.phase }, { on := 9, ground := Ground.phase }, { on := 10, ground := Ground.phase }, { on := 11, ground := Ground.phase }], guard := none } : Oper)) (v := ?_) rfl (by kernel_rfl) (by kernel_rfl) (by kernel_rfl) (fun _ _ _ h => h) (Or.inl ⟨by rfl, ?_⟩) hS ?_
        rotate_left
        · (intro w hSw; (try dsimp only at hSw); go_simp; try with_reducible rfl)
        (try simp only [Act.put, List.setIfInBounds_toArray, List.set_cons_zero, List.set_cons_succ])
        refine wpAnyH_done (by kernel_rfl) ?_ _
        clear hS hN HC5 HF5 HO5 HF6 HNE HFD
        go_wp2
        go_ret
        exact .inr ⟨HNX.out, rfl, ⟨at0, first, g6, h6, recs, places, fin⟩, ⟨_, _, _, _, HC6.out, HES.out⟩, rfl, rfl, rfl⟩
      | false =>
        have z4 := HC.out.blk.cells.2.2.2.2.1
        go_enter Tryd.func27, Tryd.ntmps27
        go_wp2_with (first
          | (go_at_call 47; (with_reducible refine (HBG.out _).mono ?_); rintro r w1 ⟨rfl, hb⟩; have HC1 := Lib.hid (HC.out.keep hb); clear hb)
          | (go_at_call 48; (refine (HFR.out _ HC1.out.blk HC1.out.below).mono ?_); rintro r w2 ⟨x2, c2, rfl, ho, hb⟩; have HC2 := Lib.hid (HC1.out.keep hb); have HO2 := Lib.hid ho; have HNE : Hid (∀ g, (Value.slice x2 d.length c2).ownBlock = some g → some g ≠ hv.ownBlock) := Lib.hid (fun g hg e => by have h1 := (HO2.out.lt g hg).1; have h2 := (HC1.out.jn.row.lt g e.symm).2; omega); clear ho hb)
          | (refine wpl_put_fr rfl (.tmp 4) (.tmp 19) rfl w2.heap.size (FO.alloc w2) k e x2 d.length c2 rfl rfl ?_; intro w3 HF3 HG3; have hb3 : Below w2.heap.size w2 w3 := below_over (balloc w2 _) HG3.out (Nat.le_refl _) (balloc w2 _).size; have HC3 := Lib.hid (HC2.out.keep hb3); have HO3 := Lib.hid (own_keep HO2.out hb3); clear hb3; have z3 := HC3.out.blk.cells.2.2.2.1; have z5 := HC3.out.blk.cells.2.2.2.2.2.1; have f5 := HC3.out.blk.frozen 5; obtain ⟨w4, hw4⟩ : ∃ q, w3.setCell ⟨sb, 5, none⟩ (.int .i64 (a : Int)) = q := ⟨_, rfl⟩; have HC4 := Lib.hid (show SC W w4 sb jb ep bv kv at0 a fin false h hv rv es pv places from by rw [← hw4]; exact HC3.out.set5 a); have HG4 := Lib.hid (show w3.grownBy w4 (some sb) from by rw [← hw4]; exact grown_store _ _ _ _); have HF4 := Lib.hid (HF3.out.over HG4.out (Nat.ne_of_gt HC2.out.blk.lt)); have HO4 := Lib.hid (own_over HO3.out HG4.out (fun q hq e => HC3.out.blk.ne_own HO3.out (by decide) q hq (Option.some.inj e))))
          | (go_at_call 49; (with_reducible refine (idle_any false _ jb _ HC3.out.jn.blk).mono ?_); rintro r w9 ⟨rfl, rfl⟩))
        have HC5 := Lib.hid (HC4.out.keep (Below.refl _ w4).drew)
        have HF5 := Lib.hid (HF4.out.keep (Below.refl _ w4).drew)
        have HO5 := Lib.hid (own_keep HO4.out (Below.refl _ w4).drew)
        clear z3 z4 HC3 HF3 HO3 HC1 HC2 HO2 HBG HFR
        clear z5 f5
        (try go_wp2_with fail)
        refine wp_region_held_drew (S := (fun w' => w'.cell? ⟨sb, 3, none⟩ = some (.pointer (some ⟨jb, 0, none⟩)) ∧ FO w' w2.heap.size k e (.slice x2 d.length c2))) (by kernel_rfl) ⟨HC5.out.blk.cells.2.2.2.1, HF5.out⟩ (fun hS => ?_)
        refine wpAnyH_take (i := 0) (oi := ({ dst := some 34, op := Op.move (Operand.tmp 0), type := 75, pos := "scanner.go:43", after := #[], guard := none } : Oper)) (v := ?_) rfl (by kernel_rfl) (by kernel_rfl) (by kernel_rfl) (fun _ _ _ h => h) (Or.inl ⟨by rfl, ?_⟩) hS ?_
        rotate_left
        · (intro w hSw; (try dsimp only at hSw); go_simp; try with_reducible rfl)
        (try simp only [Act.put, List.setIfInBounds_toArray, List.set_cons_zero, List.set_cons_succ])
        refine wpAnyH_take (i := 1) (oi := ({ dst := some 35, op := Op.nilCheck (Operand.tmp 34), type := 0, pos := "scanner.go:43", after := #[{ on := 0, ground := Ground.data }], guard := none } : Oper)) (v := ?_) rfl (by kernel_rfl) (by kernel_rfl) (by kernel_rfl) (fun _ _ _ h => h) (Or.inl ⟨by rfl, ?_⟩) hS ?_
        rotate_left
        · (intro w hSw; (try dsimp only at hSw); go_simp; try with_reducible rfl)
        (try simp only [Act.put, List.setIfInBounds_toArray, List.set_cons_zero, List.set_cons_succ])
        refine wpAnyH_take (i := 2) (oi := ({ dst := some 36, op := Op.fieldAddr 80 (Operand.tmp 35) 3, type := 0, pos := "scanner.go:43", after := #[{ on := 1, ground := Ground.data }], guard := none } : Oper)) (v := ?_) rfl (by kernel_rfl) (by kernel_rfl) (by kernel_rfl) (fun _ _ _ h => h) (Or.inl ⟨by rfl, ?_⟩) hS ?_
        rotate_left
        · (intro w hSw; (try dsimp only at hSw); go_simp; try with_reducible rfl)
        (try simp only [Act.put, List.setIfInBounds_toArray, List.set_cons_zero, List.set_cons_succ])
        refine wpAnyH_take (i := 3) (oi := ({ dst := some 37, op := Op.load 78 (Operand.tmp 36), type := 78, pos := "scanner.go:43", after := #[{ on := 2, ground := Ground.data }], guard := none } : Oper)) (v := ?_) rfl (by kernel_rfl) (by kernel_rfl) (by kernel_rfl) (fun _ _ _ h => h) (Or.inl ⟨by rfl, ?_⟩) hS ?_
        rotate_left
        · (intro w hSw; (try dsimp only at hSw); go_simp; try with_reducible rfl)
        (try simp only [Act.put, List.setIfInBounds_toArray, List.set_cons_zero, List.set_cons_succ])
        refine wpAnyH_take (i := 4) (oi := ({ dst := some 38, op := Op.load 70 (Operand.tmp 4), type := 70, pos := "scanner.go:43", after := #[], guard := none } : Oper)) (v := ?_) rfl (by kernel_rfl) (by kernel_rfl) (by kernel_rfl) (fun _ _ _ h => h) (Or.inl ⟨by rfl, ?_⟩) hS ?_
        rotate_left
        · (intro w hSw; (try dsimp only at hSw); refine exec_load_fr (.tmp 4) ?_ ?_ hSw.2 <;> rfl)
        (try simp only [Act.put, List.setIfInBounds_toArray, List.set_cons_zero, List.set_cons_succ])
        refine rg_one 5 ({ dst := some 39, op := Op.call { callee := Callee.value (Operand.func 50), args := #[Operand.tmp 37, Operand.tmp 38], argTypes := #[78, 70] }, type := 108, pos := "scanner.go:43", after := #[{ on := 3, ground := Ground.data }, { on := 4, ground := Ground.data }], guard := none } : Oper) (by kernel_rfl) rfl (fun K hK => ?_)
        go_simp
        (go_at_call 50; (refine (HFD.out _ x2 c2 HC5.out.below HC5.out.jn (fun w' k => RI.own (HC5.out.jn.oth k HO5.out (by decide) HNE.out))).mono ?_); rintro r w6 ⟨u, v6, rfl, hj6, ho6, hl6, hl7, hk6⟩; obtain ⟨ua, uc, rfl⟩ := own_form ho6; have HC6 := Lib.hid (HC5.out.feed hj6 hl7 hk6); have HF6 := Lib.hid (HC5.out.jn.oth_blk hk6 HF5.out (by decide) (by decide)); have HO6 := Lib.hid ho6; have hN := And.intro HC6.out.blk.cells.2.2.2.1 HF6.out; clear hj6 ho6 hl6 hl7 hk6)
        refine hK.out _ _ ?_ (fun hS1 => ?_)
        · (first | exact hN | exact hS)
        clear hK K hS; have hS := hS1; clear hS1
        (try simp only [Act.put, List.setIfInBounds_toArray, List.set_cons_zero, List.set_cons_succ])
        refine wpAnyH_take (i := 6) (oi := ({ dst := some 33, op := Op.move (Operand.tmp 39), type := 108, pos := "scanner.go:43", after := #[{ on := 5, ground := Ground.data }], guard := none } : Oper)) (v := ?_) rfl (by kernel_rfl) (by kernel_rfl) (by kernel_rfl) (fun _ _ _ h => h) (Or.inl ⟨by rfl, ?_⟩) hS ?_
        rotate_left
        · (intro w hSw; (try dsimp only at hSw); go_simp; try with_reducible rfl)
        (try simp only [Act.put, List.setIfInBounds_toArray, List.set_cons_zero, List.set_cons_succ])
        refine wpAnyH_take (i := 7) (oi := ({ dst := some 40, op := Op.extract (Operand.tmp 33) 0, type := 43, pos := "scanner.go:43", after := #[{ on := 6, ground := Ground.data }], guard := none } : Oper)) (v := ?_) rfl (by kernel_rfl) (by kernel_rfl) (by kernel_rfl) (fun _ _ _ h => h) (Or.inl ⟨by rfl, ?_⟩) hS ?_
        rotate_left
        · (intro w hSw; (try dsimp only at hSw); go_simp; try with_reducible rfl)
        (try simp only [Act.put, List.setIfInBounds_toArray, List.set_cons_zero, List.set_cons_succ])
        refine wpAnyH_take (i := 8) (oi := ({ dst := some 41, op := Op.extract (Operand.tmp 33) 1, type := 4, pos := "scanner.go:43", after := #[{ on := 6, ground := Ground.data }, { on := 10, ground := Ground.gcOnly Departure.lateStores }], guard := none } : Oper)) (v := ?_) rfl (by kernel_rfl) (by kernel_rfl) (by kernel_rfl) (fun _ _ _ h => h) (Or.inl ⟨by rfl, ?_⟩) hS ?_
        rotate_left
        · (intro w hSw; (try dsimp only at hSw); go_simp; try with_reducible rfl)
        (try simp only [Act.put, List.setIfInBounds_toArray, List.set_cons_zero, List.set_cons_succ])
        refine wpAnyH_take (i := 9) (oi := ({ dst := some 42, op := Op.extract (Operand.tmp 33) 2, type := 86, pos := "scanner.go:43", after := #[{ on := 6, ground := Ground.data }, { on := 11, ground := Ground.gcOnly Departure.lateStores }], guard := none } : Oper)) (v := ?_) rfl (by kernel_rfl) (by kernel_rfl) (by kernel_rfl) (fun _ _ _ h => h) (Or.inl ⟨by rfl, ?_⟩) hS ?_
        rotate_left
        · (intro w hSw; (try dsimp only at hSw); go_simp; try with_reducible rfl)
        (try simp only [Act.put, List.setIfInBounds_toArray, List.set_cons_zero, List.set_cons_succ])
        refine wpAnyH_take (i := 10) (oi := ({ dst := some 7, op := Op.assign (Operand.tmp 40), type := 43, pos := "scanner.go:43", after := #[{ on := 7, ground := Ground.data }, { on := 5, ground := Ground.chain }, { on := 0, ground := Ground.phase }, { on := 1, ground := Ground.phase }, { on := 2, ground := Ground.phase }, { on := 3, ground := Ground.phase }, { on := 4, ground := Ground.phase }, { on := 5, ground := Ground.phase }, { on := 6, ground := Ground.phase }, { on := 7, ground := Ground.phase }, { on := 8, ground := Ground.textOnly Departure.lateStores }, { on := 9, ground := Ground.textOnly Departure.lateStores }], guard := none } : Oper)) (v := ?_) rfl (by kernel_rfl) (by kernel_rfl) (by kernel_rfl) (fun _ _ _ h => h) (Or.inl ⟨by rfl, ?_⟩) hS ?_
        rotate_left
        · (intro w hSw; (try dsimp only at hSw); go_simp; try with_reducible rfl)
        (try simp only [Act.put, List.setIfInBounds_toArray, List.set_cons_zero, List.set_cons_succ])
        refine wpAnyH_take (i := 11) (oi := ({ dst := some 8, op := Op.assign (Operand.tmp 41), type := 4, pos := "scanner.go:43", after := #[{ on := 8, ground := Ground.data }, { on := 10, ground := Ground.chain }, { on := 0, ground := Ground.phase }, { on := 1, ground := Ground.phase }, { on := 2, ground := Ground.phase }, { on := 3, ground := Ground.phase }, { on := 4, ground := Ground.phase }, { on := 5, ground := Ground.phase }, { on := 6, ground := Ground.phase }, { on := 7, ground := Ground.phase }, { on := 8, ground := Ground.phase }, { on := 9, ground := Ground.textOnly Departure.lateStores }, { on := 10, ground := Ground.phase }], guard := none } : Oper)) (v := ?_) rfl (by kernel_rfl) (by kernel_rfl) (by kernel_rfl) (fun _ _ _ h => h) (Or.inl ⟨by rfl, ?_⟩) hS ?_
        rotate_left
        · (intro w hSw; (try dsimp only at hSw); go_simp; try with_reducible rfl)
        (try simp only [Act.put, List.setIfInBounds_toArray, List.set_cons_zero, List.set_cons_succ])
        refine wpAnyH_take (i := 12) (oi := ({ dst := some 9, op := Op.assign (Operand.tmp 42), type := 86, pos := "scanner.go:43", after := #[{ on := 9, ground := Ground.data }, { on := 11, ground := Ground.chain }, { on := 0, ground := Ground.phase }, { on := 1, ground := Ground.phase }, { on := 2, ground := Ground.phase }, { on := 3, ground := Ground.phase }, { on := 4, ground := Ground.phase }, { on := 5, ground := Ground.phase }, { on := 6, ground := Ground.phase }, { on := 7, ground := Ground.phase }, { on := 8, ground := Ground.phase }, { on := 9, ground := Ground.phase }, { on := 10, ground := Ground.phase }, { on := 11, ground := Ground.phase }], guard := none } : Oper)) (v := ?_) rfl (by kernel_rfl) (by kernel_rfl) (by kernel_rfl) (fun _ _ _ h => h) (Or.inl ⟨by rfl, ?_⟩) hS ?_
        rotate_left
        · (intro w hSw; (try dsimp only at hSw); go_simp; try with_reducible rfl)
        (try simp only [Act.put, List.setIfInBounds_toArray, List.set_cons_zero, List.set_cons_succ])
        refine wpAnyH_done (by kernel_rfl) ?_ _
        clear hS hN HC5 HF5 HO5 HF6 HNE HFD
        go_wp2
        go_ret
        exact .inr ⟨HNX.out, rfl, ⟨at0, a, g6, h6, recs, places, fin⟩, ⟨_, _, _, _, HC6.out, HES.out⟩, rfl, rfl, rfl⟩
end Go.Proofs.YtepaghohojomeaaDoor
/-
  WHAT newScanner, goOn AND Scan OF THE PROGRAM'S LAYER 19 (scan) ANSWER, of any sectors by any epoch. The table of half a byte's steps must lie in its block as start-up lays it.
-/
namespace Go.Proofs.YtepaghohojomeaaDoor
open Go.RowKit
theorem scan_mf_run (fn : Fn) (first cap : Array Value) (w : World) : (Instr.makeFunc fn first cap).run Tryd.prog w = .ok (.func fn first cap) w := rfl
theorem wrap_u32 (x : Int) : IntKind.u32.wrap x = x % 4294967296 := by simp [IntKind.wrap, IntKind.signed, IntKind.bits]
/-- the place in a scanner's cell, as a measure -/
def atC : Option Value → Nat
  | some (.int _ n) => 832 - n.toNat
  | _ => 0
set_option maxRecDepth 8000 in
theorem step_eg : ∀ args w, (callFunc 27 args).run Tryd.prog w = .ok (.enter 27 args) w := fun _ _ => by kernel_rfl
set_option maxRecDepth 8000 in
set_option maxHeartbeats 4000000 in
theorem goon_any {W w : World} {sb jb : Nat} {ep : Int} {bv kv : Value} {B : List Int} {K : List Bool} (hx : SX W w sb jb ep bv kv sc0) (hT : Tab W) (hB : B.length = 832) (hBb : isB B) (hbv : RI .u8 W bv 832 B) (hk : BS W kv 16 K) :
    Calls Tryd.prog 26 #[.func (.func 27) #[.pointer (some ⟨sb, 0, none⟩)] #[]] w fun r w' => r = .returned (.tuple #[]) ∧
      ∃ t, SX W w' sb jb ep bv kv t ∧ t.recs = (scEnd ep B K).recs ∧ t.places = (scEnd ep B K).places ∧ t.fin = (scEnd ep B K).fin := by
  have HX := Lib.hid hx
  have HST : ∀ (s : SS) (w : World), s.Ok → SX W w sb jb ep bv kv s → Calls Tryd.prog 27 #[.pointer (some ⟨sb, 0, none⟩)] w (StepT ep B K W sb jb bv kv s) := fun s w h1 h2 => step_scan s h1 h2 hT hB hBb hbv hk
  have HON : ∀ s t, OnWay ep B K s → scNext ep B K s = some t → OnWay ep B K t := fun s t h1 h2 => h1.next hB h2
  have HNX : ∀ s t, s.Ok → scNext ep B K s = some t → s.at_ + 11 ≤ t.at_ ∧ t.at_ ≤ 832 := fun s t h1 h2 => ⟨(scNext_ok hB h1 h2).2, (scNext_ok hB h1 h2).1.at_⟩
  have HST := Lib.hid HST
  have HON := Lib.hid HON
  have HNX := Lib.hid HNX
  clear hx hT hB hBb hbv hk
  have eg := step_eg
  obtain ⟨fn, hfn⟩ : ∃ fn, 27 = fn := ⟨_, rfl⟩
  rw [hfn] at HST eg ⊢
  clear hfn
  go_enter Tryd.func26, Tryd.ntmps26
  go_wp2
  go_loopw [] (fun wr => ∃ s, Hid (SX W wr sb jb ep bv kv s) ∧ Hid (OnWay ep B K s)) (fun wr => atC (wr.cell? ⟨sb, 4, none⟩))
  case atStart => exact ⟨sc0, HX, Lib.hid onway_0⟩
  case round =>
    obtain ⟨s, HS, HO⟩ := hrel
    have HME : Hid (atC (wr.cell? ⟨sb, 4, none⟩) = 832 - s.at_ ∧ s.at_ ≤ 832) := Lib.hid (by
      obtain ⟨hv, rv, es, pv, hc, _⟩ := HS.out
      refine ⟨?_, HO.out.1.at_⟩
      rw [hc.blk.cells.2.2.2.2.1]
      simp [atC])
    have HC := Lib.hid (HST.out s wr HO.out.1 HS.out)
    cases hn : scNext ep B K s with
    | some t =>
      have HC1 : Hid (Calls Tryd.prog fn #[.pointer (some ⟨sb, 0, none⟩)] wr fun r w' => r = .returned (.bool true) ∧ SX W w' sb jb ep bv kv t) := Lib.hid (HC.out.mono fun r w' h => by
        rcases h with ⟨t', h1, h2, h3⟩ | ⟨h1, _⟩
        · rw [hn] at h1; obtain rfl := Option.some.inj h1; exact ⟨h2, h3⟩
        · rw [hn] at h1; cases h1)
      have HON1 := Lib.hid (HON.out s t HO.out hn)
      have HNX1 := Lib.hid (HNX.out s t HO.out.1 hn)
      clear hn HC
      go_wp2_with (first
        | (with_reducible refine HC1.out.mono ?_; rintro r w1 ⟨rfl, hs1⟩; have HS1 := Lib.hid hs1; clear hs1))
      go_roundw
      case rel => exact ⟨t, HS1, HON1⟩
      case measure =>
        obtain ⟨hv, rv, es, pv, hc, _⟩ := HS1.out
        have h1 := HME.out
        have h2 := HNX1.out
        rw [h1.1, hc.blk.cells.2.2.2.2.1]
        simp only [atC, Int.toNat_natCast]
        omega
    | none =>
      have HC1 : Hid (Calls Tryd.prog fn #[.pointer (some ⟨sb, 0, none⟩)] wr fun r w' => r = .returned (.bool false) ∧ ∃ t, SX W w' sb jb ep bv kv t ∧ t.recs = s.recs ∧ t.places = s.places ∧ t.fin = s.fin) := Lib.hid (HC.out.mono fun r w' h => by
        rcases h with ⟨t', h1, h2, h3⟩ | ⟨_, h1, h2⟩
        · rw [hn] at h1; cases h1
        · exact ⟨h1, h2⟩)
      have HEQ := Lib.hid (HO.out.stop hn)
      clear hn HC
      go_wp2_with (first
        | (with_reducible refine HC1.out.mono ?_; rintro r w1 ⟨rfl, hs1⟩; have HS1 := Lib.hid hs1; clear hs1))
      go_end0
      obtain ⟨t, h1, h2, h3, h4⟩ := HS1.out
      exact ⟨rfl, t, h1, by rw [h2, HEQ.out], by rw [h3, HEQ.out], by rw [h4, HEQ.out]⟩
set_option maxRecDepth 8000 in
set_option maxHeartbeats 4000000 in
theorem newscan_any (x : Int) (hx : U64 x) (v : Value) (n : Nat) (fs : List Int) (hbf : Bytes fs) (w : World) (h : FS w v n fs) :
    Calls Tryd.prog 25 #[.int .u64 x, v] w fun r w' => ∃ W sb jb bv kv, r = .returned (.pointer (some ⟨sb, 0, none⟩)) ∧ Below w.heap.size w W ∧ RI .u8 W bv 832 (flatB x n fs 16) ∧ BS W kv 16 (flatK x n fs 16) ∧ SX W w' sb jb (x % 4294967296) bv kv sc0 := by
  have HF := Lib.hid (flat_any x hx v n fs hbf w h)
  obtain ⟨va, vc, rfl⟩ : ∃ a c, v = .slice a n c := by obtain ⟨a, c, e, _⟩ := h; exact ⟨a, c, e⟩
  obtain ⟨B, hB⟩ : ∃ B, flatB x n fs 16 = B := ⟨_, rfl⟩
  obtain ⟨K, hK⟩ : ∃ K, flatK x n fs 16 = K := ⟨_, rfl⟩
  rw [hB, hK] at HF
  rw [hB, hK]
  have hw := wrap_u32 x
  obtain ⟨e, he⟩ : ∃ e, x % 4294967296 = e := ⟨_, rfl⟩
  rw [he] at hw ⊢
  clear hx hbf h hB hK he
  go_enter Tryd.func25, Tryd.ntmps25
  go_wp2_with (first
    | (go_at_call 45; (with_reducible refine HF.out.mono ?_); rintro r w1 ⟨g1, g2, rfl, hb, hk, hbl⟩; have HBV := Lib.hid hb; have HKV := Lib.hid hk; have HB1 := Lib.hid hbl; clear hb hk hbl)
    | (go_at_call 46; (with_reducible refine (new_any _).mono ?_); rintro r w2 ⟨rfl, hj, hb⟩; have HJ2 := Lib.hid hj; have HB2 := Lib.hid hb; clear hj hb))
  go_ret
  have hb3 := balloc w2 (.cells (sA e (.slice (some ⟨g1, 0, none⟩) 832 832) (.slice (some ⟨g2, 0, none⟩) 16 16) w1.heap.size 0 0 (.slice none 0 0) (.slice none 0 0) 0 0) 80)
  exact ⟨w1, w2.heap.size, w1.heap.size, _, _, rfl, HB1.out, HBV.out, HKV.out, .slice none 0 0, .slice none 0 0, [], .slice none 0 0,
    ⟨heap_alloc_last w2 _, HB2.out.size, HJ2.out.keep hb3, SR.nil _ _ _, World.ownsRow_nil _ _ _ _, bch HB2.out hb3⟩, rfl⟩
end Go.Proofs.YtepaghohojomeaaDoor
