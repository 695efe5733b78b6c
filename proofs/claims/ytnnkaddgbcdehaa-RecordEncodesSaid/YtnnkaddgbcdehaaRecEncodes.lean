/-
  THE WALK OF THE LAW RecordEncodes: whatever record comes in (within the form's own reach): the call returns true and changes nothing that was there (written by wip/gen/g17.py).
-/
import Derived.Test.YtnnkaddgbcdehaaRecLaws
namespace Go.Proofs.Ytnnkaddgbcdehaa
open Go.RowKit
set_option maxRecDepth 8000 in
set_option maxHeartbeats 4000000 in
theorem enc_wrong (k c l p : Int) (a : Option Addr) (n cap : Nat) (d : List Int) (W : World) (hri : RI .u8 W (.slice a n cap) n d) (hb : isB d) (_hn : (n : Int) ≤ 140737488351232) (hr : recOk k c l p = false) :
    Calls Try.prog 3 #[.agg (rA k c l p (.slice a n cap))] W fun e w' => e = .returned (.bool true) ∧ Below W.heap.size W w' := by
  have HA := Lib.hid (RO.alloc (k := k) (c := c) (l := l) (p := p) (v := .slice a n cap) W)
  have HB := Lib.hid (balloc W (.cells (rA k c l p (.slice a n cap)) 24))
  have HR := Lib.hid (hri.keep HB.out)
  have HS : Hid (∀ w, RI .u8 w (.slice a n cap) n d → Calls Try.prog 10 #[.agg (rA k c l p (.slice a n cap)), .agg (rA k c l p (.slice a n cap))] w fun e w' => e = .returned (.bool true) ∧ Below w.heap.size w w') := Lib.hid fun w h =>
    (prsame_any k c l p _ n d k c l p _ n d w h h hb hb).mono fun _ _ ⟨e, b⟩ => ⟨by rw [e]; simp, b⟩
  have HO1 : Hid (∀ w, Calls Try.prog 8 #[.agg (rA k c l p (.slice a n cap))] w fun e w' => e = .returned (.bool false) ∧ Below w.heap.size w w') := Lib.hid fun w => by rw [← hr]; exact prright_any k c l p _ w
  have HO2 : Hid (∀ w, Calls Try.prog 9 #[.agg (rA k c l p (.slice a n cap))] w fun e w' => e = .returned (.bool false) ∧ Below w.heap.size w w') := Lib.hid fun w => by rw [← hr]; exact rrecok_any k c l p _ w
  have HE1 : Hid (∀ w, Calls Try.prog 6 #[.agg (rA k c l p (.slice a n cap))] w fun e w' => e = .returned (.tuple #[.slice none 0 0, .int .i64 13]) ∧ Below w.heap.size w w') := Lib.hid fun w => prenc_wrong k c l p _ w hr
  have HE2 : Hid (∀ w, RI .u8 w (.slice a n cap) n d → Calls Try.prog 7 #[.agg (rA k c l p (.slice a n cap))] w fun e w' => e = .returned (.tuple #[.slice none 0 0, .int .i64 13]) ∧ Below w.heap.size w w') := Lib.hid fun w _ => rrenc_wrong k c l p _ w hr
  have HD : Hid (∀ w, Calls Try.prog 13 #[.slice none 0 0] w fun e w' => ∃ a' n' c', e = .returned (.tuple #[.agg (rA 0 0 0 0 (.slice a' n' c')), .int .i64 1]) ∧ Below w.heap.size w w') := Lib.hid fun w =>
    (prdec_any (.slice none 0 0) 0 [] w (RI.nil _ _) (fun x hx => absurd hx (by simp))).mono fun _ _ hq => by
      obtain ⟨a', n', c', h1, _, h3⟩ := dec_form (recD_short (zs := []) (by decide)) hq
      exact ⟨a', n', c', h1, h3⟩
  have HZ : Hid (∀ w, Calls Try.prog 12 #[.agg (rA k c l p (.slice a n cap))] w fun e w' => e = .returned (.int .i64 0) ∧ Below w.heap.size w w') := Lib.hid fun w => prsize_wrong k c l p _ w hr
  clear hr hri hb
  go_enter Try.func3, Try.ntmps3
  go_wp2_with (first
    | (go_at_call 6; (with_reducible refine (HE1.out _).mono ?_); rintro e w1 ⟨rfl, hb1⟩; have HA1 := Lib.hid (HA.out.keep hb1); have HR1 := Lib.hid (HR.out.keep hb1); have HB1 := Lib.hid (bch HB.out hb1); clear hb1)
    | (go_at_call 7; (with_reducible refine (HE2.out _ HR1.out).mono ?_); rintro e w2 ⟨rfl, hb2⟩; have HA2 := Lib.hid (HA1.out.keep hb2); have HR2 := Lib.hid (HR1.out.keep hb2); have HB2 := Lib.hid (bch HB1.out hb2); clear hb2)
    | (refine wpl_load_rec rfl (.tmp 1) rfl rfl HA1.out ?_)
    | (refine wpl_load_rec rfl (.tmp 1) rfl rfl HA.out ?_))
  refine wp_region_held_drew (S := (fun w' => RO w' W.heap.size k c l p (.slice a n cap) ∧ Below w2.heap.size w2 w')) (by kernel_rfl) ⟨HA2.out.keep ((Below.refl _ _).drew), (Below.refl _ _).drew⟩ (fun hS => ?_)
  refine wpAnyH_take (i := 0) (oi := ({ dst := some 20, op := Op.move (Operand.tmp 3), type := 22, pos := "law.go:20", after := #[], guard := none } : Oper)) (v := ?_) rfl (by kernel_rfl) (by kernel_rfl) (by kernel_rfl) (fun _ _ _ h => h) (Or.inl ⟨by rfl, ?_⟩) hS ?_
  rotate_left
  · (intro w hSw; (try dsimp only at hSw); go_simp; try with_reducible rfl)
  (try simp only [Act.put, List.setIfInBounds_toArray, List.set_cons_zero, List.set_cons_succ])
  refine wpAnyH_take (i := 1) (oi := ({ dst := some 21, op := Op.convert 22 9 (Operand.tmp 20), type := 9, pos := "law.go:20", after := #[{ on := 0, ground := Ground.data }], guard := none } : Oper)) (v := ?_) rfl (by kernel_rfl) (by kernel_rfl) (by kernel_rfl) (fun _ _ _ h => h) (Or.inl ⟨by rfl, ?_⟩) hS ?_
  rotate_left
  · (intro w hSw; (try dsimp only at hSw); have z := conv_ri (RI.nil .u8 w); go_simp; try with_reducible rfl)
  (try simp only [Act.put, List.setIfInBounds_toArray, List.set_cons_zero, List.set_cons_succ])
  refine wpAnyH_take (i := 2) (oi := ({ dst := some 22, op := Op.move (Operand.tmp 5), type := 22, pos := "law.go:20", after := #[], guard := none } : Oper)) (v := ?_) rfl (by kernel_rfl) (by kernel_rfl) (by kernel_rfl) (fun _ _ _ h => h) (Or.inl ⟨by rfl, ?_⟩) hS ?_
  rotate_left
  · (intro w hSw; (try dsimp only at hSw); go_simp; try with_reducible rfl)
  (try simp only [Act.put, List.setIfInBounds_toArray, List.set_cons_zero, List.set_cons_succ])
  refine wpAnyH_take (i := 3) (oi := ({ dst := some 23, op := Op.convert 22 9 (Operand.tmp 22), type := 9, pos := "law.go:20", after := #[{ on := 2, ground := Ground.data }], guard := none } : Oper)) (v := ?_) rfl (by kernel_rfl) (by kernel_rfl) (by kernel_rfl) (fun _ _ _ h => h) (Or.inl ⟨by rfl, ?_⟩) hS ?_
  rotate_left
  · (intro w hSw; (try dsimp only at hSw); have z := conv_ri (RI.nil .u8 w); go_simp; try with_reducible rfl)
  (try simp only [Act.put, List.setIfInBounds_toArray, List.set_cons_zero, List.set_cons_succ])
  refine wpAnyH_take (i := 4) (oi := ({ dst := some 24, op := Op.binOp BinOp.neq 9 (Operand.tmp 21) (Operand.tmp 23) 9, type := 4, pos := "law.go:20", after := #[{ on := 1, ground := Ground.data }, { on := 3, ground := Ground.data }], guard := none } : Oper)) (v := ?_) rfl (by kernel_rfl) (by kernel_rfl) (by kernel_rfl) (fun _ _ _ h => h) (Or.inl ⟨by rfl, ?_⟩) hS ?_
  rotate_left
  · (intro w hSw; (try dsimp only at hSw); go_simp; try with_reducible rfl)
  (try simp only [Act.put, List.setIfInBounds_toArray, List.set_cons_zero, List.set_cons_succ])
  refine wpAnyH_take (i := 5) (oi := ({ dst := some 25, op := Op.move (Operand.tmp 24), type := 4, pos := "law.go:20", after := #[{ on := 4, ground := Ground.data }], guard := none } : Oper)) (v := ?_) rfl (by kernel_rfl) (by kernel_rfl) (by kernel_rfl) (fun _ _ _ h => h) (Or.inl ⟨by rfl, ?_⟩) hS ?_
  rotate_left
  · (intro w hSw; (try dsimp only at hSw); go_simp; try with_reducible rfl)
  (try simp only [Act.put, List.setIfInBounds_toArray, List.set_cons_zero, List.set_cons_succ])
  refine wpAnyH_take (i := 6) (oi := ({ dst := some 26, op := Op.move (Operand.tmp 4), type := 25, pos := "law.go:20", after := #[{ on := 5, ground := Ground.guard }], guard := some (5, false) } : Oper)) (v := ?_) rfl (by kernel_rfl) (by kernel_rfl) (by kernel_rfl) (fun _ _ _ h => h) (Or.inl ⟨by rfl, ?_⟩) hS ?_
  rotate_left
  · (intro w hSw; (try dsimp only at hSw); go_simp; try with_reducible rfl)
  (try simp only [Act.put, List.setIfInBounds_toArray, List.set_cons_zero, List.set_cons_succ])
  refine wpAnyH_take (i := 7) (oi := ({ dst := some 27, op := Op.move (Operand.tmp 6), type := 25, pos := "law.go:20", after := #[{ on := 5, ground := Ground.guard }], guard := some (5, false) } : Oper)) (v := ?_) rfl (by kernel_rfl) (by kernel_rfl) (by kernel_rfl) (fun _ _ _ h => h) (Or.inl ⟨by rfl, ?_⟩) hS ?_
  rotate_left
  · (intro w hSw; (try dsimp only at hSw); go_simp; try with_reducible rfl)
  (try simp only [Act.put, List.setIfInBounds_toArray, List.set_cons_zero, List.set_cons_succ])
  refine wpAnyH_take (i := 8) (oi := ({ dst := some 28, op := Op.binOp BinOp.neq 25 (Operand.tmp 26) (Operand.tmp 27) 25, type := 4, pos := "law.go:20", after := #[{ on := 6, ground := Ground.data }, { on := 7, ground := Ground.data }, { on := 5, ground := Ground.guard }], guard := some (5, false) } : Oper)) (v := ?_) rfl (by kernel_rfl) (by kernel_rfl) (by kernel_rfl) (fun _ _ _ h => h) (Or.inl ⟨by rfl, ?_⟩) hS ?_
  rotate_left
  · (intro w hSw; (try dsimp only at hSw); go_simp; try with_reducible rfl)
  (try simp only [Act.put, List.setIfInBounds_toArray, List.set_cons_zero, List.set_cons_succ])
  refine wpAnyH_take (i := 9) (oi := ({ dst := some 29, op := Op.pick (Operand.tmp 25) (Operand.const (Value.bool true)) (Operand.tmp 28), type := 4, pos := "law.go:20", after := #[{ on := 5, ground := Ground.data }, { on := 8, ground := Ground.data }], guard := none } : Oper)) (v := ?_) rfl (by kernel_rfl) (by kernel_rfl) (by kernel_rfl) (fun _ _ _ h => h) (Or.inl ⟨by rfl, ?_⟩) hS ?_
  rotate_left
  · (intro w hSw; (try dsimp only at hSw); go_simp; try with_reducible rfl)
  (try simp only [Act.put, List.setIfInBounds_toArray, List.set_cons_zero, List.set_cons_succ])
  refine wpAnyH_take (i := 10) (oi := ({ dst := some 30, op := Op.move (Operand.tmp 29), type := 4, pos := "law.go:20", after := #[{ on := 9, ground := Ground.data }, { on := 5, ground := Ground.chain }], guard := none } : Oper)) (v := ?_) rfl (by kernel_rfl) (by kernel_rfl) (by kernel_rfl) (fun _ _ _ h => h) (Or.inl ⟨by rfl, ?_⟩) hS ?_
  rotate_left
  · (intro w hSw; (try dsimp only at hSw); go_simp; try with_reducible rfl)
  (try simp only [Act.put, List.setIfInBounds_toArray, List.set_cons_zero, List.set_cons_succ])
  refine wpAnyH_take (i := 11) (oi := ({ dst := some 31, op := Op.load 24 (Operand.tmp 1), type := 24, pos := "law.go:20", after := #[{ on := 10, ground := Ground.guard }], guard := some (10, false) } : Oper)) (v := .agg (rA k c l p (.slice a n cap))) rfl (by kernel_rfl) (by kernel_rfl) (by kernel_rfl) (fun _ _ _ h => h) (Or.inl ⟨by rfl, ?_⟩) hS ?_
  · (intro w hSw; (try dsimp only at hSw); exact exec_load_rec (.tmp 1) rfl rfl hSw.1)
  (try simp only [Act.put, List.setIfInBounds_toArray, List.set_cons_zero, List.set_cons_succ])
  refine wpAnyH_take (i := 13) (oi := ({ dst := some 33, op := Op.load 24 (Operand.tmp 1), type := 24, pos := "law.go:20", after := #[{ on := 10, ground := Ground.guard }], guard := some (10, false) } : Oper)) (v := .agg (rA k c l p (.slice a n cap))) rfl (by kernel_rfl) (by kernel_rfl) (by kernel_rfl) (fun _ _ _ h => h) (Or.inl ⟨by rfl, ?_⟩) hS ?_
  · (intro w hSw; (try dsimp only at hSw); exact exec_load_rec (.tmp 1) rfl rfl hSw.1)
  (try simp only [Act.put, List.setIfInBounds_toArray, List.set_cons_zero, List.set_cons_succ])
  refine rg_one 12 ({ dst := some 32, op := Op.call { callee := Callee.value (Operand.func 8), args := #[Operand.tmp 31], argTypes := #[24] }, type := 4, pos := "law.go:20", after := #[{ on := 11, ground := Ground.data }, { on := 10, ground := Ground.chain }, { on := 10, ground := Ground.guard }], guard := some (10, false) } : Oper) (by kernel_rfl) rfl (fun K hK => ?_)
  go_simp
  (go_at_call 8; (with_reducible refine (HO1.out _).mono ?_); rintro e w3 ⟨rfl, hb⟩)
  refine hK.out _ _ ?_ (fun hS1 => ?_)
  · (first | exact hS | exact ⟨hS.1.keep hb, bch hS.2 hb⟩)
  clear hK K hS; have hS := hS1; clear hS1
  (try simp only [Act.put, List.setIfInBounds_toArray, List.set_cons_zero, List.set_cons_succ])
  refine rg_one 14 ({ dst := some 34, op := Op.call { callee := Callee.value (Operand.func 9), args := #[Operand.tmp 33], argTypes := #[24] }, type := 4, pos := "law.go:20", after := #[{ on := 13, ground := Ground.data }, { on := 12, ground := Ground.chain }, { on := 10, ground := Ground.guard }], guard := some (10, false) } : Oper) (by kernel_rfl) rfl (fun K hK => ?_)
  go_simp
  (go_at_call 9; (with_reducible refine (HO2.out _).mono ?_); rintro e w4 ⟨rfl, hb⟩)
  refine hK.out _ _ ?_ (fun hS1 => ?_)
  · (first | exact hS | exact ⟨hS.1.keep hb, bch hS.2 hb⟩)
  clear hK K hS; have hS := hS1; clear hS1
  (try simp only [Act.put, List.setIfInBounds_toArray, List.set_cons_zero, List.set_cons_succ])
  refine wpAnyH_take (i := 15) (oi := ({ dst := some 35, op := Op.binOp BinOp.neq 4 (Operand.tmp 32) (Operand.tmp 34) 4, type := 4, pos := "law.go:20", after := #[{ on := 12, ground := Ground.data }, { on := 14, ground := Ground.data }, { on := 10, ground := Ground.guard }], guard := some (10, false) } : Oper)) (v := ?_) rfl (by kernel_rfl) (by kernel_rfl) (by kernel_rfl) (fun _ _ _ h => h) (Or.inl ⟨by rfl, ?_⟩) hS ?_
  rotate_left
  · (intro w hSw; (try dsimp only at hSw); go_simp; try with_reducible rfl)
  (try simp only [Act.put, List.setIfInBounds_toArray, List.set_cons_zero, List.set_cons_succ])
  refine wpAnyH_take (i := 16) (oi := ({ dst := some 36, op := Op.pick (Operand.tmp 30) (Operand.const (Value.bool true)) (Operand.tmp 35), type := 4, pos := "law.go:20", after := #[{ on := 10, ground := Ground.data }, { on := 15, ground := Ground.data }], guard := none } : Oper)) (v := ?_) rfl (by kernel_rfl) (by kernel_rfl) (by kernel_rfl) (fun _ _ _ h => h) (Or.inl ⟨by rfl, ?_⟩) hS ?_
  rotate_left
  · (intro w hSw; (try dsimp only at hSw); go_simp; try with_reducible rfl)
  (try simp only [Act.put, List.setIfInBounds_toArray, List.set_cons_zero, List.set_cons_succ])
  refine wpAnyH_take (i := 17) (oi := ({ dst := some 37, op := Op.move (Operand.tmp 36), type := 4, pos := "law.go:20", after := #[{ on := 16, ground := Ground.data }, { on := 14, ground := Ground.chain }], guard := none } : Oper)) (v := ?_) rfl (by kernel_rfl) (by kernel_rfl) (by kernel_rfl) (fun _ _ _ h => h) (Or.inl ⟨by rfl, ?_⟩) hS ?_
  rotate_left
  · (intro w hSw; (try dsimp only at hSw); go_simp; try with_reducible rfl)
  (try simp only [Act.put, List.setIfInBounds_toArray, List.set_cons_zero, List.set_cons_succ])
  refine wpAnyH_take (i := 18) (oi := ({ dst := some 38, op := Op.load 24 (Operand.tmp 1), type := 24, pos := "law.go:20", after := #[{ on := 17, ground := Ground.guard }], guard := some (17, false) } : Oper)) (v := .agg (rA k c l p (.slice a n cap))) rfl (by kernel_rfl) (by kernel_rfl) (by kernel_rfl) (fun _ _ _ h => h) (Or.inl ⟨by rfl, ?_⟩) hS ?_
  · (intro w hSw; (try dsimp only at hSw); exact exec_load_rec (.tmp 1) rfl rfl hSw.1)
  (try simp only [Act.put, List.setIfInBounds_toArray, List.set_cons_zero, List.set_cons_succ])
  refine wpAnyH_take (i := 19) (oi := ({ dst := some 39, op := Op.load 24 (Operand.tmp 1), type := 24, pos := "law.go:20", after := #[{ on := 17, ground := Ground.guard }], guard := some (17, false) } : Oper)) (v := .agg (rA k c l p (.slice a n cap))) rfl (by kernel_rfl) (by kernel_rfl) (by kernel_rfl) (fun _ _ _ h => h) (Or.inl ⟨by rfl, ?_⟩) hS ?_
  · (intro w hSw; (try dsimp only at hSw); exact exec_load_rec (.tmp 1) rfl rfl hSw.1)
  (try simp only [Act.put, List.setIfInBounds_toArray, List.set_cons_zero, List.set_cons_succ])
  refine rg_one 20 ({ dst := some 40, op := Op.call { callee := Callee.value (Operand.func 10), args := #[Operand.tmp 38, Operand.tmp 39], argTypes := #[24, 24] }, type := 4, pos := "law.go:20", after := #[{ on := 18, ground := Ground.data }, { on := 19, ground := Ground.data }, { on := 17, ground := Ground.chain }, { on := 17, ground := Ground.guard }], guard := some (17, false) } : Oper) (by kernel_rfl) rfl (fun K hK => ?_)
  go_simp
  (go_at_call 10; (with_reducible refine (HS.out _ (HR2.out.keep hS.2)).mono ?_); rintro e w5 ⟨rfl, hb⟩)
  refine hK.out _ _ ?_ (fun hS1 => ?_)
  · (first | exact hS | exact ⟨hS.1.keep hb, bch hS.2 hb⟩)
  clear hK K hS; have hS := hS1; clear hS1
  (try simp only [Act.put, List.setIfInBounds_toArray, List.set_cons_zero, List.set_cons_succ])
  refine wpAnyH_take (i := 21) (oi := ({ dst := some 41, op := Op.unOp UnOp.not 4 (Operand.tmp 40), type := 4, pos := "law.go:20", after := #[{ on := 20, ground := Ground.data }, { on := 17, ground := Ground.guard }], guard := some (17, false) } : Oper)) (v := ?_) rfl (by kernel_rfl) (by kernel_rfl) (by kernel_rfl) (fun _ _ _ h => h) (Or.inl ⟨by rfl, ?_⟩) hS ?_
  rotate_left
  · (intro w hSw; (try dsimp only at hSw); go_simp; try with_reducible rfl)
  (try simp only [Act.put, List.setIfInBounds_toArray, List.set_cons_zero, List.set_cons_succ])
  refine wpAnyH_take (i := 22) (oi := ({ dst := some 42, op := Op.pick (Operand.tmp 37) (Operand.const (Value.bool true)) (Operand.tmp 41), type := 4, pos := "law.go:20", after := #[{ on := 17, ground := Ground.data }, { on := 21, ground := Ground.data }], guard := none } : Oper)) (v := ?_) rfl (by kernel_rfl) (by kernel_rfl) (by kernel_rfl) (fun _ _ _ h => h) (Or.inl ⟨by rfl, ?_⟩) hS ?_
  rotate_left
  · (intro w hSw; (try dsimp only at hSw); go_simp; try with_reducible rfl)
  (try simp only [Act.put, List.setIfInBounds_toArray, List.set_cons_zero, List.set_cons_succ])
  refine wpAnyH_done (by kernel_rfl) ?_ _
  have HA5 := Lib.hid hS.1
  have HB5 := Lib.hid (bch HB2.out hS.2)
  have HR5 := Lib.hid (HR2.out.keep hS.2)
  clear hS
  go_wp2_with (first
    | (go_at_call 9; (with_reducible refine (HO2.out _).mono ?_); rintro e w6 ⟨rfl, hb6⟩; have HA6 := Lib.hid (HA5.out.keep hb6); have HR6 := Lib.hid (HR5.out.keep hb6); have HB6 := Lib.hid (bch HB5.out hb6); clear hb6)
    | (go_at_call 12; (with_reducible refine (HZ.out _).mono ?_); rintro e w8 ⟨rfl, hb8⟩; have HB8 := Lib.hid (bch HB6.out hb8); clear hb8)
    | (go_at_call 13; (with_reducible refine (HD.out _).mono ?_); rintro e w9 ⟨a9, n9, c9, rfl, hb9⟩; have HB9 := Lib.hid (bch HB8.out (bch hb9 (bnew w9 (.cells (rA 0 0 0 0 (.slice none 0 0)) 24) (rA 0 0 0 0 (.slice a9 n9 c9))))); clear hb9)
    | (refine wpList_store_row rfl 24 _ _ rfl w9.heap.size (rA 0 0 0 0 (.slice a9 n9 c9)) rfl rfl _ _ (heap_alloc_last w9 _) (rec_info _ rfl) rfl (rec_one _ _ _ _ _ _ _) ?_)
    | (go_at_call 15; (with_reducible refine (awake_any _).mono ?_); rintro e wz ⟨rfl, hbz⟩; have HBZ := Lib.hid (bch HB9.out hbz); clear hbz)
    | (refine wpl_load_rec rfl (.tmp 1) rfl rfl HA6.out ?_)
    | (refine wpl_load_rec rfl (.tmp 1) rfl rfl HA5.out ?_))
  go_ret
  exact ⟨rfl, HBZ.out⟩
set_option maxRecDepth 8000 in
set_option maxHeartbeats 4000000 in
theorem enc_long (k c l p : Int) (a : Option Addr) (n cap : Nat) (d : List Int) (W : World) (hri : RI .u8 W (.slice a n cap) n d) (hb : isB d) (hn : (n : Int) ≤ 140737488351232) (hr : recOk k c l p = true) (hs : 512 < (recH k c l p ++ d).length) :
    Calls Try.prog 3 #[.agg (rA k c l p (.slice a n cap))] W fun e w' => e = .returned (.bool true) ∧ Below W.heap.size W w' := by
  have HA := Lib.hid (RO.alloc (k := k) (c := c) (l := l) (p := p) (v := .slice a n cap) W)
  have HB := Lib.hid (balloc W (.cells (rA k c l p (.slice a n cap)) 24))
  have HR := Lib.hid (hri.keep HB.out)
  have HS : Hid (∀ w, RI .u8 w (.slice a n cap) n d → Calls Try.prog 10 #[.agg (rA k c l p (.slice a n cap)), .agg (rA k c l p (.slice a n cap))] w fun e w' => e = .returned (.bool true) ∧ Below w.heap.size w w') := Lib.hid fun w h =>
    (prsame_any k c l p _ n d k c l p _ n d w h h hb hb).mono fun _ _ ⟨e, b⟩ => ⟨by rw [e]; simp, b⟩
  have HO1 : Hid (∀ w, Calls Try.prog 8 #[.agg (rA k c l p (.slice a n cap))] w fun e w' => e = .returned (.bool true) ∧ Below w.heap.size w w') := Lib.hid fun w => by rw [← hr]; exact prright_any k c l p _ w
  have HO2 : Hid (∀ w, Calls Try.prog 9 #[.agg (rA k c l p (.slice a n cap))] w fun e w' => e = .returned (.bool true) ∧ Below w.heap.size w w') := Lib.hid fun w => by rw [← hr]; exact rrecok_any k c l p _ w
  have HE1 : Hid (∀ w, Calls Try.prog 6 #[.agg (rA k c l p (.slice a n cap))] w fun e w' => e = .returned (.tuple #[.slice none 0 0, .int .i64 5]) ∧ Below w.heap.size w w') := Lib.hid fun w => prenc_long k c l p a n cap d w hr hri.length (by omega) hs
  have HE2 : Hid (∀ w, RI .u8 w (.slice a n cap) n d → Calls Try.prog 7 #[.agg (rA k c l p (.slice a n cap))] w fun e w' => e = .returned (.tuple #[.slice none 0 0, .int .i64 5]) ∧ Below w.heap.size w w') := Lib.hid fun w h => rrenc_long k c l p _ n d w hr h (by omega) hs
  have HD : Hid (∀ w, Calls Try.prog 13 #[.slice none 0 0] w fun e w' => ∃ a' n' c', e = .returned (.tuple #[.agg (rA 0 0 0 0 (.slice a' n' c')), .int .i64 1]) ∧ Below w.heap.size w w') := Lib.hid fun w =>
    (prdec_any (.slice none 0 0) 0 [] w (RI.nil _ _) (fun x hx => absurd hx (by simp))).mono fun _ _ hq => by
      obtain ⟨a', n', c', h1, _, h3⟩ := dec_form (recD_short (zs := []) (by decide)) hq
      exact ⟨a', n', c', h1, h3⟩
  obtain ⟨q, hq⟩ : ∃ q, (recH k c l p ++ d).length = q := ⟨_, rfl⟩
  have HZ : Hid (∀ w, Calls Try.prog 12 #[.agg (rA k c l p (.slice a n cap))] w fun e w' => e = .returned (.int .i64 q) ∧ Below w.heap.size w w') := Lib.hid fun w => by rw [← hq]; exact prsize_right k c l p a n cap d w hr hri.length (by omega)
  have HX : Hid (∀ w, RI .u8 w (.slice a n cap) n d → Calls Try.prog 11 #[.agg (rA k c l p (.slice a n cap))] w fun e w' => ∃ a' c', e = .returned (.slice a' q c') ∧ Below w.heap.size w w') := Lib.hid fun w h =>
    (rrbytes_any k c l p _ n d w hr h (by omega)).mono fun _ _ ⟨v', he, ho, hb⟩ => by
      rw [hq] at ho
      obtain ⟨a', c', rfl⟩ := own_form ho
      exact ⟨a', c', he, hb⟩
  clear hr hri hb hn hs hq
  go_enter Try.func3, Try.ntmps3
  go_wp2_with (first
    | (go_at_call 6; (with_reducible refine (HE1.out _).mono ?_); rintro e w1 ⟨rfl, hb1⟩; have HA1 := Lib.hid (HA.out.keep hb1); have HR1 := Lib.hid (HR.out.keep hb1); have HB1 := Lib.hid (bch HB.out hb1); clear hb1)
    | (go_at_call 7; (with_reducible refine (HE2.out _ HR1.out).mono ?_); rintro e w2 ⟨rfl, hb2⟩; have HA2 := Lib.hid (HA1.out.keep hb2); have HR2 := Lib.hid (HR1.out.keep hb2); have HB2 := Lib.hid (bch HB1.out hb2); clear hb2)
    | (refine wpl_load_rec rfl (.tmp 1) rfl rfl HA1.out ?_)
    | (refine wpl_load_rec rfl (.tmp 1) rfl rfl HA.out ?_))
  refine wp_region_held_drew (S := (fun w' => RO w' W.heap.size k c l p (.slice a n cap) ∧ Below w2.heap.size w2 w')) (by kernel_rfl) ⟨HA2.out.keep ((Below.refl _ _).drew), (Below.refl _ _).drew⟩ (fun hS => ?_)
  refine wpAnyH_take (i := 0) (oi := ({ dst := some 20, op := Op.move (Operand.tmp 3), type := 22, pos := "law.go:20", after := #[], guard := none } : Oper)) (v := ?_) rfl (by kernel_rfl) (by kernel_rfl) (by kernel_rfl) (fun _ _ _ h => h) (Or.inl ⟨by rfl, ?_⟩) hS ?_
  rotate_left
  · (intro w hSw; (try dsimp only at hSw); go_simp; try with_reducible rfl)
  (try simp only [Act.put, List.setIfInBounds_toArray, List.set_cons_zero, List.set_cons_succ])
  refine wpAnyH_take (i := 1) (oi := ({ dst := some 21, op := Op.convert 22 9 (Operand.tmp 20), type := 9, pos := "law.go:20", after := #[{ on := 0, ground := Ground.data }], guard := none } : Oper)) (v := ?_) rfl (by kernel_rfl) (by kernel_rfl) (by kernel_rfl) (fun _ _ _ h => h) (Or.inl ⟨by rfl, ?_⟩) hS ?_
  rotate_left
  · (intro w hSw; (try dsimp only at hSw); have z := conv_ri (RI.nil .u8 w); go_simp; try with_reducible rfl)
  (try simp only [Act.put, List.setIfInBounds_toArray, List.set_cons_zero, List.set_cons_succ])
  refine wpAnyH_take (i := 2) (oi := ({ dst := some 22, op := Op.move (Operand.tmp 5), type := 22, pos := "law.go:20", after := #[], guard := none } : Oper)) (v := ?_) rfl (by kernel_rfl) (by kernel_rfl) (by kernel_rfl) (fun _ _ _ h => h) (Or.inl ⟨by rfl, ?_⟩) hS ?_
  rotate_left
  · (intro w hSw; (try dsimp only at hSw); go_simp; try with_reducible rfl)
  (try simp only [Act.put, List.setIfInBounds_toArray, List.set_cons_zero, List.set_cons_succ])
  refine wpAnyH_take (i := 3) (oi := ({ dst := some 23, op := Op.convert 22 9 (Operand.tmp 22), type := 9, pos := "law.go:20", after := #[{ on := 2, ground := Ground.data }], guard := none } : Oper)) (v := ?_) rfl (by kernel_rfl) (by kernel_rfl) (by kernel_rfl) (fun _ _ _ h => h) (Or.inl ⟨by rfl, ?_⟩) hS ?_
  rotate_left
  · (intro w hSw; (try dsimp only at hSw); have z := conv_ri (RI.nil .u8 w); go_simp; try with_reducible rfl)
  (try simp only [Act.put, List.setIfInBounds_toArray, List.set_cons_zero, List.set_cons_succ])
  refine wpAnyH_take (i := 4) (oi := ({ dst := some 24, op := Op.binOp BinOp.neq 9 (Operand.tmp 21) (Operand.tmp 23) 9, type := 4, pos := "law.go:20", after := #[{ on := 1, ground := Ground.data }, { on := 3, ground := Ground.data }], guard := none } : Oper)) (v := ?_) rfl (by kernel_rfl) (by kernel_rfl) (by kernel_rfl) (fun _ _ _ h => h) (Or.inl ⟨by rfl, ?_⟩) hS ?_
  rotate_left
  · (intro w hSw; (try dsimp only at hSw); go_simp; try with_reducible rfl)
  (try simp only [Act.put, List.setIfInBounds_toArray, List.set_cons_zero, List.set_cons_succ])
  refine wpAnyH_take (i := 5) (oi := ({ dst := some 25, op := Op.move (Operand.tmp 24), type := 4, pos := "law.go:20", after := #[{ on := 4, ground := Ground.data }], guard := none } : Oper)) (v := ?_) rfl (by kernel_rfl) (by kernel_rfl) (by kernel_rfl) (fun _ _ _ h => h) (Or.inl ⟨by rfl, ?_⟩) hS ?_
  rotate_left
  · (intro w hSw; (try dsimp only at hSw); go_simp; try with_reducible rfl)
  (try simp only [Act.put, List.setIfInBounds_toArray, List.set_cons_zero, List.set_cons_succ])
  refine wpAnyH_take (i := 6) (oi := ({ dst := some 26, op := Op.move (Operand.tmp 4), type := 25, pos := "law.go:20", after := #[{ on := 5, ground := Ground.guard }], guard := some (5, false) } : Oper)) (v := ?_) rfl (by kernel_rfl) (by kernel_rfl) (by kernel_rfl) (fun _ _ _ h => h) (Or.inl ⟨by rfl, ?_⟩) hS ?_
  rotate_left
  · (intro w hSw; (try dsimp only at hSw); go_simp; try with_reducible rfl)
  (try simp only [Act.put, List.setIfInBounds_toArray, List.set_cons_zero, List.set_cons_succ])
  refine wpAnyH_take (i := 7) (oi := ({ dst := some 27, op := Op.move (Operand.tmp 6), type := 25, pos := "law.go:20", after := #[{ on := 5, ground := Ground.guard }], guard := some (5, false) } : Oper)) (v := ?_) rfl (by kernel_rfl) (by kernel_rfl) (by kernel_rfl) (fun _ _ _ h => h) (Or.inl ⟨by rfl, ?_⟩) hS ?_
  rotate_left
  · (intro w hSw; (try dsimp only at hSw); go_simp; try with_reducible rfl)
  (try simp only [Act.put, List.setIfInBounds_toArray, List.set_cons_zero, List.set_cons_succ])
  refine wpAnyH_take (i := 8) (oi := ({ dst := some 28, op := Op.binOp BinOp.neq 25 (Operand.tmp 26) (Operand.tmp 27) 25, type := 4, pos := "law.go:20", after := #[{ on := 6, ground := Ground.data }, { on := 7, ground := Ground.data }, { on := 5, ground := Ground.guard }], guard := some (5, false) } : Oper)) (v := ?_) rfl (by kernel_rfl) (by kernel_rfl) (by kernel_rfl) (fun _ _ _ h => h) (Or.inl ⟨by rfl, ?_⟩) hS ?_
  rotate_left
  · (intro w hSw; (try dsimp only at hSw); go_simp; try with_reducible rfl)
  (try simp only [Act.put, List.setIfInBounds_toArray, List.set_cons_zero, List.set_cons_succ])
  refine wpAnyH_take (i := 9) (oi := ({ dst := some 29, op := Op.pick (Operand.tmp 25) (Operand.const (Value.bool true)) (Operand.tmp 28), type := 4, pos := "law.go:20", after := #[{ on := 5, ground := Ground.data }, { on := 8, ground := Ground.data }], guard := none } : Oper)) (v := ?_) rfl (by kernel_rfl) (by kernel_rfl) (by kernel_rfl) (fun _ _ _ h => h) (Or.inl ⟨by rfl, ?_⟩) hS ?_
  rotate_left
  · (intro w hSw; (try dsimp only at hSw); go_simp; try with_reducible rfl)
  (try simp only [Act.put, List.setIfInBounds_toArray, List.set_cons_zero, List.set_cons_succ])
  refine wpAnyH_take (i := 10) (oi := ({ dst := some 30, op := Op.move (Operand.tmp 29), type := 4, pos := "law.go:20", after := #[{ on := 9, ground := Ground.data }, { on := 5, ground := Ground.chain }], guard := none } : Oper)) (v := ?_) rfl (by kernel_rfl) (by kernel_rfl) (by kernel_rfl) (fun _ _ _ h => h) (Or.inl ⟨by rfl, ?_⟩) hS ?_
  rotate_left
  · (intro w hSw; (try dsimp only at hSw); go_simp; try with_reducible rfl)
  (try simp only [Act.put, List.setIfInBounds_toArray, List.set_cons_zero, List.set_cons_succ])
  refine wpAnyH_take (i := 11) (oi := ({ dst := some 31, op := Op.load 24 (Operand.tmp 1), type := 24, pos := "law.go:20", after := #[{ on := 10, ground := Ground.guard }], guard := some (10, false) } : Oper)) (v := .agg (rA k c l p (.slice a n cap))) rfl (by kernel_rfl) (by kernel_rfl) (by kernel_rfl) (fun _ _ _ h => h) (Or.inl ⟨by rfl, ?_⟩) hS ?_
  · (intro w hSw; (try dsimp only at hSw); exact exec_load_rec (.tmp 1) rfl rfl hSw.1)
  (try simp only [Act.put, List.setIfInBounds_toArray, List.set_cons_zero, List.set_cons_succ])
  refine wpAnyH_take (i := 13) (oi := ({ dst := some 33, op := Op.load 24 (Operand.tmp 1), type := 24, pos := "law.go:20", after := #[{ on := 10, ground := Ground.guard }], guard := some (10, false) } : Oper)) (v := .agg (rA k c l p (.slice a n cap))) rfl (by kernel_rfl) (by kernel_rfl) (by kernel_rfl) (fun _ _ _ h => h) (Or.inl ⟨by rfl, ?_⟩) hS ?_
  · (intro w hSw; (try dsimp only at hSw); exact exec_load_rec (.tmp 1) rfl rfl hSw.1)
  (try simp only [Act.put, List.setIfInBounds_toArray, List.set_cons_zero, List.set_cons_succ])
  refine rg_one 12 ({ dst := some 32, op := Op.call { callee := Callee.value (Operand.func 8), args := #[Operand.tmp 31], argTypes := #[24] }, type := 4, pos := "law.go:20", after := #[{ on := 11, ground := Ground.data }, { on := 10, ground := Ground.chain }, { on := 10, ground := Ground.guard }], guard := some (10, false) } : Oper) (by kernel_rfl) rfl (fun K hK => ?_)
  go_simp
  (go_at_call 8; (with_reducible refine (HO1.out _).mono ?_); rintro e w3 ⟨rfl, hb⟩)
  refine hK.out _ _ ?_ (fun hS1 => ?_)
  · (first | exact hS | exact ⟨hS.1.keep hb, bch hS.2 hb⟩)
  clear hK K hS; have hS := hS1; clear hS1
  (try simp only [Act.put, List.setIfInBounds_toArray, List.set_cons_zero, List.set_cons_succ])
  refine rg_one 14 ({ dst := some 34, op := Op.call { callee := Callee.value (Operand.func 9), args := #[Operand.tmp 33], argTypes := #[24] }, type := 4, pos := "law.go:20", after := #[{ on := 13, ground := Ground.data }, { on := 12, ground := Ground.chain }, { on := 10, ground := Ground.guard }], guard := some (10, false) } : Oper) (by kernel_rfl) rfl (fun K hK => ?_)
  go_simp
  (go_at_call 9; (with_reducible refine (HO2.out _).mono ?_); rintro e w4 ⟨rfl, hb⟩)
  refine hK.out _ _ ?_ (fun hS1 => ?_)
  · (first | exact hS | exact ⟨hS.1.keep hb, bch hS.2 hb⟩)
  clear hK K hS; have hS := hS1; clear hS1
  (try simp only [Act.put, List.setIfInBounds_toArray, List.set_cons_zero, List.set_cons_succ])
  refine wpAnyH_take (i := 15) (oi := ({ dst := some 35, op := Op.binOp BinOp.neq 4 (Operand.tmp 32) (Operand.tmp 34) 4, type := 4, pos := "law.go:20", after := #[{ on := 12, ground := Ground.data }, { on := 14, ground := Ground.data }, { on := 10, ground := Ground.guard }], guard := some (10, false) } : Oper)) (v := ?_) rfl (by kernel_rfl) (by kernel_rfl) (by kernel_rfl) (fun _ _ _ h => h) (Or.inl ⟨by rfl, ?_⟩) hS ?_
  rotate_left
  · (intro w hSw; (try dsimp only at hSw); go_simp; try with_reducible rfl)
  (try simp only [Act.put, List.setIfInBounds_toArray, List.set_cons_zero, List.set_cons_succ])
  refine wpAnyH_take (i := 16) (oi := ({ dst := some 36, op := Op.pick (Operand.tmp 30) (Operand.const (Value.bool true)) (Operand.tmp 35), type := 4, pos := "law.go:20", after := #[{ on := 10, ground := Ground.data }, { on := 15, ground := Ground.data }], guard := none } : Oper)) (v := ?_) rfl (by kernel_rfl) (by kernel_rfl) (by kernel_rfl) (fun _ _ _ h => h) (Or.inl ⟨by rfl, ?_⟩) hS ?_
  rotate_left
  · (intro w hSw; (try dsimp only at hSw); go_simp; try with_reducible rfl)
  (try simp only [Act.put, List.setIfInBounds_toArray, List.set_cons_zero, List.set_cons_succ])
  refine wpAnyH_take (i := 17) (oi := ({ dst := some 37, op := Op.move (Operand.tmp 36), type := 4, pos := "law.go:20", after := #[{ on := 16, ground := Ground.data }, { on := 14, ground := Ground.chain }], guard := none } : Oper)) (v := ?_) rfl (by kernel_rfl) (by kernel_rfl) (by kernel_rfl) (fun _ _ _ h => h) (Or.inl ⟨by rfl, ?_⟩) hS ?_
  rotate_left
  · (intro w hSw; (try dsimp only at hSw); go_simp; try with_reducible rfl)
  (try simp only [Act.put, List.setIfInBounds_toArray, List.set_cons_zero, List.set_cons_succ])
  refine wpAnyH_take (i := 18) (oi := ({ dst := some 38, op := Op.load 24 (Operand.tmp 1), type := 24, pos := "law.go:20", after := #[{ on := 17, ground := Ground.guard }], guard := some (17, false) } : Oper)) (v := .agg (rA k c l p (.slice a n cap))) rfl (by kernel_rfl) (by kernel_rfl) (by kernel_rfl) (fun _ _ _ h => h) (Or.inl ⟨by rfl, ?_⟩) hS ?_
  · (intro w hSw; (try dsimp only at hSw); exact exec_load_rec (.tmp 1) rfl rfl hSw.1)
  (try simp only [Act.put, List.setIfInBounds_toArray, List.set_cons_zero, List.set_cons_succ])
  refine wpAnyH_take (i := 19) (oi := ({ dst := some 39, op := Op.load 24 (Operand.tmp 1), type := 24, pos := "law.go:20", after := #[{ on := 17, ground := Ground.guard }], guard := some (17, false) } : Oper)) (v := .agg (rA k c l p (.slice a n cap))) rfl (by kernel_rfl) (by kernel_rfl) (by kernel_rfl) (fun _ _ _ h => h) (Or.inl ⟨by rfl, ?_⟩) hS ?_
  · (intro w hSw; (try dsimp only at hSw); exact exec_load_rec (.tmp 1) rfl rfl hSw.1)
  (try simp only [Act.put, List.setIfInBounds_toArray, List.set_cons_zero, List.set_cons_succ])
  refine rg_one 20 ({ dst := some 40, op := Op.call { callee := Callee.value (Operand.func 10), args := #[Operand.tmp 38, Operand.tmp 39], argTypes := #[24, 24] }, type := 4, pos := "law.go:20", after := #[{ on := 18, ground := Ground.data }, { on := 19, ground := Ground.data }, { on := 17, ground := Ground.chain }, { on := 17, ground := Ground.guard }], guard := some (17, false) } : Oper) (by kernel_rfl) rfl (fun K hK => ?_)
  go_simp
  (go_at_call 10; (with_reducible refine (HS.out _ (HR2.out.keep hS.2)).mono ?_); rintro e w5 ⟨rfl, hb⟩)
  refine hK.out _ _ ?_ (fun hS1 => ?_)
  · (first | exact hS | exact ⟨hS.1.keep hb, bch hS.2 hb⟩)
  clear hK K hS; have hS := hS1; clear hS1
  (try simp only [Act.put, List.setIfInBounds_toArray, List.set_cons_zero, List.set_cons_succ])
  refine wpAnyH_take (i := 21) (oi := ({ dst := some 41, op := Op.unOp UnOp.not 4 (Operand.tmp 40), type := 4, pos := "law.go:20", after := #[{ on := 20, ground := Ground.data }, { on := 17, ground := Ground.guard }], guard := some (17, false) } : Oper)) (v := ?_) rfl (by kernel_rfl) (by kernel_rfl) (by kernel_rfl) (fun _ _ _ h => h) (Or.inl ⟨by rfl, ?_⟩) hS ?_
  rotate_left
  · (intro w hSw; (try dsimp only at hSw); go_simp; try with_reducible rfl)
  (try simp only [Act.put, List.setIfInBounds_toArray, List.set_cons_zero, List.set_cons_succ])
  refine wpAnyH_take (i := 22) (oi := ({ dst := some 42, op := Op.pick (Operand.tmp 37) (Operand.const (Value.bool true)) (Operand.tmp 41), type := 4, pos := "law.go:20", after := #[{ on := 17, ground := Ground.data }, { on := 21, ground := Ground.data }], guard := none } : Oper)) (v := ?_) rfl (by kernel_rfl) (by kernel_rfl) (by kernel_rfl) (fun _ _ _ h => h) (Or.inl ⟨by rfl, ?_⟩) hS ?_
  rotate_left
  · (intro w hSw; (try dsimp only at hSw); go_simp; try with_reducible rfl)
  (try simp only [Act.put, List.setIfInBounds_toArray, List.set_cons_zero, List.set_cons_succ])
  refine wpAnyH_done (by kernel_rfl) ?_ _
  have HA5 := Lib.hid hS.1
  have HB5 := Lib.hid (bch HB2.out hS.2)
  have HR5 := Lib.hid (HR2.out.keep hS.2)
  clear hS
  go_wp2_with (first
    | (go_at_call 9; (with_reducible refine (HO2.out _).mono ?_); rintro e w6 ⟨rfl, hb6⟩; have HA6 := Lib.hid (HA5.out.keep hb6); have HR6 := Lib.hid (HR5.out.keep hb6); have HB6 := Lib.hid (bch HB5.out hb6); clear hb6)
    | (go_at_call 11; (with_reducible refine (HX.out _ HR6.out).mono ?_); rintro e w7 ⟨a7, c7, rfl, hb7⟩; have HA7 := Lib.hid (HA6.out.keep hb7); have HB7 := Lib.hid (bch HB6.out hb7); clear hb7)
    | (go_at_call 12; (with_reducible refine (HZ.out _).mono ?_); rintro e w8 ⟨rfl, hb8⟩; have HB8 := Lib.hid (bch HB7.out hb8); clear hb8)
    | (go_at_call 13; (with_reducible refine (HD.out _).mono ?_); rintro e w9 ⟨a9, n9, c9, rfl, hb9⟩; have HB9 := Lib.hid (bch HB8.out (bch hb9 (bnew w9 (.cells (rA 0 0 0 0 (.slice none 0 0)) 24) (rA 0 0 0 0 (.slice a9 n9 c9))))); clear hb9)
    | (refine wpList_store_row rfl 24 _ _ rfl w9.heap.size (rA 0 0 0 0 (.slice a9 n9 c9)) rfl rfl _ _ (heap_alloc_last w9 _) (rec_info _ rfl) rfl (rec_one _ _ _ _ _ _ _) ?_)
    | (go_at_call 15; (with_reducible refine (awake_any _).mono ?_); rintro e wz ⟨rfl, hbz⟩; have HBZ := Lib.hid (bch HB9.out hbz); clear hbz)
    | (refine wpl_load_rec rfl (.tmp 1) rfl rfl HA7.out ?_)
    | (refine wpl_load_rec rfl (.tmp 1) rfl rfl HA6.out ?_)
    | (refine wpl_load_rec rfl (.tmp 1) rfl rfl HA5.out ?_))
  go_ret
  exact ⟨rfl, HBZ.out⟩
set_option maxRecDepth 8000 in
set_option maxHeartbeats 4000000 in
theorem enc_right (k c l p : Int) (a : Option Addr) (n cap : Nat) (d : List Int) (W : World) (hri : RI .u8 W (.slice a n cap) n d) (hb : isB d) (hn : (n : Int) ≤ 140737488351232) (hr : recOk k c l p = true) (hs : (recH k c l p ++ d).length ≤ 512) :
    Calls Try.prog 3 #[.agg (rA k c l p (.slice a n cap))] W fun e w' => e = .returned (.bool true) ∧ Below W.heap.size W w' := by
  have HA := Lib.hid (RO.alloc (k := k) (c := c) (l := l) (p := p) (v := .slice a n cap) W)
  have HB := Lib.hid (balloc W (.cells (rA k c l p (.slice a n cap)) 24))
  have HR := Lib.hid (hri.keep HB.out)
  have HS : Hid (∀ w, RI .u8 w (.slice a n cap) n d → Calls Try.prog 10 #[.agg (rA k c l p (.slice a n cap)), .agg (rA k c l p (.slice a n cap))] w fun e w' => e = .returned (.bool true) ∧ Below w.heap.size w w') := Lib.hid fun w h =>
    (prsame_any k c l p _ n d k c l p _ n d w h h hb hb).mono fun _ _ ⟨e, b⟩ => ⟨by rw [e]; simp, b⟩
  have HO1 : Hid (∀ w, Calls Try.prog 8 #[.agg (rA k c l p (.slice a n cap))] w fun e w' => e = .returned (.bool true) ∧ Below w.heap.size w w') := Lib.hid fun w => by rw [← hr]; exact prright_any k c l p _ w
  have HO2 : Hid (∀ w, Calls Try.prog 9 #[.agg (rA k c l p (.slice a n cap))] w fun e w' => e = .returned (.bool true) ∧ Below w.heap.size w w') := Lib.hid fun w => by rw [← hr]; exact rrecok_any k c l p _ w
  obtain ⟨zs, hzs⟩ : ∃ zs, recH k c l p ++ d = zs := ⟨_, rfl⟩
  obtain ⟨q, hq⟩ : ∃ q, zs.length = q := ⟨_, rfl⟩
  have hgot := rec_got hr d hs
  have hzb : isB zs := by rw [← hzs]; exact (recH_bytes hr).append hb
  rw [hzs] at hgot
  have HE1 : Hid (∀ w, RI .u8 w (.slice a n cap) n d → Calls Try.prog 6 #[.agg (rA k c l p (.slice a n cap))] w fun e w' => ∃ a' c', e = .returned (.tuple #[.slice a' q c', .int .i64 0]) ∧ RI .u8 w' (.slice a' q c') q zs ∧ Below w.heap.size w w') := Lib.hid fun w h =>
    (prenc_right k c l p _ n d w hr h hs).mono fun _ _ ⟨v', he, ho, hb⟩ => by
      rw [hzs, hq] at ho
      obtain ⟨a', c', rfl⟩ := own_form ho
      exact ⟨a', c', he, RI.own ho, hb⟩
  have HE2 : Hid (∀ w, RI .u8 w (.slice a n cap) n d → Calls Try.prog 7 #[.agg (rA k c l p (.slice a n cap))] w fun e w' => ∃ a' c', e = .returned (.tuple #[.slice a' q c', .int .i64 0]) ∧ RI .u8 w' (.slice a' q c') q zs ∧ Below w.heap.size w w') := Lib.hid fun w h =>
    (rrenc_right k c l p _ n d w hr h (by omega) hs).mono fun _ _ ⟨v', he, ho, hb⟩ => by
      rw [hzs, hq] at ho
      obtain ⟨a', c', rfl⟩ := own_form ho
      exact ⟨a', c', he, RI.own ho, hb⟩
  have HD : Hid (∀ (v : Value) (w : World), RI .u8 w v q zs → Calls Try.prog 13 #[v] w fun e w' => ∃ a' n' c', e = .returned (.tuple #[.agg (rA k c l p (.slice a' n' c')), .int .i64 0]) ∧ RI .u8 w' (.slice a' n' c') n' d ∧ Below w.heap.size w w') := Lib.hid fun v w h =>
    (prdec_any v q zs w h hzb).mono fun _ _ hq => dec_form hgot hq
  have HZ : Hid (∀ w, Calls Try.prog 12 #[.agg (rA k c l p (.slice a n cap))] w fun e w' => e = .returned (.int .i64 q) ∧ Below w.heap.size w w') := Lib.hid fun w => by rw [← hq, ← hzs]; exact prsize_right k c l p a n cap d w hr hri.length (by omega)
  have HX : Hid (∀ w, RI .u8 w (.slice a n cap) n d → Calls Try.prog 11 #[.agg (rA k c l p (.slice a n cap))] w fun e w' => ∃ a' c', e = .returned (.slice a' q c') ∧ Below w.heap.size w w') := Lib.hid fun w h =>
    (rrbytes_any k c l p _ n d w hr h (by omega)).mono fun _ _ ⟨v', he, ho, hb⟩ => by
      rw [hzs, hq] at ho
      obtain ⟨a', c', rfl⟩ := own_form ho
      exact ⟨a', c', he, hb⟩
  have HT := Lib.hid (same_self k c l p d hb)
  clear hr hri hb hn hs hq hzs hgot hzb
  go_enter Try.func3, Try.ntmps3
  go_wp2_with (first
    | (go_at_call 6; (with_reducible refine (HE1.out _ HR.out).mono ?_); rintro e w1 ⟨a1, c1, rfl, hr1, hb1⟩; have HA1 := Lib.hid (HA.out.keep hb1); have HR1 := Lib.hid (HR.out.keep hb1); have HB1 := Lib.hid (bch HB.out hb1); have HE3 := Lib.hid hr1; clear hb1 hr1)
    | (go_at_call 7; (with_reducible refine (HE2.out _ HR1.out).mono ?_); rintro e w2 ⟨a2, c2, rfl, hr2, hb2⟩; have HA2 := Lib.hid (HA1.out.keep hb2); have HR2 := Lib.hid (HR1.out.keep hb2); have HE3 := Lib.hid (HE3.out.keep hb2); have HE4 := Lib.hid hr2; have HB2 := Lib.hid (bch HB1.out hb2); clear hb2 hr2)
    | (refine wpl_load_rec rfl (.tmp 1) rfl rfl HA1.out ?_)
    | (refine wpl_load_rec rfl (.tmp 1) rfl rfl HA.out ?_))
  refine wp_region_held_drew (S := (fun w' => RO w' W.heap.size k c l p (.slice a n cap) ∧ Below w2.heap.size w2 w')) (by kernel_rfl) ⟨HA2.out.keep ((Below.refl _ _).drew), (Below.refl _ _).drew⟩ (fun hS => ?_)
  refine wpAnyH_take (i := 0) (oi := ({ dst := some 20, op := Op.move (Operand.tmp 3), type := 22, pos := "law.go:20", after := #[], guard := none } : Oper)) (v := ?_) rfl (by kernel_rfl) (by kernel_rfl) (by kernel_rfl) (fun _ _ _ h => h) (Or.inl ⟨by rfl, ?_⟩) hS ?_
  rotate_left
  · (intro w hSw; (try dsimp only at hSw); go_simp; try with_reducible rfl)
  (try simp only [Act.put, List.setIfInBounds_toArray, List.set_cons_zero, List.set_cons_succ])
  refine wpAnyH_take (i := 1) (oi := ({ dst := some 21, op := Op.convert 22 9 (Operand.tmp 20), type := 9, pos := "law.go:20", after := #[{ on := 0, ground := Ground.data }], guard := none } : Oper)) (v := ?_) rfl (by kernel_rfl) (by kernel_rfl) (by kernel_rfl) (fun _ _ _ h => h) (Or.inl ⟨by rfl, ?_⟩) hS ?_
  rotate_left
  · (intro w hSw; (try dsimp only at hSw); have z := conv_ri (HE3.out.keep hSw.2); go_simp; try with_reducible rfl)
  (try simp only [Act.put, List.setIfInBounds_toArray, List.set_cons_zero, List.set_cons_succ])
  refine wpAnyH_take (i := 2) (oi := ({ dst := some 22, op := Op.move (Operand.tmp 5), type := 22, pos := "law.go:20", after := #[], guard := none } : Oper)) (v := ?_) rfl (by kernel_rfl) (by kernel_rfl) (by kernel_rfl) (fun _ _ _ h => h) (Or.inl ⟨by rfl, ?_⟩) hS ?_
  rotate_left
  · (intro w hSw; (try dsimp only at hSw); go_simp; try with_reducible rfl)
  (try simp only [Act.put, List.setIfInBounds_toArray, List.set_cons_zero, List.set_cons_succ])
  refine wpAnyH_take (i := 3) (oi := ({ dst := some 23, op := Op.convert 22 9 (Operand.tmp 22), type := 9, pos := "law.go:20", after := #[{ on := 2, ground := Ground.data }], guard := none } : Oper)) (v := ?_) rfl (by kernel_rfl) (by kernel_rfl) (by kernel_rfl) (fun _ _ _ h => h) (Or.inl ⟨by rfl, ?_⟩) hS ?_
  rotate_left
  · (intro w hSw; (try dsimp only at hSw); have z := conv_ri (HE4.out.keep hSw.2); go_simp; try with_reducible rfl)
  (try simp only [Act.put, List.setIfInBounds_toArray, List.set_cons_zero, List.set_cons_succ])
  refine wpAnyH_take (i := 4) (oi := ({ dst := some 24, op := Op.binOp BinOp.neq 9 (Operand.tmp 21) (Operand.tmp 23) 9, type := 4, pos := "law.go:20", after := #[{ on := 1, ground := Ground.data }, { on := 3, ground := Ground.data }], guard := none } : Oper)) (v := ?_) rfl (by kernel_rfl) (by kernel_rfl) (by kernel_rfl) (fun _ _ _ h => h) (Or.inl ⟨by rfl, ?_⟩) hS ?_
  rotate_left
  · (intro w hSw; (try dsimp only at hSw); go_simp; try with_reducible rfl)
  (try simp only [Act.put, List.setIfInBounds_toArray, List.set_cons_zero, List.set_cons_succ])
  refine wpAnyH_take (i := 5) (oi := ({ dst := some 25, op := Op.move (Operand.tmp 24), type := 4, pos := "law.go:20", after := #[{ on := 4, ground := Ground.data }], guard := none } : Oper)) (v := ?_) rfl (by kernel_rfl) (by kernel_rfl) (by kernel_rfl) (fun _ _ _ h => h) (Or.inl ⟨by rfl, ?_⟩) hS ?_
  rotate_left
  · (intro w hSw; (try dsimp only at hSw); go_simp; try with_reducible rfl)
  (try simp only [Act.put, List.setIfInBounds_toArray, List.set_cons_zero, List.set_cons_succ])
  refine wpAnyH_take (i := 6) (oi := ({ dst := some 26, op := Op.move (Operand.tmp 4), type := 25, pos := "law.go:20", after := #[{ on := 5, ground := Ground.guard }], guard := some (5, false) } : Oper)) (v := ?_) rfl (by kernel_rfl) (by kernel_rfl) (by kernel_rfl) (fun _ _ _ h => h) (Or.inl ⟨by rfl, ?_⟩) hS ?_
  rotate_left
  · (intro w hSw; (try dsimp only at hSw); go_simp; try with_reducible rfl)
  (try simp only [Act.put, List.setIfInBounds_toArray, List.set_cons_zero, List.set_cons_succ])
  refine wpAnyH_take (i := 7) (oi := ({ dst := some 27, op := Op.move (Operand.tmp 6), type := 25, pos := "law.go:20", after := #[{ on := 5, ground := Ground.guard }], guard := some (5, false) } : Oper)) (v := ?_) rfl (by kernel_rfl) (by kernel_rfl) (by kernel_rfl) (fun _ _ _ h => h) (Or.inl ⟨by rfl, ?_⟩) hS ?_
  rotate_left
  · (intro w hSw; (try dsimp only at hSw); go_simp; try with_reducible rfl)
  (try simp only [Act.put, List.setIfInBounds_toArray, List.set_cons_zero, List.set_cons_succ])
  refine wpAnyH_take (i := 8) (oi := ({ dst := some 28, op := Op.binOp BinOp.neq 25 (Operand.tmp 26) (Operand.tmp 27) 25, type := 4, pos := "law.go:20", after := #[{ on := 6, ground := Ground.data }, { on := 7, ground := Ground.data }, { on := 5, ground := Ground.guard }], guard := some (5, false) } : Oper)) (v := ?_) rfl (by kernel_rfl) (by kernel_rfl) (by kernel_rfl) (fun _ _ _ h => h) (Or.inl ⟨by rfl, ?_⟩) hS ?_
  rotate_left
  · (intro w hSw; (try dsimp only at hSw); go_simp; try with_reducible rfl)
  (try simp only [Act.put, List.setIfInBounds_toArray, List.set_cons_zero, List.set_cons_succ])
  refine wpAnyH_take (i := 9) (oi := ({ dst := some 29, op := Op.pick (Operand.tmp 25) (Operand.const (Value.bool true)) (Operand.tmp 28), type := 4, pos := "law.go:20", after := #[{ on := 5, ground := Ground.data }, { on := 8, ground := Ground.data }], guard := none } : Oper)) (v := ?_) rfl (by kernel_rfl) (by kernel_rfl) (by kernel_rfl) (fun _ _ _ h => h) (Or.inl ⟨by rfl, ?_⟩) hS ?_
  rotate_left
  · (intro w hSw; (try dsimp only at hSw); go_simp; try with_reducible rfl)
  (try simp only [Act.put, List.setIfInBounds_toArray, List.set_cons_zero, List.set_cons_succ])
  refine wpAnyH_take (i := 10) (oi := ({ dst := some 30, op := Op.move (Operand.tmp 29), type := 4, pos := "law.go:20", after := #[{ on := 9, ground := Ground.data }, { on := 5, ground := Ground.chain }], guard := none } : Oper)) (v := ?_) rfl (by kernel_rfl) (by kernel_rfl) (by kernel_rfl) (fun _ _ _ h => h) (Or.inl ⟨by rfl, ?_⟩) hS ?_
  rotate_left
  · (intro w hSw; (try dsimp only at hSw); go_simp; try with_reducible rfl)
  (try simp only [Act.put, List.setIfInBounds_toArray, List.set_cons_zero, List.set_cons_succ])
  refine wpAnyH_take (i := 11) (oi := ({ dst := some 31, op := Op.load 24 (Operand.tmp 1), type := 24, pos := "law.go:20", after := #[{ on := 10, ground := Ground.guard }], guard := some (10, false) } : Oper)) (v := .agg (rA k c l p (.slice a n cap))) rfl (by kernel_rfl) (by kernel_rfl) (by kernel_rfl) (fun _ _ _ h => h) (Or.inl ⟨by rfl, ?_⟩) hS ?_
  · (intro w hSw; (try dsimp only at hSw); exact exec_load_rec (.tmp 1) rfl rfl hSw.1)
  (try simp only [Act.put, List.setIfInBounds_toArray, List.set_cons_zero, List.set_cons_succ])
  refine wpAnyH_take (i := 13) (oi := ({ dst := some 33, op := Op.load 24 (Operand.tmp 1), type := 24, pos := "law.go:20", after := #[{ on := 10, ground := Ground.guard }], guard := some (10, false) } : Oper)) (v := .agg (rA k c l p (.slice a n cap))) rfl (by kernel_rfl) (by kernel_rfl) (by kernel_rfl) (fun _ _ _ h => h) (Or.inl ⟨by rfl, ?_⟩) hS ?_
  · (intro w hSw; (try dsimp only at hSw); exact exec_load_rec (.tmp 1) rfl rfl hSw.1)
  (try simp only [Act.put, List.setIfInBounds_toArray, List.set_cons_zero, List.set_cons_succ])
  refine rg_one 12 ({ dst := some 32, op := Op.call { callee := Callee.value (Operand.func 8), args := #[Operand.tmp 31], argTypes := #[24] }, type := 4, pos := "law.go:20", after := #[{ on := 11, ground := Ground.data }, { on := 10, ground := Ground.chain }, { on := 10, ground := Ground.guard }], guard := some (10, false) } : Oper) (by kernel_rfl) rfl (fun K hK => ?_)
  go_simp
  (go_at_call 8; (with_reducible refine (HO1.out _).mono ?_); rintro e w3 ⟨rfl, hb⟩)
  refine hK.out _ _ ?_ (fun hS1 => ?_)
  · (first | exact hS | exact ⟨hS.1.keep hb, bch hS.2 hb⟩)
  clear hK K hS; have hS := hS1; clear hS1
  (try simp only [Act.put, List.setIfInBounds_toArray, List.set_cons_zero, List.set_cons_succ])
  refine rg_one 14 ({ dst := some 34, op := Op.call { callee := Callee.value (Operand.func 9), args := #[Operand.tmp 33], argTypes := #[24] }, type := 4, pos := "law.go:20", after := #[{ on := 13, ground := Ground.data }, { on := 12, ground := Ground.chain }, { on := 10, ground := Ground.guard }], guard := some (10, false) } : Oper) (by kernel_rfl) rfl (fun K hK => ?_)
  go_simp
  (go_at_call 9; (with_reducible refine (HO2.out _).mono ?_); rintro e w4 ⟨rfl, hb⟩)
  refine hK.out _ _ ?_ (fun hS1 => ?_)
  · (first | exact hS | exact ⟨hS.1.keep hb, bch hS.2 hb⟩)
  clear hK K hS; have hS := hS1; clear hS1
  (try simp only [Act.put, List.setIfInBounds_toArray, List.set_cons_zero, List.set_cons_succ])
  refine wpAnyH_take (i := 15) (oi := ({ dst := some 35, op := Op.binOp BinOp.neq 4 (Operand.tmp 32) (Operand.tmp 34) 4, type := 4, pos := "law.go:20", after := #[{ on := 12, ground := Ground.data }, { on := 14, ground := Ground.data }, { on := 10, ground := Ground.guard }], guard := some (10, false) } : Oper)) (v := ?_) rfl (by kernel_rfl) (by kernel_rfl) (by kernel_rfl) (fun _ _ _ h => h) (Or.inl ⟨by rfl, ?_⟩) hS ?_
  rotate_left
  · (intro w hSw; (try dsimp only at hSw); go_simp; try with_reducible rfl)
  (try simp only [Act.put, List.setIfInBounds_toArray, List.set_cons_zero, List.set_cons_succ])
  refine wpAnyH_take (i := 16) (oi := ({ dst := some 36, op := Op.pick (Operand.tmp 30) (Operand.const (Value.bool true)) (Operand.tmp 35), type := 4, pos := "law.go:20", after := #[{ on := 10, ground := Ground.data }, { on := 15, ground := Ground.data }], guard := none } : Oper)) (v := ?_) rfl (by kernel_rfl) (by kernel_rfl) (by kernel_rfl) (fun _ _ _ h => h) (Or.inl ⟨by rfl, ?_⟩) hS ?_
  rotate_left
  · (intro w hSw; (try dsimp only at hSw); go_simp; try with_reducible rfl)
  (try simp only [Act.put, List.setIfInBounds_toArray, List.set_cons_zero, List.set_cons_succ])
  refine wpAnyH_take (i := 17) (oi := ({ dst := some 37, op := Op.move (Operand.tmp 36), type := 4, pos := "law.go:20", after := #[{ on := 16, ground := Ground.data }, { on := 14, ground := Ground.chain }], guard := none } : Oper)) (v := ?_) rfl (by kernel_rfl) (by kernel_rfl) (by kernel_rfl) (fun _ _ _ h => h) (Or.inl ⟨by rfl, ?_⟩) hS ?_
  rotate_left
  · (intro w hSw; (try dsimp only at hSw); go_simp; try with_reducible rfl)
  (try simp only [Act.put, List.setIfInBounds_toArray, List.set_cons_zero, List.set_cons_succ])
  refine wpAnyH_take (i := 18) (oi := ({ dst := some 38, op := Op.load 24 (Operand.tmp 1), type := 24, pos := "law.go:20", after := #[{ on := 17, ground := Ground.guard }], guard := some (17, false) } : Oper)) (v := .agg (rA k c l p (.slice a n cap))) rfl (by kernel_rfl) (by kernel_rfl) (by kernel_rfl) (fun _ _ _ h => h) (Or.inl ⟨by rfl, ?_⟩) hS ?_
  · (intro w hSw; (try dsimp only at hSw); exact exec_load_rec (.tmp 1) rfl rfl hSw.1)
  (try simp only [Act.put, List.setIfInBounds_toArray, List.set_cons_zero, List.set_cons_succ])
  refine wpAnyH_take (i := 19) (oi := ({ dst := some 39, op := Op.load 24 (Operand.tmp 1), type := 24, pos := "law.go:20", after := #[{ on := 17, ground := Ground.guard }], guard := some (17, false) } : Oper)) (v := .agg (rA k c l p (.slice a n cap))) rfl (by kernel_rfl) (by kernel_rfl) (by kernel_rfl) (fun _ _ _ h => h) (Or.inl ⟨by rfl, ?_⟩) hS ?_
  · (intro w hSw; (try dsimp only at hSw); exact exec_load_rec (.tmp 1) rfl rfl hSw.1)
  (try simp only [Act.put, List.setIfInBounds_toArray, List.set_cons_zero, List.set_cons_succ])
  refine rg_one 20 ({ dst := some 40, op := Op.call { callee := Callee.value (Operand.func 10), args := #[Operand.tmp 38, Operand.tmp 39], argTypes := #[24, 24] }, type := 4, pos := "law.go:20", after := #[{ on := 18, ground := Ground.data }, { on := 19, ground := Ground.data }, { on := 17, ground := Ground.chain }, { on := 17, ground := Ground.guard }], guard := some (17, false) } : Oper) (by kernel_rfl) rfl (fun K hK => ?_)
  go_simp
  (go_at_call 10; (with_reducible refine (HS.out _ (HR2.out.keep hS.2)).mono ?_); rintro e w5 ⟨rfl, hb⟩)
  refine hK.out _ _ ?_ (fun hS1 => ?_)
  · (first | exact hS | exact ⟨hS.1.keep hb, bch hS.2 hb⟩)
  clear hK K hS; have hS := hS1; clear hS1
  (try simp only [Act.put, List.setIfInBounds_toArray, List.set_cons_zero, List.set_cons_succ])
  refine wpAnyH_take (i := 21) (oi := ({ dst := some 41, op := Op.unOp UnOp.not 4 (Operand.tmp 40), type := 4, pos := "law.go:20", after := #[{ on := 20, ground := Ground.data }, { on := 17, ground := Ground.guard }], guard := some (17, false) } : Oper)) (v := ?_) rfl (by kernel_rfl) (by kernel_rfl) (by kernel_rfl) (fun _ _ _ h => h) (Or.inl ⟨by rfl, ?_⟩) hS ?_
  rotate_left
  · (intro w hSw; (try dsimp only at hSw); go_simp; try with_reducible rfl)
  (try simp only [Act.put, List.setIfInBounds_toArray, List.set_cons_zero, List.set_cons_succ])
  refine wpAnyH_take (i := 22) (oi := ({ dst := some 42, op := Op.pick (Operand.tmp 37) (Operand.const (Value.bool true)) (Operand.tmp 41), type := 4, pos := "law.go:20", after := #[{ on := 17, ground := Ground.data }, { on := 21, ground := Ground.data }], guard := none } : Oper)) (v := ?_) rfl (by kernel_rfl) (by kernel_rfl) (by kernel_rfl) (fun _ _ _ h => h) (Or.inl ⟨by rfl, ?_⟩) hS ?_
  rotate_left
  · (intro w hSw; (try dsimp only at hSw); go_simp; try with_reducible rfl)
  (try simp only [Act.put, List.setIfInBounds_toArray, List.set_cons_zero, List.set_cons_succ])
  refine wpAnyH_done (by kernel_rfl) ?_ _
  have HA5 := Lib.hid hS.1
  have HB5 := Lib.hid (bch HB2.out hS.2)
  have HR5 := Lib.hid (HR2.out.keep hS.2)
  have HE5 := Lib.hid (HE3.out.keep hS.2)
  clear hS
  go_wp2_with (first
    | (go_at_call 9; (with_reducible refine (HO2.out _).mono ?_); rintro e w6 ⟨rfl, hb6⟩; have HA6 := Lib.hid (HA5.out.keep hb6); have HR6 := Lib.hid (HR5.out.keep hb6); have HE6 := Lib.hid (HE5.out.keep hb6); have HB6 := Lib.hid (bch HB5.out hb6); clear hb6)
    | (go_at_call 11; (with_reducible refine (HX.out _ HR6.out).mono ?_); rintro e w7 ⟨a7, c7, rfl, hb7⟩; have HA7 := Lib.hid (HA6.out.keep hb7); have HR7 := Lib.hid (HR6.out.keep hb7); have HE7 := Lib.hid (HE6.out.keep hb7); have HB7 := Lib.hid (bch HB6.out hb7); clear hb7)
    | (go_at_call 12; (with_reducible refine (HZ.out _).mono ?_); rintro e w8 ⟨rfl, hb8⟩; have HA8 := Lib.hid (HA7.out.keep hb8); have HR8 := Lib.hid (HR7.out.keep hb8); have HE8 := Lib.hid (HE7.out.keep hb8); have HB8 := Lib.hid (bch HB7.out hb8); clear hb8)
    | (go_at_call 13; (with_reducible refine (HD.out _ _ HE8.out).mono ?_); rintro e w9 ⟨a9, n9, c9, rfl, hr9, hb9⟩; have hbn := bnew w9 (.cells (rA 0 0 0 0 (.slice none 0 0)) 24) (rA k c l p (.slice a9 n9 c9)); have HB9 := Lib.hid (bch HB8.out (bch hb9 hbn)); have HA9 := Lib.hid ((HA8.out.keep hb9).keep hbn); have HR9 := Lib.hid ((HR8.out.keep hb9).keep hbn); have HQ9 := Lib.hid (hr9.keep hbn); have HO9 := Lib.hid (RO.new (w := w9) (k := k) (c := c) (l := l) (p := p) (v := .slice a9 n9 c9) (rA 0 0 0 0 (.slice none 0 0))); clear hb9 hbn hr9)
    | (refine wpList_store_row rfl 24 _ _ rfl w9.heap.size (rA k c l p (.slice a9 n9 c9)) rfl rfl _ _ (heap_alloc_last w9 _) (rec_info _ rfl) rfl (rec_one _ _ _ _ _ _ _) ?_)
    | (go_at_call 14; (with_reducible refine (HT.out _ _ _ _ _ HQ9.out HR9.out).mono ?_); rintro e wx ⟨rfl, hbx⟩; have HBX := Lib.hid (bch HB9.out hbx); clear hbx)
    | (go_at_call 15; (with_reducible refine (awake_any _).mono ?_); rintro e wz ⟨rfl, hbz⟩; have HBZ := Lib.hid (bch HBX.out hbz); clear hbz)
    | (refine wpl_load_rec rfl (.tmp 1) rfl rfl HA9.out ?_)
    | (refine wpl_load_rec rfl (.tmp 1) rfl rfl HA7.out ?_)
    | (refine wpl_load_rec rfl (.tmp 1) rfl rfl HA6.out ?_)
    | (refine wpl_load_rec rfl (.tmp 1) rfl rfl HA5.out ?_)
    | (refine wpl_load_rec rfl (.tmp 8) rfl rfl HO9.out ?_))
  go_ret
  exact ⟨rfl, HBZ.out⟩
theorem encodes_walk (k c l p : Int) (a : Option Addr) (n cap : Nat) (d : List Int) (W : World) (hri : RI .u8 W (.slice a n cap) n d) (hb : isB d) (hn : (n : Int) ≤ 140737488351232) :
    Calls Try.prog 3 #[.agg (rA k c l p (.slice a n cap))] W fun e w' => e = .returned (.bool true) ∧ Below W.heap.size W w' := by
  cases hr : recOk k c l p with
  | false => exact enc_wrong k c l p a n cap d W hri hb hn hr
  | true =>
    by_cases hs : (recH k c l p ++ d).length ≤ 512
    · exact enc_right k c l p a n cap d W hri hb hn hr hs
    · exact enc_long k c l p a n cap d W hri hb hn hr (by omega)
end Go.Proofs.Ytnnkaddgbcdehaa
