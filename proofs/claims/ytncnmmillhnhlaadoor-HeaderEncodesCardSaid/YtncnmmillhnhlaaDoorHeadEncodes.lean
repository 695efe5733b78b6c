/-
  THE WALK OF HeaderEncodes (layer 18): whatever two headers come in, the call returns true and changes nothing that was there. (Written by wip/gen/g30.py.)
-/
import Derived.Test.YtncnmmillhnhlaaDoorHeadLaws
import Derived.Test.YtncnmmillhnhlaaDoorHeadRightR
import Derived.Test.YtncnmmillhnhlaaDoorHeadSec
namespace Go.Proofs.YtncnmmillhnhlaaDoor
open Go.RowKit
/-- where the law stands: both headers, and the sector that was made -/
structure ES (W : World) (h g : Hdr) (bs : Nat) (l : List Int) (w : World) : Prop where
  below : Below W.heap.size W w
  hh : HB w W.heap.size h
  hg : HB w (W.heap.size + 1) g
  sec : Blk w bs l
theorem ES.next {W w w' : World} {h g : Hdr} {bs : Nat} {l : List Int} (k : ES W h g bs l w) (hb : Below w.heap.size w w') : ES W h g bs l w' := ⟨bch k.below hb, k.hh.keep hb, k.hg.keep hb, k.sec.keep hb⟩
theorem ES.all {W w : World} {e s f e' s' f' : Int} {l' l'' : List Int} {bs : Nat} {l : List Int} (k : ES W ⟨e, s, f, l'⟩ ⟨e', s', f', l''⟩ bs l w) :
    w.cell? ⟨W.heap.size, 0, none⟩ = some (.int .u64 e) ∧ w.cell? ⟨W.heap.size, 1, none⟩ = some (.int .i64 s) ∧ w.cell? ⟨W.heap.size + 1, 0, none⟩ = some (.int .u64 e') ∧ w.cell? ⟨W.heap.size + 1, 1, none⟩ = some (.int .i64 s') ∧ ES W ⟨e, s, f, l'⟩ ⟨e', s', f', l''⟩ bs l w :=
  ⟨k.hh.cells.1, k.hh.cells.2.1, k.hg.cells.1, k.hg.cells.2.1, k⟩
set_option maxRecDepth 8000 in
set_option maxHeartbeats 4000000 in
theorem encodes_wrong_above (e s f e' s' f' : Int) (l l' : List Int) (ht : HdT ⟨e, s, f, l⟩) (hg : HdT ⟨e', s', f', l'⟩) (hk : hdOk ⟨e, s, f, l⟩ = false) (w : World) (hT : Tab w) (n1 : e' < e) :
    Calls Tryd.prog 3 #[.agg (hv ⟨e, s, f, l⟩), .agg (hv ⟨e', s', f', l'⟩)] w fun r w' => r = .returned (.bool true) ∧ Below w.heap.size w w' := by
  obtain ⟨w0, hw0⟩ : ∃ q, (w.alloc (.cells (hv ⟨e, s, f, l⟩) 25)).alloc (.cells (hv ⟨e', s', f', l'⟩) 25) = q := ⟨_, rfl⟩
  have hs1 : (w.alloc (.cells (hv ⟨e, s, f, l⟩) 25)).heap.size = w.heap.size + 1 := alloc_size w _
  have HH := Lib.hid (show HB w0 w.heap.size ⟨e, s, f, l⟩ from by rw [← hw0]; exact (HB.new w _ ht.n).keep (balloc _ _))
  have HG := Lib.hid (show HB w0 (w.heap.size + 1) ⟨e', s', f', l'⟩ from by rw [← hw0, ← hs1]; exact HB.new _ _ hg.n)
  have HW := Lib.hid (show Below w.heap.size w w0 from by rw [← hw0]; exact bch (balloc w _) (balloc _ _))
  have HT := Lib.hid hT
  have HZ := Lib.hid z64_cells
  have HN := Lib.hid ht.n
  have HSN := Lib.hid (secH_length ht.n)
  have HR : Hid (∀ w, Calls Tryd.prog 7 #[.agg (hv ⟨e, s, f, l⟩)] w fun r w' => r = .returned (.bool false) ∧ Below w.heap.size w w') := Lib.hid fun w => by rw [← hk]; exact hright_any _ ht w
  have HRR : Hid (∀ w, Calls Tryd.prog 8 #[.agg (hv ⟨e, s, f, l⟩)] w fun r w' => r = .returned (.bool false) ∧ Below w.heap.size w w') := Lib.hid fun w => by rw [← hk]; exact rright_any _ ht w
  have HNW : Hid (∀ w, Calls Tryd.prog 9 #[.agg (hv ⟨e, s, f, l⟩), .agg (hv ⟨e', s', f', l'⟩)] w fun r w' => r = .returned (.bool true) ∧ Below w.heap.size w w') := Lib.hid fun w => (newer_any _ _ ht hg w).mono fun _ _ ⟨q1, q2⟩ => ⟨q1.trans (ret_bool (by simp [n1])), q2⟩
  have HE : Hid (∀ w, Tab w → Calls Tryd.prog 6 #[.agg (hv ⟨e, s, f, l⟩)] w fun r w' => r = .returned (.tuple #[.agg (sv z64), .int .i64 13]) ∧ Below w.heap.size w w') := Lib.hid fun w _ => henc_no _ ht hk w
  have d13 : decide (e' < e) = true := decide_eq_true n1
  clear ht hg hk hT hs1
  go_enter Tryd.func3, Tryd.ntmps3
  go_wp2_with (first
    | (go_at_call 6; (with_reducible refine (HE.out _ (HT.out.keep HW.out)).mono ?_); rintro r w1 ⟨rfl, hb1⟩; have HB1 := Lib.hid hb1; clear hb1)
    | (rw [← HZ.out]; refine wpl_put_sec rfl (.tmp 5) (.tmp 12) rfl w1.heap.size z64 z64 (Blk.new w1 z64 z64_length) z64_length rfl rfl ?_; intro w2 HC2 HG2; have HX2 := Lib.hid (bch HB1.out (new_below HG2.out)); have HES : Hid (ES w ⟨e, s, f, l⟩ ⟨e', s', f', l'⟩ w1.heap.size z64 w2) := Lib.hid ⟨bch HW.out HX2.out, HH.out.keep HX2.out, HG.out.keep HX2.out, HC2.out⟩)
    | (refine wpl_load_hd (by rfl) (.tmp 2) rfl rfl HH.out ?_))
  go_wp2_with fail
  refine wp_region_held_drew (S := (fun w' => w'.cell? ⟨w.heap.size, 0, none⟩ = some (.int .u64 e) ∧ w'.cell? ⟨w.heap.size, 1, none⟩ = some (.int .i64 s) ∧ w'.cell? ⟨w.heap.size + 1, 0, none⟩ = some (.int .u64 e') ∧ w'.cell? ⟨w.heap.size + 1, 1, none⟩ = some (.int .i64 s') ∧ ES w ⟨e, s, f, l⟩ ⟨e', s', f', l'⟩ w1.heap.size z64 w')) (by kernel_rfl) (ES.all (HES.out.next (Below.refl _ _).drew)) (fun hS => ?_)
  refine wpAnyH_take (i := 0) (oi := ({ dst := some 14, op := Op.load 25 (Operand.tmp 2), type := 25, pos := "law.go:20", after := #[], guard := none } : Oper)) (v := ?_) rfl (by kernel_rfl) (by kernel_rfl) (by kernel_rfl) (fun _ _ _ h => h) (Or.inl ⟨by rfl, ?_⟩) hS ?_
  rotate_left
  · (intro w hSw; (try dsimp only at hSw); refine exec_load_hd (.tmp 2) ?_ ?_ hSw.2.2.2.2.hh <;> rfl)
  (try simp only [Act.put, List.setIfInBounds_toArray, List.set_cons_zero, List.set_cons_succ])
  refine wpAnyH_take (i := 2) (oi := ({ dst := some 16, op := Op.load 25 (Operand.tmp 2), type := 25, pos := "law.go:20", after := #[], guard := none } : Oper)) (v := ?_) rfl (by kernel_rfl) (by kernel_rfl) (by kernel_rfl) (fun _ _ _ h => h) (Or.inl ⟨by rfl, ?_⟩) hS ?_
  rotate_left
  · (intro w hSw; (try dsimp only at hSw); refine exec_load_hd (.tmp 2) ?_ ?_ hSw.2.2.2.2.hh <;> rfl)
  (try simp only [Act.put, List.setIfInBounds_toArray, List.set_cons_zero, List.set_cons_succ])
  refine rg_one 1 ({ dst := some 15, op := Op.call { callee := Callee.value (Operand.func 7), args := #[Operand.tmp 14], argTypes := #[25] }, type := 4, pos := "law.go:20", after := #[{ on := 0, ground := Ground.data }], guard := none } : Oper) (by kernel_rfl) rfl (fun K hK => ?_)
  go_simp
  (go_at_call 7; (refine (HR.out _).mono ?_); rintro r w3 ⟨rfl, hb⟩)
  refine hK.out _ _ ?_ (fun hS1 => ?_)
  · (first | exact hS | exact ES.all (hS.2.2.2.2.next hb))
  clear hK K hS; have hS := hS1; clear hS1
  (try simp only [Act.put, List.setIfInBounds_toArray, List.set_cons_zero, List.set_cons_succ])
  refine rg_one 3 ({ dst := some 17, op := Op.call { callee := Callee.value (Operand.func 8), args := #[Operand.tmp 16], argTypes := #[25] }, type := 4, pos := "law.go:20", after := #[{ on := 2, ground := Ground.data }, { on := 1, ground := Ground.chain }], guard := none } : Oper) (by kernel_rfl) rfl (fun K hK => ?_)
  go_simp
  (go_at_call 8; (refine (HRR.out _).mono ?_); rintro r w4 ⟨rfl, hb⟩)
  refine hK.out _ _ ?_ (fun hS1 => ?_)
  · (first | exact hS | exact ES.all (hS.2.2.2.2.next hb))
  clear hK K hS; have hS := hS1; clear hS1
  (try simp only [Act.put, List.setIfInBounds_toArray, List.set_cons_zero, List.set_cons_succ])
  refine wpAnyH_take (i := 4) (oi := ({ dst := some 18, op := Op.binOp BinOp.neq 4 (Operand.tmp 15) (Operand.tmp 17) 4, type := 4, pos := "law.go:20", after := #[{ on := 1, ground := Ground.data }, { on := 3, ground := Ground.data }], guard := none } : Oper)) (v := ?_) rfl (by kernel_rfl) (by kernel_rfl) (by kernel_rfl) (fun _ _ _ h => h) (Or.inl ⟨by rfl, ?_⟩) hS ?_
  rotate_left
  · (intro w hSw; (try dsimp only at hSw); go_simp; try with_reducible rfl)
  (try simp only [Act.put, List.setIfInBounds_toArray, List.set_cons_zero, List.set_cons_succ])
  refine wpAnyH_take (i := 5) (oi := ({ dst := some 19, op := Op.move (Operand.tmp 18), type := 4, pos := "law.go:20", after := #[{ on := 4, ground := Ground.data }, { on := 3, ground := Ground.chain }], guard := none } : Oper)) (v := ?_) rfl (by kernel_rfl) (by kernel_rfl) (by kernel_rfl) (fun _ _ _ h => h) (Or.inl ⟨by rfl, ?_⟩) hS ?_
  rotate_left
  · (intro w hSw; (try dsimp only at hSw); go_simp; try with_reducible rfl)
  (try simp only [Act.put, List.setIfInBounds_toArray, List.set_cons_zero, List.set_cons_succ])
  refine wpAnyH_take (i := 6) (oi := ({ dst := some 20, op := Op.load 25 (Operand.tmp 2), type := 25, pos := "law.go:20", after := #[{ on := 5, ground := Ground.guard }], guard := some (5, false) } : Oper)) (v := ?_) rfl (by kernel_rfl) (by kernel_rfl) (by kernel_rfl) (fun _ _ _ h => h) (Or.inl ⟨by rfl, ?_⟩) hS ?_
  rotate_left
  · (intro w hSw; (try dsimp only at hSw); refine exec_load_hd (.tmp 2) ?_ ?_ hSw.2.2.2.2.hh <;> rfl)
  (try simp only [Act.put, List.setIfInBounds_toArray, List.set_cons_zero, List.set_cons_succ])
  refine wpAnyH_take (i := 7) (oi := ({ dst := some 21, op := Op.load 25 (Operand.tmp 3), type := 25, pos := "law.go:20", after := #[{ on := 5, ground := Ground.guard }], guard := some (5, false) } : Oper)) (v := ?_) rfl (by kernel_rfl) (by kernel_rfl) (by kernel_rfl) (fun _ _ _ h => h) (Or.inl ⟨by rfl, ?_⟩) hS ?_
  rotate_left
  · (intro w hSw; (try dsimp only at hSw); refine exec_load_hd (.tmp 3) ?_ ?_ hSw.2.2.2.2.hg <;> rfl)
  (try simp only [Act.put, List.setIfInBounds_toArray, List.set_cons_zero, List.set_cons_succ])
  refine wpAnyH_take (i := 9) (oi := ({ dst := some 23, op := Op.fieldAddr 25 (Operand.tmp 2) 0, type := 0, pos := "law.go:20", after := #[{ on := 5, ground := Ground.guard }], guard := some (5, false) } : Oper)) (v := ?_) rfl (by kernel_rfl) (by kernel_rfl) (by kernel_rfl) (fun _ _ _ h => h) (Or.inl ⟨by rfl, ?_⟩) hS ?_
  rotate_left
  · (intro w hSw; (try dsimp only at hSw); go_simp; try with_reducible rfl)
  (try simp only [Act.put, List.setIfInBounds_toArray, List.set_cons_zero, List.set_cons_succ])
  refine wpAnyH_take (i := 10) (oi := ({ dst := some 24, op := Op.load 22 (Operand.tmp 23), type := 22, pos := "law.go:20", after := #[{ on := 9, ground := Ground.data }, { on := 5, ground := Ground.guard }], guard := some (5, false) } : Oper)) (v := ?_) rfl (by kernel_rfl) (by kernel_rfl) (by kernel_rfl) (fun _ _ _ h => h) (Or.inl ⟨by rfl, ?_⟩) hS ?_
  rotate_left
  · (intro w hSw; (try dsimp only at hSw); go_simp; try with_reducible rfl)
  (try simp only [Act.put, List.setIfInBounds_toArray, List.set_cons_zero, List.set_cons_succ])
  refine wpAnyH_take (i := 11) (oi := ({ dst := some 25, op := Op.fieldAddr 25 (Operand.tmp 3) 0, type := 0, pos := "law.go:20", after := #[{ on := 5, ground := Ground.guard }], guard := some (5, false) } : Oper)) (v := ?_) rfl (by kernel_rfl) (by kernel_rfl) (by kernel_rfl) (fun _ _ _ h => h) (Or.inl ⟨by rfl, ?_⟩) hS ?_
  rotate_left
  · (intro w hSw; (try dsimp only at hSw); go_simp; try with_reducible rfl)
  (try simp only [Act.put, List.setIfInBounds_toArray, List.set_cons_zero, List.set_cons_succ])
  refine wpAnyH_take (i := 12) (oi := ({ dst := some 26, op := Op.load 22 (Operand.tmp 25), type := 22, pos := "law.go:20", after := #[{ on := 11, ground := Ground.data }, { on := 5, ground := Ground.guard }], guard := some (5, false) } : Oper)) (v := ?_) rfl (by kernel_rfl) (by kernel_rfl) (by kernel_rfl) (fun _ _ _ h => h) (Or.inl ⟨by rfl, ?_⟩) hS ?_
  rotate_left
  · (intro w hSw; (try dsimp only at hSw); go_simp; try with_reducible rfl)
  (try simp only [Act.put, List.setIfInBounds_toArray, List.set_cons_zero, List.set_cons_succ])
  refine wpAnyH_take (i := 13) (oi := ({ dst := some 27, op := Op.binOp BinOp.gtr 22 (Operand.tmp 24) (Operand.tmp 26) 22, type := 4, pos := "law.go:20", after := #[{ on := 10, ground := Ground.data }, { on := 12, ground := Ground.data }, { on := 5, ground := Ground.guard }], guard := some (5, false) } : Oper)) (v := .bool true) rfl (by kernel_rfl) (by kernel_rfl) (by kernel_rfl) (fun _ _ _ h => h) (Or.inl ⟨by rfl, ?_⟩) hS ?_
  · (intro w hSw; (try dsimp only at hSw); go_simp)
  (try simp only [Act.put, List.setIfInBounds_toArray, List.set_cons_zero, List.set_cons_succ])
  refine rg_one 8 ({ dst := some 22, op := Op.call { callee := Callee.value (Operand.func 9), args := #[Operand.tmp 20, Operand.tmp 21], argTypes := #[25, 25] }, type := 4, pos := "law.go:20", after := #[{ on := 6, ground := Ground.data }, { on := 7, ground := Ground.data }, { on := 5, ground := Ground.chain }, { on := 5, ground := Ground.guard }], guard := some (5, false) } : Oper) (by kernel_rfl) rfl (fun K hK => ?_)
  go_simp
  (go_at_call 9; (refine (HNW.out _).mono ?_); rintro r w5 ⟨rfl, hb⟩)
  refine hK.out _ _ ?_ (fun hS1 => ?_)
  · (first | exact hS | exact ES.all (hS.2.2.2.2.next hb))
  clear hK K hS; have hS := hS1; clear hS1
  (try simp only [Act.put, List.setIfInBounds_toArray, List.set_cons_zero, List.set_cons_succ])
  refine wpAnyH_take (i := 14) (oi := ({ dst := some 28, op := Op.move (Operand.tmp 27), type := 4, pos := "law.go:20", after := #[{ on := 13, ground := Ground.data }, { on := 8, ground := Ground.chain }, { on := 5, ground := Ground.guard }], guard := some (5, false) } : Oper)) (v := ?_) rfl (by kernel_rfl) (by kernel_rfl) (by kernel_rfl) (fun _ _ _ h => h) (Or.inl ⟨by rfl, ?_⟩) hS ?_
  rotate_left
  · (intro w hSw; (try dsimp only at hSw); go_simp; try with_reducible rfl)
  (try simp only [Act.put, List.setIfInBounds_toArray, List.set_cons_zero, List.set_cons_succ])
  refine wpAnyH_take (i := 15) (oi := ({ dst := some 29, op := Op.fieldAddr 25 (Operand.tmp 2) 0, type := 0, pos := "law.go:20", after := #[{ on := 14, ground := Ground.guard }], guard := some (14, false) } : Oper)) (v := undef) rfl (by kernel_rfl) (by kernel_rfl) (by kernel_rfl) (fun _ _ _ h => h) (Or.inr ⟨by rfl, rfl⟩) hS ?_
  (try simp only [Act.put, List.setIfInBounds_toArray, List.set_cons_zero, List.set_cons_succ])
  refine wpAnyH_take (i := 16) (oi := ({ dst := some 30, op := Op.load 22 (Operand.tmp 29), type := 22, pos := "law.go:20", after := #[{ on := 15, ground := Ground.data }, { on := 14, ground := Ground.guard }], guard := some (14, false) } : Oper)) (v := undef) rfl (by kernel_rfl) (by kernel_rfl) (by kernel_rfl) (fun _ _ _ h => h) (Or.inr ⟨by rfl, rfl⟩) hS ?_
  (try simp only [Act.put, List.setIfInBounds_toArray, List.set_cons_zero, List.set_cons_succ])
  refine wpAnyH_take (i := 17) (oi := ({ dst := some 31, op := Op.fieldAddr 25 (Operand.tmp 3) 0, type := 0, pos := "law.go:20", after := #[{ on := 14, ground := Ground.guard }], guard := some (14, false) } : Oper)) (v := undef) rfl (by kernel_rfl) (by kernel_rfl) (by kernel_rfl) (fun _ _ _ h => h) (Or.inr ⟨by rfl, rfl⟩) hS ?_
  (try simp only [Act.put, List.setIfInBounds_toArray, List.set_cons_zero, List.set_cons_succ])
  refine wpAnyH_take (i := 18) (oi := ({ dst := some 32, op := Op.load 22 (Operand.tmp 31), type := 22, pos := "law.go:20", after := #[{ on := 17, ground := Ground.data }, { on := 14, ground := Ground.guard }], guard := some (14, false) } : Oper)) (v := undef) rfl (by kernel_rfl) (by kernel_rfl) (by kernel_rfl) (fun _ _ _ h => h) (Or.inr ⟨by rfl, rfl⟩) hS ?_
  (try simp only [Act.put, List.setIfInBounds_toArray, List.set_cons_zero, List.set_cons_succ])
  refine wpAnyH_take (i := 19) (oi := ({ dst := some 33, op := Op.binOp BinOp.eql 22 (Operand.tmp 30) (Operand.tmp 32) 22, type := 4, pos := "law.go:20", after := #[{ on := 16, ground := Ground.data }, { on := 18, ground := Ground.data }, { on := 14, ground := Ground.guard }], guard := some (14, false) } : Oper)) (v := undef) rfl (by kernel_rfl) (by kernel_rfl) (by kernel_rfl) (fun _ _ _ h => h) (Or.inr ⟨by rfl, rfl⟩) hS ?_
  (try simp only [Act.put, List.setIfInBounds_toArray, List.set_cons_zero, List.set_cons_succ])
  refine wpAnyH_take (i := 20) (oi := ({ dst := some 34, op := Op.move (Operand.tmp 33), type := 4, pos := "law.go:20", after := #[{ on := 19, ground := Ground.data }, { on := 14, ground := Ground.chain }, { on := 14, ground := Ground.guard }], guard := some (14, false) } : Oper)) (v := undef) rfl (by kernel_rfl) (by kernel_rfl) (by kernel_rfl) (fun _ _ _ h => h) (Or.inr ⟨by rfl, rfl⟩) hS ?_
  (try simp only [Act.put, List.setIfInBounds_toArray, List.set_cons_zero, List.set_cons_succ])
  refine wpAnyH_take (i := 21) (oi := ({ dst := some 35, op := Op.fieldAddr 25 (Operand.tmp 2) 1, type := 0, pos := "law.go:20", after := #[{ on := 20, ground := Ground.guard }], guard := some (20, true) } : Oper)) (v := undef) rfl (by kernel_rfl) (by kernel_rfl) (by kernel_rfl) (fun _ _ _ h => h) (Or.inr ⟨by rfl, rfl⟩) hS ?_
  (try simp only [Act.put, List.setIfInBounds_toArray, List.set_cons_zero, List.set_cons_succ])
  refine wpAnyH_take (i := 22) (oi := ({ dst := some 36, op := Op.load 3 (Operand.tmp 35), type := 3, pos := "law.go:20", after := #[{ on := 21, ground := Ground.data }, { on := 20, ground := Ground.guard }], guard := some (20, true) } : Oper)) (v := undef) rfl (by kernel_rfl) (by kernel_rfl) (by kernel_rfl) (fun _ _ _ h => h) (Or.inr ⟨by rfl, rfl⟩) hS ?_
  (try simp only [Act.put, List.setIfInBounds_toArray, List.set_cons_zero, List.set_cons_succ])
  refine wpAnyH_take (i := 23) (oi := ({ dst := some 37, op := Op.fieldAddr 25 (Operand.tmp 3) 1, type := 0, pos := "law.go:20", after := #[{ on := 20, ground := Ground.guard }], guard := some (20, true) } : Oper)) (v := undef) rfl (by kernel_rfl) (by kernel_rfl) (by kernel_rfl) (fun _ _ _ h => h) (Or.inr ⟨by rfl, rfl⟩) hS ?_
  (try simp only [Act.put, List.setIfInBounds_toArray, List.set_cons_zero, List.set_cons_succ])
  refine wpAnyH_take (i := 24) (oi := ({ dst := some 38, op := Op.load 3 (Operand.tmp 37), type := 3, pos := "law.go:20", after := #[{ on := 23, ground := Ground.data }, { on := 20, ground := Ground.guard }], guard := some (20, true) } : Oper)) (v := undef) rfl (by kernel_rfl) (by kernel_rfl) (by kernel_rfl) (fun _ _ _ h => h) (Or.inr ⟨by rfl, rfl⟩) hS ?_
  (try simp only [Act.put, List.setIfInBounds_toArray, List.set_cons_zero, List.set_cons_succ])
  refine wpAnyH_take (i := 25) (oi := ({ dst := some 39, op := Op.binOp BinOp.gtr 3 (Operand.tmp 36) (Operand.tmp 38) 3, type := 4, pos := "law.go:20", after := #[{ on := 22, ground := Ground.data }, { on := 24, ground := Ground.data }, { on := 20, ground := Ground.guard }], guard := some (20, true) } : Oper)) (v := undef) rfl (by kernel_rfl) (by kernel_rfl) (by kernel_rfl) (fun _ _ _ h => h) (Or.inr ⟨by rfl, rfl⟩) hS ?_
  (try simp only [Act.put, List.setIfInBounds_toArray, List.set_cons_zero, List.set_cons_succ])
  refine wpAnyH_take (i := 26) (oi := ({ dst := some 40, op := Op.pick (Operand.tmp 34) (Operand.tmp 39) (Operand.const (Value.bool false)), type := 4, pos := "law.go:20", after := #[{ on := 20, ground := Ground.data }, { on := 25, ground := Ground.data }, { on := 14, ground := Ground.guard }], guard := some (14, false) } : Oper)) (v := undef) rfl (by kernel_rfl) (by kernel_rfl) (by kernel_rfl) (fun _ _ _ h => h) (Or.inr ⟨by rfl, rfl⟩) hS ?_
  (try simp only [Act.put, List.setIfInBounds_toArray, List.set_cons_zero, List.set_cons_succ])
  refine wpAnyH_take (i := 27) (oi := ({ dst := some 41, op := Op.pick (Operand.tmp 28) (Operand.const (Value.bool true)) (Operand.tmp 40), type := 4, pos := "law.go:20", after := #[{ on := 14, ground := Ground.data }, { on := 26, ground := Ground.data }, { on := 5, ground := Ground.guard }], guard := some (5, false) } : Oper)) (v := ?_) rfl (by kernel_rfl) (by kernel_rfl) (by kernel_rfl) (fun _ _ _ h => h) (Or.inl ⟨by rfl, ?_⟩) hS ?_
  rotate_left
  · (intro w hSw; (try dsimp only at hSw); go_simp; try with_reducible rfl)
  (try simp only [Act.put, List.setIfInBounds_toArray, List.set_cons_zero, List.set_cons_succ])
  refine wpAnyH_take (i := 28) (oi := ({ dst := some 42, op := Op.binOp BinOp.neq 4 (Operand.tmp 22) (Operand.tmp 41) 4, type := 4, pos := "law.go:20", after := #[{ on := 8, ground := Ground.data }, { on := 27, ground := Ground.data }, { on := 5, ground := Ground.guard }], guard := some (5, false) } : Oper)) (v := ?_) rfl (by kernel_rfl) (by kernel_rfl) (by kernel_rfl) (fun _ _ _ h => h) (Or.inl ⟨by rfl, ?_⟩) hS ?_
  rotate_left
  · (intro w hSw; (try dsimp only at hSw); go_simp; try with_reducible rfl)
  (try simp only [Act.put, List.setIfInBounds_toArray, List.set_cons_zero, List.set_cons_succ])
  refine wpAnyH_take (i := 29) (oi := ({ dst := some 43, op := Op.pick (Operand.tmp 19) (Operand.const (Value.bool true)) (Operand.tmp 42), type := 4, pos := "law.go:20", after := #[{ on := 5, ground := Ground.data }, { on := 28, ground := Ground.data }], guard := none } : Oper)) (v := ?_) rfl (by kernel_rfl) (by kernel_rfl) (by kernel_rfl) (fun _ _ _ h => h) (Or.inl ⟨by rfl, ?_⟩) hS ?_
  rotate_left
  · (intro w hSw; (try dsimp only at hSw); go_simp; try with_reducible rfl)
  (try simp only [Act.put, List.setIfInBounds_toArray, List.set_cons_zero, List.set_cons_succ])
  refine wpAnyH_done (by kernel_rfl) ?_ _
  have HE5 := Lib.hid hS.2.2.2.2
  clear hS
  go_wp2_with (first
    | (go_at_call 8; (with_reducible refine (HRR.out _).mono ?_); rintro r w6 ⟨rfl, hb6⟩; have HE6 := Lib.hid (HE5.out.next hb6); clear hb6)
    | (refine wpl_load_sec (by rfl) (.tmp 5) rfl w1.heap.size rfl z64 HE6.out.sec ?_)
    | (refine wpl_build_sec rfl (by rfl) ?_)
    | (refine wpl_eq_sec (.tmp 50) (.tmp 51) _ rfl z64 z64 z64_length z64_length rfl rfl (by rfl) ?_; rw [show decide (z64 = z64) = true from by simp])
    | (go_at_call 10; (with_reducible refine (awake_any (HT.out.keep HE6.out.below)).mono ?_); rintro r w7 ⟨rfl, hb7⟩; have HE7 := Lib.hid (HE6.out.next hb7); clear hb7)
    | (refine wpl_load_hd (by rfl) (.tmp 2) rfl rfl HE5.out.hh ?_))
  go_ret
  exact ⟨rfl, HE7.out.below⟩
set_option maxRecDepth 8000 in
set_option maxHeartbeats 4000000 in
theorem encodes_wrong_later (e s f e' s' f' : Int) (l l' : List Int) (ht : HdT ⟨e, s, f, l⟩) (hg : HdT ⟨e', s', f', l'⟩) (hk : hdOk ⟨e, s, f, l⟩ = false) (w : World) (hT : Tab w) (n1 : ¬ e' < e) (n2 : e = e') (n3 : s' < s) :
    Calls Tryd.prog 3 #[.agg (hv ⟨e, s, f, l⟩), .agg (hv ⟨e', s', f', l'⟩)] w fun r w' => r = .returned (.bool true) ∧ Below w.heap.size w w' := by
  obtain ⟨w0, hw0⟩ : ∃ q, (w.alloc (.cells (hv ⟨e, s, f, l⟩) 25)).alloc (.cells (hv ⟨e', s', f', l'⟩) 25) = q := ⟨_, rfl⟩
  have hs1 : (w.alloc (.cells (hv ⟨e, s, f, l⟩) 25)).heap.size = w.heap.size + 1 := alloc_size w _
  have HH := Lib.hid (show HB w0 w.heap.size ⟨e, s, f, l⟩ from by rw [← hw0]; exact (HB.new w _ ht.n).keep (balloc _ _))
  have HG := Lib.hid (show HB w0 (w.heap.size + 1) ⟨e', s', f', l'⟩ from by rw [← hw0, ← hs1]; exact HB.new _ _ hg.n)
  have HW := Lib.hid (show Below w.heap.size w w0 from by rw [← hw0]; exact bch (balloc w _) (balloc _ _))
  have HT := Lib.hid hT
  have HZ := Lib.hid z64_cells
  have HN := Lib.hid ht.n
  have HSN := Lib.hid (secH_length ht.n)
  have HR : Hid (∀ w, Calls Tryd.prog 7 #[.agg (hv ⟨e, s, f, l⟩)] w fun r w' => r = .returned (.bool false) ∧ Below w.heap.size w w') := Lib.hid fun w => by rw [← hk]; exact hright_any _ ht w
  have HRR : Hid (∀ w, Calls Tryd.prog 8 #[.agg (hv ⟨e, s, f, l⟩)] w fun r w' => r = .returned (.bool false) ∧ Below w.heap.size w w') := Lib.hid fun w => by rw [← hk]; exact rright_any _ ht w
  have HNW : Hid (∀ w, Calls Tryd.prog 9 #[.agg (hv ⟨e, s, f, l⟩), .agg (hv ⟨e', s', f', l'⟩)] w fun r w' => r = .returned (.bool true) ∧ Below w.heap.size w w') := Lib.hid fun w => (newer_any _ _ ht hg w).mono fun _ _ ⟨q1, q2⟩ => ⟨q1.trans (ret_bool (by simp [n2, n3])), q2⟩
  have HE : Hid (∀ w, Tab w → Calls Tryd.prog 6 #[.agg (hv ⟨e, s, f, l⟩)] w fun r w' => r = .returned (.tuple #[.agg (sv z64), .int .i64 13]) ∧ Below w.heap.size w w') := Lib.hid fun w _ => henc_no _ ht hk w
  have d13 : decide (e' < e) = false := decide_eq_false n1
  have d19 : (e == e') = true := by simp [n2]
  have d25 : decide (s' < s) = true := decide_eq_true n3
  clear n2
  clear ht hg hk hT hs1
  go_enter Tryd.func3, Tryd.ntmps3
  go_wp2_with (first
    | (go_at_call 6; (with_reducible refine (HE.out _ (HT.out.keep HW.out)).mono ?_); rintro r w1 ⟨rfl, hb1⟩; have HB1 := Lib.hid hb1; clear hb1)
    | (rw [← HZ.out]; refine wpl_put_sec rfl (.tmp 5) (.tmp 12) rfl w1.heap.size z64 z64 (Blk.new w1 z64 z64_length) z64_length rfl rfl ?_; intro w2 HC2 HG2; have HX2 := Lib.hid (bch HB1.out (new_below HG2.out)); have HES : Hid (ES w ⟨e, s, f, l⟩ ⟨e', s', f', l'⟩ w1.heap.size z64 w2) := Lib.hid ⟨bch HW.out HX2.out, HH.out.keep HX2.out, HG.out.keep HX2.out, HC2.out⟩)
    | (refine wpl_load_hd (by rfl) (.tmp 2) rfl rfl HH.out ?_))
  go_wp2_with fail
  refine wp_region_held_drew (S := (fun w' => w'.cell? ⟨w.heap.size, 0, none⟩ = some (.int .u64 e) ∧ w'.cell? ⟨w.heap.size, 1, none⟩ = some (.int .i64 s) ∧ w'.cell? ⟨w.heap.size + 1, 0, none⟩ = some (.int .u64 e') ∧ w'.cell? ⟨w.heap.size + 1, 1, none⟩ = some (.int .i64 s') ∧ ES w ⟨e, s, f, l⟩ ⟨e', s', f', l'⟩ w1.heap.size z64 w')) (by kernel_rfl) (ES.all (HES.out.next (Below.refl _ _).drew)) (fun hS => ?_)
  refine wpAnyH_take (i := 0) (oi := ({ dst := some 14, op := Op.load 25 (Operand.tmp 2), type := 25, pos := "law.go:20", after := #[], guard := none } : Oper)) (v := ?_) rfl (by kernel_rfl) (by kernel_rfl) (by kernel_rfl) (fun _ _ _ h => h) (Or.inl ⟨by rfl, ?_⟩) hS ?_
  rotate_left
  · (intro w hSw; (try dsimp only at hSw); refine exec_load_hd (.tmp 2) ?_ ?_ hSw.2.2.2.2.hh <;> rfl)
  (try simp only [Act.put, List.setIfInBounds_toArray, List.set_cons_zero, List.set_cons_succ])
  refine wpAnyH_take (i := 2) (oi := ({ dst := some 16, op := Op.load 25 (Operand.tmp 2), type := 25, pos := "law.go:20", after := #[], guard := none } : Oper)) (v := ?_) rfl (by kernel_rfl) (by kernel_rfl) (by kernel_rfl) (fun _ _ _ h => h) (Or.inl ⟨by rfl, ?_⟩) hS ?_
  rotate_left
  · (intro w hSw; (try dsimp only at hSw); refine exec_load_hd (.tmp 2) ?_ ?_ hSw.2.2.2.2.hh <;> rfl)
  (try simp only [Act.put, List.setIfInBounds_toArray, List.set_cons_zero, List.set_cons_succ])
  refine rg_one 1 ({ dst := some 15, op := Op.call { callee := Callee.value (Operand.func 7), args := #[Operand.tmp 14], argTypes := #[25] }, type := 4, pos := "law.go:20", after := #[{ on := 0, ground := Ground.data }], guard := none } : Oper) (by kernel_rfl) rfl (fun K hK => ?_)
  go_simp
  (go_at_call 7; (refine (HR.out _).mono ?_); rintro r w3 ⟨rfl, hb⟩)
  refine hK.out _ _ ?_ (fun hS1 => ?_)
  · (first | exact hS | exact ES.all (hS.2.2.2.2.next hb))
  clear hK K hS; have hS := hS1; clear hS1
  (try simp only [Act.put, List.setIfInBounds_toArray, List.set_cons_zero, List.set_cons_succ])
  refine rg_one 3 ({ dst := some 17, op := Op.call { callee := Callee.value (Operand.func 8), args := #[Operand.tmp 16], argTypes := #[25] }, type := 4, pos := "law.go:20", after := #[{ on := 2, ground := Ground.data }, { on := 1, ground := Ground.chain }], guard := none } : Oper) (by kernel_rfl) rfl (fun K hK => ?_)
  go_simp
  (go_at_call 8; (refine (HRR.out _).mono ?_); rintro r w4 ⟨rfl, hb⟩)
  refine hK.out _ _ ?_ (fun hS1 => ?_)
  · (first | exact hS | exact ES.all (hS.2.2.2.2.next hb))
  clear hK K hS; have hS := hS1; clear hS1
  (try simp only [Act.put, List.setIfInBounds_toArray, List.set_cons_zero, List.set_cons_succ])
  refine wpAnyH_take (i := 4) (oi := ({ dst := some 18, op := Op.binOp BinOp.neq 4 (Operand.tmp 15) (Operand.tmp 17) 4, type := 4, pos := "law.go:20", after := #[{ on := 1, ground := Ground.data }, { on := 3, ground := Ground.data }], guard := none } : Oper)) (v := ?_) rfl (by kernel_rfl) (by kernel_rfl) (by kernel_rfl) (fun _ _ _ h => h) (Or.inl ⟨by rfl, ?_⟩) hS ?_
  rotate_left
  · (intro w hSw; (try dsimp only at hSw); go_simp; try with_reducible rfl)
  (try simp only [Act.put, List.setIfInBounds_toArray, List.set_cons_zero, List.set_cons_succ])
  refine wpAnyH_take (i := 5) (oi := ({ dst := some 19, op := Op.move (Operand.tmp 18), type := 4, pos := "law.go:20", after := #[{ on := 4, ground := Ground.data }, { on := 3, ground := Ground.chain }], guard := none } : Oper)) (v := ?_) rfl (by kernel_rfl) (by kernel_rfl) (by kernel_rfl) (fun _ _ _ h => h) (Or.inl ⟨by rfl, ?_⟩) hS ?_
  rotate_left
  · (intro w hSw; (try dsimp only at hSw); go_simp; try with_reducible rfl)
  (try simp only [Act.put, List.setIfInBounds_toArray, List.set_cons_zero, List.set_cons_succ])
  refine wpAnyH_take (i := 6) (oi := ({ dst := some 20, op := Op.load 25 (Operand.tmp 2), type := 25, pos := "law.go:20", after := #[{ on := 5, ground := Ground.guard }], guard := some (5, false) } : Oper)) (v := ?_) rfl (by kernel_rfl) (by kernel_rfl) (by kernel_rfl) (fun _ _ _ h => h) (Or.inl ⟨by rfl, ?_⟩) hS ?_
  rotate_left
  · (intro w hSw; (try dsimp only at hSw); refine exec_load_hd (.tmp 2) ?_ ?_ hSw.2.2.2.2.hh <;> rfl)
  (try simp only [Act.put, List.setIfInBounds_toArray, List.set_cons_zero, List.set_cons_succ])
  refine wpAnyH_take (i := 7) (oi := ({ dst := some 21, op := Op.load 25 (Operand.tmp 3), type := 25, pos := "law.go:20", after := #[{ on := 5, ground := Ground.guard }], guard := some (5, false) } : Oper)) (v := ?_) rfl (by kernel_rfl) (by kernel_rfl) (by kernel_rfl) (fun _ _ _ h => h) (Or.inl ⟨by rfl, ?_⟩) hS ?_
  rotate_left
  · (intro w hSw; (try dsimp only at hSw); refine exec_load_hd (.tmp 3) ?_ ?_ hSw.2.2.2.2.hg <;> rfl)
  (try simp only [Act.put, List.setIfInBounds_toArray, List.set_cons_zero, List.set_cons_succ])
  refine wpAnyH_take (i := 9) (oi := ({ dst := some 23, op := Op.fieldAddr 25 (Operand.tmp 2) 0, type := 0, pos := "law.go:20", after := #[{ on := 5, ground := Ground.guard }], guard := some (5, false) } : Oper)) (v := ?_) rfl (by kernel_rfl) (by kernel_rfl) (by kernel_rfl) (fun _ _ _ h => h) (Or.inl ⟨by rfl, ?_⟩) hS ?_
  rotate_left
  · (intro w hSw; (try dsimp only at hSw); go_simp; try with_reducible rfl)
  (try simp only [Act.put, List.setIfInBounds_toArray, List.set_cons_zero, List.set_cons_succ])
  refine wpAnyH_take (i := 10) (oi := ({ dst := some 24, op := Op.load 22 (Operand.tmp 23), type := 22, pos := "law.go:20", after := #[{ on := 9, ground := Ground.data }, { on := 5, ground := Ground.guard }], guard := some (5, false) } : Oper)) (v := ?_) rfl (by kernel_rfl) (by kernel_rfl) (by kernel_rfl) (fun _ _ _ h => h) (Or.inl ⟨by rfl, ?_⟩) hS ?_
  rotate_left
  · (intro w hSw; (try dsimp only at hSw); go_simp; try with_reducible rfl)
  (try simp only [Act.put, List.setIfInBounds_toArray, List.set_cons_zero, List.set_cons_succ])
  refine wpAnyH_take (i := 11) (oi := ({ dst := some 25, op := Op.fieldAddr 25 (Operand.tmp 3) 0, type := 0, pos := "law.go:20", after := #[{ on := 5, ground := Ground.guard }], guard := some (5, false) } : Oper)) (v := ?_) rfl (by kernel_rfl) (by kernel_rfl) (by kernel_rfl) (fun _ _ _ h => h) (Or.inl ⟨by rfl, ?_⟩) hS ?_
  rotate_left
  · (intro w hSw; (try dsimp only at hSw); go_simp; try with_reducible rfl)
  (try simp only [Act.put, List.setIfInBounds_toArray, List.set_cons_zero, List.set_cons_succ])
  refine wpAnyH_take (i := 12) (oi := ({ dst := some 26, op := Op.load 22 (Operand.tmp 25), type := 22, pos := "law.go:20", after := #[{ on := 11, ground := Ground.data }, { on := 5, ground := Ground.guard }], guard := some (5, false) } : Oper)) (v := ?_) rfl (by kernel_rfl) (by kernel_rfl) (by kernel_rfl) (fun _ _ _ h => h) (Or.inl ⟨by rfl, ?_⟩) hS ?_
  rotate_left
  · (intro w hSw; (try dsimp only at hSw); go_simp; try with_reducible rfl)
  (try simp only [Act.put, List.setIfInBounds_toArray, List.set_cons_zero, List.set_cons_succ])
  refine wpAnyH_take (i := 13) (oi := ({ dst := some 27, op := Op.binOp BinOp.gtr 22 (Operand.tmp 24) (Operand.tmp 26) 22, type := 4, pos := "law.go:20", after := #[{ on := 10, ground := Ground.data }, { on := 12, ground := Ground.data }, { on := 5, ground := Ground.guard }], guard := some (5, false) } : Oper)) (v := .bool false) rfl (by kernel_rfl) (by kernel_rfl) (by kernel_rfl) (fun _ _ _ h => h) (Or.inl ⟨by rfl, ?_⟩) hS ?_
  · (intro w hSw; (try dsimp only at hSw); go_simp)
  (try simp only [Act.put, List.setIfInBounds_toArray, List.set_cons_zero, List.set_cons_succ])
  refine rg_one 8 ({ dst := some 22, op := Op.call { callee := Callee.value (Operand.func 9), args := #[Operand.tmp 20, Operand.tmp 21], argTypes := #[25, 25] }, type := 4, pos := "law.go:20", after := #[{ on := 6, ground := Ground.data }, { on := 7, ground := Ground.data }, { on := 5, ground := Ground.chain }, { on := 5, ground := Ground.guard }], guard := some (5, false) } : Oper) (by kernel_rfl) rfl (fun K hK => ?_)
  go_simp
  (go_at_call 9; (refine (HNW.out _).mono ?_); rintro r w5 ⟨rfl, hb⟩)
  refine hK.out _ _ ?_ (fun hS1 => ?_)
  · (first | exact hS | exact ES.all (hS.2.2.2.2.next hb))
  clear hK K hS; have hS := hS1; clear hS1
  (try simp only [Act.put, List.setIfInBounds_toArray, List.set_cons_zero, List.set_cons_succ])
  refine wpAnyH_take (i := 14) (oi := ({ dst := some 28, op := Op.move (Operand.tmp 27), type := 4, pos := "law.go:20", after := #[{ on := 13, ground := Ground.data }, { on := 8, ground := Ground.chain }, { on := 5, ground := Ground.guard }], guard := some (5, false) } : Oper)) (v := ?_) rfl (by kernel_rfl) (by kernel_rfl) (by kernel_rfl) (fun _ _ _ h => h) (Or.inl ⟨by rfl, ?_⟩) hS ?_
  rotate_left
  · (intro w hSw; (try dsimp only at hSw); go_simp; try with_reducible rfl)
  (try simp only [Act.put, List.setIfInBounds_toArray, List.set_cons_zero, List.set_cons_succ])
  refine wpAnyH_take (i := 15) (oi := ({ dst := some 29, op := Op.fieldAddr 25 (Operand.tmp 2) 0, type := 0, pos := "law.go:20", after := #[{ on := 14, ground := Ground.guard }], guard := some (14, false) } : Oper)) (v := ?_) rfl (by kernel_rfl) (by kernel_rfl) (by kernel_rfl) (fun _ _ _ h => h) (Or.inl ⟨by rfl, ?_⟩) hS ?_
  rotate_left
  · (intro w hSw; (try dsimp only at hSw); go_simp; try with_reducible rfl)
  (try simp only [Act.put, List.setIfInBounds_toArray, List.set_cons_zero, List.set_cons_succ])
  refine wpAnyH_take (i := 16) (oi := ({ dst := some 30, op := Op.load 22 (Operand.tmp 29), type := 22, pos := "law.go:20", after := #[{ on := 15, ground := Ground.data }, { on := 14, ground := Ground.guard }], guard := some (14, false) } : Oper)) (v := ?_) rfl (by kernel_rfl) (by kernel_rfl) (by kernel_rfl) (fun _ _ _ h => h) (Or.inl ⟨by rfl, ?_⟩) hS ?_
  rotate_left
  · (intro w hSw; (try dsimp only at hSw); go_simp; try with_reducible rfl)
  (try simp only [Act.put, List.setIfInBounds_toArray, List.set_cons_zero, List.set_cons_succ])
  refine wpAnyH_take (i := 17) (oi := ({ dst := some 31, op := Op.fieldAddr 25 (Operand.tmp 3) 0, type := 0, pos := "law.go:20", after := #[{ on := 14, ground := Ground.guard }], guard := some (14, false) } : Oper)) (v := ?_) rfl (by kernel_rfl) (by kernel_rfl) (by kernel_rfl) (fun _ _ _ h => h) (Or.inl ⟨by rfl, ?_⟩) hS ?_
  rotate_left
  · (intro w hSw; (try dsimp only at hSw); go_simp; try with_reducible rfl)
  (try simp only [Act.put, List.setIfInBounds_toArray, List.set_cons_zero, List.set_cons_succ])
  refine wpAnyH_take (i := 18) (oi := ({ dst := some 32, op := Op.load 22 (Operand.tmp 31), type := 22, pos := "law.go:20", after := #[{ on := 17, ground := Ground.data }, { on := 14, ground := Ground.guard }], guard := some (14, false) } : Oper)) (v := ?_) rfl (by kernel_rfl) (by kernel_rfl) (by kernel_rfl) (fun _ _ _ h => h) (Or.inl ⟨by rfl, ?_⟩) hS ?_
  rotate_left
  · (intro w hSw; (try dsimp only at hSw); go_simp; try with_reducible rfl)
  (try simp only [Act.put, List.setIfInBounds_toArray, List.set_cons_zero, List.set_cons_succ])
  refine wpAnyH_take (i := 19) (oi := ({ dst := some 33, op := Op.binOp BinOp.eql 22 (Operand.tmp 30) (Operand.tmp 32) 22, type := 4, pos := "law.go:20", after := #[{ on := 16, ground := Ground.data }, { on := 18, ground := Ground.data }, { on := 14, ground := Ground.guard }], guard := some (14, false) } : Oper)) (v := .bool true) rfl (by kernel_rfl) (by kernel_rfl) (by kernel_rfl) (fun _ _ _ h => h) (Or.inl ⟨by rfl, ?_⟩) hS ?_
  · (intro w hSw; (try dsimp only at hSw); go_simp)
  (try simp only [Act.put, List.setIfInBounds_toArray, List.set_cons_zero, List.set_cons_succ])
  refine wpAnyH_take (i := 20) (oi := ({ dst := some 34, op := Op.move (Operand.tmp 33), type := 4, pos := "law.go:20", after := #[{ on := 19, ground := Ground.data }, { on := 14, ground := Ground.chain }, { on := 14, ground := Ground.guard }], guard := some (14, false) } : Oper)) (v := ?_) rfl (by kernel_rfl) (by kernel_rfl) (by kernel_rfl) (fun _ _ _ h => h) (Or.inl ⟨by rfl, ?_⟩) hS ?_
  rotate_left
  · (intro w hSw; (try dsimp only at hSw); go_simp; try with_reducible rfl)
  (try simp only [Act.put, List.setIfInBounds_toArray, List.set_cons_zero, List.set_cons_succ])
  refine wpAnyH_take (i := 21) (oi := ({ dst := some 35, op := Op.fieldAddr 25 (Operand.tmp 2) 1, type := 0, pos := "law.go:20", after := #[{ on := 20, ground := Ground.guard }], guard := some (20, true) } : Oper)) (v := ?_) rfl (by kernel_rfl) (by kernel_rfl) (by kernel_rfl) (fun _ _ _ h => h) (Or.inl ⟨by rfl, ?_⟩) hS ?_
  rotate_left
  · (intro w hSw; (try dsimp only at hSw); go_simp; try with_reducible rfl)
  (try simp only [Act.put, List.setIfInBounds_toArray, List.set_cons_zero, List.set_cons_succ])
  refine wpAnyH_take (i := 22) (oi := ({ dst := some 36, op := Op.load 3 (Operand.tmp 35), type := 3, pos := "law.go:20", after := #[{ on := 21, ground := Ground.data }, { on := 20, ground := Ground.guard }], guard := some (20, true) } : Oper)) (v := ?_) rfl (by kernel_rfl) (by kernel_rfl) (by kernel_rfl) (fun _ _ _ h => h) (Or.inl ⟨by rfl, ?_⟩) hS ?_
  rotate_left
  · (intro w hSw; (try dsimp only at hSw); go_simp; try with_reducible rfl)
  (try simp only [Act.put, List.setIfInBounds_toArray, List.set_cons_zero, List.set_cons_succ])
  refine wpAnyH_take (i := 23) (oi := ({ dst := some 37, op := Op.fieldAddr 25 (Operand.tmp 3) 1, type := 0, pos := "law.go:20", after := #[{ on := 20, ground := Ground.guard }], guard := some (20, true) } : Oper)) (v := ?_) rfl (by kernel_rfl) (by kernel_rfl) (by kernel_rfl) (fun _ _ _ h => h) (Or.inl ⟨by rfl, ?_⟩) hS ?_
  rotate_left
  · (intro w hSw; (try dsimp only at hSw); go_simp; try with_reducible rfl)
  (try simp only [Act.put, List.setIfInBounds_toArray, List.set_cons_zero, List.set_cons_succ])
  refine wpAnyH_take (i := 24) (oi := ({ dst := some 38, op := Op.load 3 (Operand.tmp 37), type := 3, pos := "law.go:20", after := #[{ on := 23, ground := Ground.data }, { on := 20, ground := Ground.guard }], guard := some (20, true) } : Oper)) (v := ?_) rfl (by kernel_rfl) (by kernel_rfl) (by kernel_rfl) (fun _ _ _ h => h) (Or.inl ⟨by rfl, ?_⟩) hS ?_
  rotate_left
  · (intro w hSw; (try dsimp only at hSw); go_simp; try with_reducible rfl)
  (try simp only [Act.put, List.setIfInBounds_toArray, List.set_cons_zero, List.set_cons_succ])
  refine wpAnyH_take (i := 25) (oi := ({ dst := some 39, op := Op.binOp BinOp.gtr 3 (Operand.tmp 36) (Operand.tmp 38) 3, type := 4, pos := "law.go:20", after := #[{ on := 22, ground := Ground.data }, { on := 24, ground := Ground.data }, { on := 20, ground := Ground.guard }], guard := some (20, true) } : Oper)) (v := .bool true) rfl (by kernel_rfl) (by kernel_rfl) (by kernel_rfl) (fun _ _ _ h => h) (Or.inl ⟨by rfl, ?_⟩) hS ?_
  · (intro w hSw; (try dsimp only at hSw); go_simp)
  (try simp only [Act.put, List.setIfInBounds_toArray, List.set_cons_zero, List.set_cons_succ])
  refine wpAnyH_take (i := 26) (oi := ({ dst := some 40, op := Op.pick (Operand.tmp 34) (Operand.tmp 39) (Operand.const (Value.bool false)), type := 4, pos := "law.go:20", after := #[{ on := 20, ground := Ground.data }, { on := 25, ground := Ground.data }, { on := 14, ground := Ground.guard }], guard := some (14, false) } : Oper)) (v := ?_) rfl (by kernel_rfl) (by kernel_rfl) (by kernel_rfl) (fun _ _ _ h => h) (Or.inl ⟨by rfl, ?_⟩) hS ?_
  rotate_left
  · (intro w hSw; (try dsimp only at hSw); go_simp; try with_reducible rfl)
  (try simp only [Act.put, List.setIfInBounds_toArray, List.set_cons_zero, List.set_cons_succ])
  refine wpAnyH_take (i := 27) (oi := ({ dst := some 41, op := Op.pick (Operand.tmp 28) (Operand.const (Value.bool true)) (Operand.tmp 40), type := 4, pos := "law.go:20", after := #[{ on := 14, ground := Ground.data }, { on := 26, ground := Ground.data }, { on := 5, ground := Ground.guard }], guard := some (5, false) } : Oper)) (v := ?_) rfl (by kernel_rfl) (by kernel_rfl) (by kernel_rfl) (fun _ _ _ h => h) (Or.inl ⟨by rfl, ?_⟩) hS ?_
  rotate_left
  · (intro w hSw; (try dsimp only at hSw); go_simp; try with_reducible rfl)
  (try simp only [Act.put, List.setIfInBounds_toArray, List.set_cons_zero, List.set_cons_succ])
  refine wpAnyH_take (i := 28) (oi := ({ dst := some 42, op := Op.binOp BinOp.neq 4 (Operand.tmp 22) (Operand.tmp 41) 4, type := 4, pos := "law.go:20", after := #[{ on := 8, ground := Ground.data }, { on := 27, ground := Ground.data }, { on := 5, ground := Ground.guard }], guard := some (5, false) } : Oper)) (v := ?_) rfl (by kernel_rfl) (by kernel_rfl) (by kernel_rfl) (fun _ _ _ h => h) (Or.inl ⟨by rfl, ?_⟩) hS ?_
  rotate_left
  · (intro w hSw; (try dsimp only at hSw); go_simp; try with_reducible rfl)
  (try simp only [Act.put, List.setIfInBounds_toArray, List.set_cons_zero, List.set_cons_succ])
  refine wpAnyH_take (i := 29) (oi := ({ dst := some 43, op := Op.pick (Operand.tmp 19) (Operand.const (Value.bool true)) (Operand.tmp 42), type := 4, pos := "law.go:20", after := #[{ on := 5, ground := Ground.data }, { on := 28, ground := Ground.data }], guard := none } : Oper)) (v := ?_) rfl (by kernel_rfl) (by kernel_rfl) (by kernel_rfl) (fun _ _ _ h => h) (Or.inl ⟨by rfl, ?_⟩) hS ?_
  rotate_left
  · (intro w hSw; (try dsimp only at hSw); go_simp; try with_reducible rfl)
  (try simp only [Act.put, List.setIfInBounds_toArray, List.set_cons_zero, List.set_cons_succ])
  refine wpAnyH_done (by kernel_rfl) ?_ _
  have HE5 := Lib.hid hS.2.2.2.2
  clear hS
  go_wp2_with (first
    | (go_at_call 8; (with_reducible refine (HRR.out _).mono ?_); rintro r w6 ⟨rfl, hb6⟩; have HE6 := Lib.hid (HE5.out.next hb6); clear hb6)
    | (refine wpl_load_sec (by rfl) (.tmp 5) rfl w1.heap.size rfl z64 HE6.out.sec ?_)
    | (refine wpl_build_sec rfl (by rfl) ?_)
    | (refine wpl_eq_sec (.tmp 50) (.tmp 51) _ rfl z64 z64 z64_length z64_length rfl rfl (by rfl) ?_; rw [show decide (z64 = z64) = true from by simp])
    | (go_at_call 10; (with_reducible refine (awake_any (HT.out.keep HE6.out.below)).mono ?_); rintro r w7 ⟨rfl, hb7⟩; have HE7 := Lib.hid (HE6.out.next hb7); clear hb7)
    | (refine wpl_load_hd (by rfl) (.tmp 2) rfl rfl HE5.out.hh ?_))
  go_ret
  exact ⟨rfl, HE7.out.below⟩
set_option maxRecDepth 8000 in
set_option maxHeartbeats 4000000 in
theorem encodes_wrong_same (e s f e' s' f' : Int) (l l' : List Int) (ht : HdT ⟨e, s, f, l⟩) (hg : HdT ⟨e', s', f', l'⟩) (hk : hdOk ⟨e, s, f, l⟩ = false) (w : World) (hT : Tab w) (n1 : ¬ e' < e) (n2 : e = e') (n3 : ¬ s' < s) :
    Calls Tryd.prog 3 #[.agg (hv ⟨e, s, f, l⟩), .agg (hv ⟨e', s', f', l'⟩)] w fun r w' => r = .returned (.bool true) ∧ Below w.heap.size w w' := by
  obtain ⟨w0, hw0⟩ : ∃ q, (w.alloc (.cells (hv ⟨e, s, f, l⟩) 25)).alloc (.cells (hv ⟨e', s', f', l'⟩) 25) = q := ⟨_, rfl⟩
  have hs1 : (w.alloc (.cells (hv ⟨e, s, f, l⟩) 25)).heap.size = w.heap.size + 1 := alloc_size w _
  have HH := Lib.hid (show HB w0 w.heap.size ⟨e, s, f, l⟩ from by rw [← hw0]; exact (HB.new w _ ht.n).keep (balloc _ _))
  have HG := Lib.hid (show HB w0 (w.heap.size + 1) ⟨e', s', f', l'⟩ from by rw [← hw0, ← hs1]; exact HB.new _ _ hg.n)
  have HW := Lib.hid (show Below w.heap.size w w0 from by rw [← hw0]; exact bch (balloc w _) (balloc _ _))
  have HT := Lib.hid hT
  have HZ := Lib.hid z64_cells
  have HN := Lib.hid ht.n
  have HSN := Lib.hid (secH_length ht.n)
  have HR : Hid (∀ w, Calls Tryd.prog 7 #[.agg (hv ⟨e, s, f, l⟩)] w fun r w' => r = .returned (.bool false) ∧ Below w.heap.size w w') := Lib.hid fun w => by rw [← hk]; exact hright_any _ ht w
  have HRR : Hid (∀ w, Calls Tryd.prog 8 #[.agg (hv ⟨e, s, f, l⟩)] w fun r w' => r = .returned (.bool false) ∧ Below w.heap.size w w') := Lib.hid fun w => by rw [← hk]; exact rright_any _ ht w
  have HNW : Hid (∀ w, Calls Tryd.prog 9 #[.agg (hv ⟨e, s, f, l⟩), .agg (hv ⟨e', s', f', l'⟩)] w fun r w' => r = .returned (.bool false) ∧ Below w.heap.size w w') := Lib.hid fun w => (newer_any _ _ ht hg w).mono fun _ _ ⟨q1, q2⟩ => ⟨q1.trans (ret_bool (by simp [n2, n3])), q2⟩
  have HE : Hid (∀ w, Tab w → Calls Tryd.prog 6 #[.agg (hv ⟨e, s, f, l⟩)] w fun r w' => r = .returned (.tuple #[.agg (sv z64), .int .i64 13]) ∧ Below w.heap.size w w') := Lib.hid fun w _ => henc_no _ ht hk w
  have d13 : decide (e' < e) = false := decide_eq_false n1
  have d19 : (e == e') = true := by simp [n2]
  have d25 : decide (s' < s) = false := decide_eq_false n3
  clear n2
  clear ht hg hk hT hs1
  go_enter Tryd.func3, Tryd.ntmps3
  go_wp2_with (first
    | (go_at_call 6; (with_reducible refine (HE.out _ (HT.out.keep HW.out)).mono ?_); rintro r w1 ⟨rfl, hb1⟩; have HB1 := Lib.hid hb1; clear hb1)
    | (rw [← HZ.out]; refine wpl_put_sec rfl (.tmp 5) (.tmp 12) rfl w1.heap.size z64 z64 (Blk.new w1 z64 z64_length) z64_length rfl rfl ?_; intro w2 HC2 HG2; have HX2 := Lib.hid (bch HB1.out (new_below HG2.out)); have HES : Hid (ES w ⟨e, s, f, l⟩ ⟨e', s', f', l'⟩ w1.heap.size z64 w2) := Lib.hid ⟨bch HW.out HX2.out, HH.out.keep HX2.out, HG.out.keep HX2.out, HC2.out⟩)
    | (refine wpl_load_hd (by rfl) (.tmp 2) rfl rfl HH.out ?_))
  go_wp2_with fail
  refine wp_region_held_drew (S := (fun w' => w'.cell? ⟨w.heap.size, 0, none⟩ = some (.int .u64 e) ∧ w'.cell? ⟨w.heap.size, 1, none⟩ = some (.int .i64 s) ∧ w'.cell? ⟨w.heap.size + 1, 0, none⟩ = some (.int .u64 e') ∧ w'.cell? ⟨w.heap.size + 1, 1, none⟩ = some (.int .i64 s') ∧ ES w ⟨e, s, f, l⟩ ⟨e', s', f', l'⟩ w1.heap.size z64 w')) (by kernel_rfl) (ES.all (HES.out.next (Below.refl _ _).drew)) (fun hS => ?_)
  refine wpAnyH_take (i := 0) (oi := ({ dst := some 14, op := Op.load 25 (Operand.tmp 2), type := 25, pos := "law.go:20", after := #[], guard := none } : Oper)) (v := ?_) rfl (by kernel_rfl) (by kernel_rfl) (by kernel_rfl) (fun _ _ _ h => h) (Or.inl ⟨by rfl, ?_⟩) hS ?_
  rotate_left
  · (intro w hSw; (try dsimp only at hSw); refine exec_load_hd (.tmp 2) ?_ ?_ hSw.2.2.2.2.hh <;> rfl)
  (try simp only [Act.put, List.setIfInBounds_toArray, List.set_cons_zero, List.set_cons_succ])
  refine wpAnyH_take (i := 2) (oi := ({ dst := some 16, op := Op.load 25 (Operand.tmp 2), type := 25, pos := "law.go:20", after := #[], guard := none } : Oper)) (v := ?_) rfl (by kernel_rfl) (by kernel_rfl) (by kernel_rfl) (fun _ _ _ h => h) (Or.inl ⟨by rfl, ?_⟩) hS ?_
  rotate_left
  · (intro w hSw; (try dsimp only at hSw); refine exec_load_hd (.tmp 2) ?_ ?_ hSw.2.2.2.2.hh <;> rfl)
  (try simp only [Act.put, List.setIfInBounds_toArray, List.set_cons_zero, List.set_cons_succ])
  refine rg_one 1 ({ dst := some 15, op := Op.call { callee := Callee.value (Operand.func 7), args := #[Operand.tmp 14], argTypes := #[25] }, type := 4, pos := "law.go:20", after := #[{ on := 0, ground := Ground.data }], guard := none } : Oper) (by kernel_rfl) rfl (fun K hK => ?_)
  go_simp
  (go_at_call 7; (refine (HR.out _).mono ?_); rintro r w3 ⟨rfl, hb⟩)
  refine hK.out _ _ ?_ (fun hS1 => ?_)
  · (first | exact hS | exact ES.all (hS.2.2.2.2.next hb))
  clear hK K hS; have hS := hS1; clear hS1
  (try simp only [Act.put, List.setIfInBounds_toArray, List.set_cons_zero, List.set_cons_succ])
  refine rg_one 3 ({ dst := some 17, op := Op.call { callee := Callee.value (Operand.func 8), args := #[Operand.tmp 16], argTypes := #[25] }, type := 4, pos := "law.go:20", after := #[{ on := 2, ground := Ground.data }, { on := 1, ground := Ground.chain }], guard := none } : Oper) (by kernel_rfl) rfl (fun K hK => ?_)
  go_simp
  (go_at_call 8; (refine (HRR.out _).mono ?_); rintro r w4 ⟨rfl, hb⟩)
  refine hK.out _ _ ?_ (fun hS1 => ?_)
  · (first | exact hS | exact ES.all (hS.2.2.2.2.next hb))
  clear hK K hS; have hS := hS1; clear hS1
  (try simp only [Act.put, List.setIfInBounds_toArray, List.set_cons_zero, List.set_cons_succ])
  refine wpAnyH_take (i := 4) (oi := ({ dst := some 18, op := Op.binOp BinOp.neq 4 (Operand.tmp 15) (Operand.tmp 17) 4, type := 4, pos := "law.go:20", after := #[{ on := 1, ground := Ground.data }, { on := 3, ground := Ground.data }], guard := none } : Oper)) (v := ?_) rfl (by kernel_rfl) (by kernel_rfl) (by kernel_rfl) (fun _ _ _ h => h) (Or.inl ⟨by rfl, ?_⟩) hS ?_
  rotate_left
  · (intro w hSw; (try dsimp only at hSw); go_simp; try with_reducible rfl)
  (try simp only [Act.put, List.setIfInBounds_toArray, List.set_cons_zero, List.set_cons_succ])
  refine wpAnyH_take (i := 5) (oi := ({ dst := some 19, op := Op.move (Operand.tmp 18), type := 4, pos := "law.go:20", after := #[{ on := 4, ground := Ground.data }, { on := 3, ground := Ground.chain }], guard := none } : Oper)) (v := ?_) rfl (by kernel_rfl) (by kernel_rfl) (by kernel_rfl) (fun _ _ _ h => h) (Or.inl ⟨by rfl, ?_⟩) hS ?_
  rotate_left
  · (intro w hSw; (try dsimp only at hSw); go_simp; try with_reducible rfl)
  (try simp only [Act.put, List.setIfInBounds_toArray, List.set_cons_zero, List.set_cons_succ])
  refine wpAnyH_take (i := 6) (oi := ({ dst := some 20, op := Op.load 25 (Operand.tmp 2), type := 25, pos := "law.go:20", after := #[{ on := 5, ground := Ground.guard }], guard := some (5, false) } : Oper)) (v := ?_) rfl (by kernel_rfl) (by kernel_rfl) (by kernel_rfl) (fun _ _ _ h => h) (Or.inl ⟨by rfl, ?_⟩) hS ?_
  rotate_left
  · (intro w hSw; (try dsimp only at hSw); refine exec_load_hd (.tmp 2) ?_ ?_ hSw.2.2.2.2.hh <;> rfl)
  (try simp only [Act.put, List.setIfInBounds_toArray, List.set_cons_zero, List.set_cons_succ])
  refine wpAnyH_take (i := 7) (oi := ({ dst := some 21, op := Op.load 25 (Operand.tmp 3), type := 25, pos := "law.go:20", after := #[{ on := 5, ground := Ground.guard }], guard := some (5, false) } : Oper)) (v := ?_) rfl (by kernel_rfl) (by kernel_rfl) (by kernel_rfl) (fun _ _ _ h => h) (Or.inl ⟨by rfl, ?_⟩) hS ?_
  rotate_left
  · (intro w hSw; (try dsimp only at hSw); refine exec_load_hd (.tmp 3) ?_ ?_ hSw.2.2.2.2.hg <;> rfl)
  (try simp only [Act.put, List.setIfInBounds_toArray, List.set_cons_zero, List.set_cons_succ])
  refine wpAnyH_take (i := 9) (oi := ({ dst := some 23, op := Op.fieldAddr 25 (Operand.tmp 2) 0, type := 0, pos := "law.go:20", after := #[{ on := 5, ground := Ground.guard }], guard := some (5, false) } : Oper)) (v := ?_) rfl (by kernel_rfl) (by kernel_rfl) (by kernel_rfl) (fun _ _ _ h => h) (Or.inl ⟨by rfl, ?_⟩) hS ?_
  rotate_left
  · (intro w hSw; (try dsimp only at hSw); go_simp; try with_reducible rfl)
  (try simp only [Act.put, List.setIfInBounds_toArray, List.set_cons_zero, List.set_cons_succ])
  refine wpAnyH_take (i := 10) (oi := ({ dst := some 24, op := Op.load 22 (Operand.tmp 23), type := 22, pos := "law.go:20", after := #[{ on := 9, ground := Ground.data }, { on := 5, ground := Ground.guard }], guard := some (5, false) } : Oper)) (v := ?_) rfl (by kernel_rfl) (by kernel_rfl) (by kernel_rfl) (fun _ _ _ h => h) (Or.inl ⟨by rfl, ?_⟩) hS ?_
  rotate_left
  · (intro w hSw; (try dsimp only at hSw); go_simp; try with_reducible rfl)
  (try simp only [Act.put, List.setIfInBounds_toArray, List.set_cons_zero, List.set_cons_succ])
  refine wpAnyH_take (i := 11) (oi := ({ dst := some 25, op := Op.fieldAddr 25 (Operand.tmp 3) 0, type := 0, pos := "law.go:20", after := #[{ on := 5, ground := Ground.guard }], guard := some (5, false) } : Oper)) (v := ?_) rfl (by kernel_rfl) (by kernel_rfl) (by kernel_rfl) (fun _ _ _ h => h) (Or.inl ⟨by rfl, ?_⟩) hS ?_
  rotate_left
  · (intro w hSw; (try dsimp only at hSw); go_simp; try with_reducible rfl)
  (try simp only [Act.put, List.setIfInBounds_toArray, List.set_cons_zero, List.set_cons_succ])
  refine wpAnyH_take (i := 12) (oi := ({ dst := some 26, op := Op.load 22 (Operand.tmp 25), type := 22, pos := "law.go:20", after := #[{ on := 11, ground := Ground.data }, { on := 5, ground := Ground.guard }], guard := some (5, false) } : Oper)) (v := ?_) rfl (by kernel_rfl) (by kernel_rfl) (by kernel_rfl) (fun _ _ _ h => h) (Or.inl ⟨by rfl, ?_⟩) hS ?_
  rotate_left
  · (intro w hSw; (try dsimp only at hSw); go_simp; try with_reducible rfl)
  (try simp only [Act.put, List.setIfInBounds_toArray, List.set_cons_zero, List.set_cons_succ])
  refine wpAnyH_take (i := 13) (oi := ({ dst := some 27, op := Op.binOp BinOp.gtr 22 (Operand.tmp 24) (Operand.tmp 26) 22, type := 4, pos := "law.go:20", after := #[{ on := 10, ground := Ground.data }, { on := 12, ground := Ground.data }, { on := 5, ground := Ground.guard }], guard := some (5, false) } : Oper)) (v := .bool false) rfl (by kernel_rfl) (by kernel_rfl) (by kernel_rfl) (fun _ _ _ h => h) (Or.inl ⟨by rfl, ?_⟩) hS ?_
  · (intro w hSw; (try dsimp only at hSw); go_simp)
  (try simp only [Act.put, List.setIfInBounds_toArray, List.set_cons_zero, List.set_cons_succ])
  refine rg_one 8 ({ dst := some 22, op := Op.call { callee := Callee.value (Operand.func 9), args := #[Operand.tmp 20, Operand.tmp 21], argTypes := #[25, 25] }, type := 4, pos := "law.go:20", after := #[{ on := 6, ground := Ground.data }, { on := 7, ground := Ground.data }, { on := 5, ground := Ground.chain }, { on := 5, ground := Ground.guard }], guard := some (5, false) } : Oper) (by kernel_rfl) rfl (fun K hK => ?_)
  go_simp
  (go_at_call 9; (refine (HNW.out _).mono ?_); rintro r w5 ⟨rfl, hb⟩)
  refine hK.out _ _ ?_ (fun hS1 => ?_)
  · (first | exact hS | exact ES.all (hS.2.2.2.2.next hb))
  clear hK K hS; have hS := hS1; clear hS1
  (try simp only [Act.put, List.setIfInBounds_toArray, List.set_cons_zero, List.set_cons_succ])
  refine wpAnyH_take (i := 14) (oi := ({ dst := some 28, op := Op.move (Operand.tmp 27), type := 4, pos := "law.go:20", after := #[{ on := 13, ground := Ground.data }, { on := 8, ground := Ground.chain }, { on := 5, ground := Ground.guard }], guard := some (5, false) } : Oper)) (v := ?_) rfl (by kernel_rfl) (by kernel_rfl) (by kernel_rfl) (fun _ _ _ h => h) (Or.inl ⟨by rfl, ?_⟩) hS ?_
  rotate_left
  · (intro w hSw; (try dsimp only at hSw); go_simp; try with_reducible rfl)
  (try simp only [Act.put, List.setIfInBounds_toArray, List.set_cons_zero, List.set_cons_succ])
  refine wpAnyH_take (i := 15) (oi := ({ dst := some 29, op := Op.fieldAddr 25 (Operand.tmp 2) 0, type := 0, pos := "law.go:20", after := #[{ on := 14, ground := Ground.guard }], guard := some (14, false) } : Oper)) (v := ?_) rfl (by kernel_rfl) (by kernel_rfl) (by kernel_rfl) (fun _ _ _ h => h) (Or.inl ⟨by rfl, ?_⟩) hS ?_
  rotate_left
  · (intro w hSw; (try dsimp only at hSw); go_simp; try with_reducible rfl)
  (try simp only [Act.put, List.setIfInBounds_toArray, List.set_cons_zero, List.set_cons_succ])
  refine wpAnyH_take (i := 16) (oi := ({ dst := some 30, op := Op.load 22 (Operand.tmp 29), type := 22, pos := "law.go:20", after := #[{ on := 15, ground := Ground.data }, { on := 14, ground := Ground.guard }], guard := some (14, false) } : Oper)) (v := ?_) rfl (by kernel_rfl) (by kernel_rfl) (by kernel_rfl) (fun _ _ _ h => h) (Or.inl ⟨by rfl, ?_⟩) hS ?_
  rotate_left
  · (intro w hSw; (try dsimp only at hSw); go_simp; try with_reducible rfl)
  (try simp only [Act.put, List.setIfInBounds_toArray, List.set_cons_zero, List.set_cons_succ])
  refine wpAnyH_take (i := 17) (oi := ({ dst := some 31, op := Op.fieldAddr 25 (Operand.tmp 3) 0, type := 0, pos := "law.go:20", after := #[{ on := 14, ground := Ground.guard }], guard := some (14, false) } : Oper)) (v := ?_) rfl (by kernel_rfl) (by kernel_rfl) (by kernel_rfl) (fun _ _ _ h => h) (Or.inl ⟨by rfl, ?_⟩) hS ?_
  rotate_left
  · (intro w hSw; (try dsimp only at hSw); go_simp; try with_reducible rfl)
  (try simp only [Act.put, List.setIfInBounds_toArray, List.set_cons_zero, List.set_cons_succ])
  refine wpAnyH_take (i := 18) (oi := ({ dst := some 32, op := Op.load 22 (Operand.tmp 31), type := 22, pos := "law.go:20", after := #[{ on := 17, ground := Ground.data }, { on := 14, ground := Ground.guard }], guard := some (14, false) } : Oper)) (v := ?_) rfl (by kernel_rfl) (by kernel_rfl) (by kernel_rfl) (fun _ _ _ h => h) (Or.inl ⟨by rfl, ?_⟩) hS ?_
  rotate_left
  · (intro w hSw; (try dsimp only at hSw); go_simp; try with_reducible rfl)
  (try simp only [Act.put, List.setIfInBounds_toArray, List.set_cons_zero, List.set_cons_succ])
  refine wpAnyH_take (i := 19) (oi := ({ dst := some 33, op := Op.binOp BinOp.eql 22 (Operand.tmp 30) (Operand.tmp 32) 22, type := 4, pos := "law.go:20", after := #[{ on := 16, ground := Ground.data }, { on := 18, ground := Ground.data }, { on := 14, ground := Ground.guard }], guard := some (14, false) } : Oper)) (v := .bool true) rfl (by kernel_rfl) (by kernel_rfl) (by kernel_rfl) (fun _ _ _ h => h) (Or.inl ⟨by rfl, ?_⟩) hS ?_
  · (intro w hSw; (try dsimp only at hSw); go_simp)
  (try simp only [Act.put, List.setIfInBounds_toArray, List.set_cons_zero, List.set_cons_succ])
  refine wpAnyH_take (i := 20) (oi := ({ dst := some 34, op := Op.move (Operand.tmp 33), type := 4, pos := "law.go:20", after := #[{ on := 19, ground := Ground.data }, { on := 14, ground := Ground.chain }, { on := 14, ground := Ground.guard }], guard := some (14, false) } : Oper)) (v := ?_) rfl (by kernel_rfl) (by kernel_rfl) (by kernel_rfl) (fun _ _ _ h => h) (Or.inl ⟨by rfl, ?_⟩) hS ?_
  rotate_left
  · (intro w hSw; (try dsimp only at hSw); go_simp; try with_reducible rfl)
  (try simp only [Act.put, List.setIfInBounds_toArray, List.set_cons_zero, List.set_cons_succ])
  refine wpAnyH_take (i := 21) (oi := ({ dst := some 35, op := Op.fieldAddr 25 (Operand.tmp 2) 1, type := 0, pos := "law.go:20", after := #[{ on := 20, ground := Ground.guard }], guard := some (20, true) } : Oper)) (v := ?_) rfl (by kernel_rfl) (by kernel_rfl) (by kernel_rfl) (fun _ _ _ h => h) (Or.inl ⟨by rfl, ?_⟩) hS ?_
  rotate_left
  · (intro w hSw; (try dsimp only at hSw); go_simp; try with_reducible rfl)
  (try simp only [Act.put, List.setIfInBounds_toArray, List.set_cons_zero, List.set_cons_succ])
  refine wpAnyH_take (i := 22) (oi := ({ dst := some 36, op := Op.load 3 (Operand.tmp 35), type := 3, pos := "law.go:20", after := #[{ on := 21, ground := Ground.data }, { on := 20, ground := Ground.guard }], guard := some (20, true) } : Oper)) (v := ?_) rfl (by kernel_rfl) (by kernel_rfl) (by kernel_rfl) (fun _ _ _ h => h) (Or.inl ⟨by rfl, ?_⟩) hS ?_
  rotate_left
  · (intro w hSw; (try dsimp only at hSw); go_simp; try with_reducible rfl)
  (try simp only [Act.put, List.setIfInBounds_toArray, List.set_cons_zero, List.set_cons_succ])
  refine wpAnyH_take (i := 23) (oi := ({ dst := some 37, op := Op.fieldAddr 25 (Operand.tmp 3) 1, type := 0, pos := "law.go:20", after := #[{ on := 20, ground := Ground.guard }], guard := some (20, true) } : Oper)) (v := ?_) rfl (by kernel_rfl) (by kernel_rfl) (by kernel_rfl) (fun _ _ _ h => h) (Or.inl ⟨by rfl, ?_⟩) hS ?_
  rotate_left
  · (intro w hSw; (try dsimp only at hSw); go_simp; try with_reducible rfl)
  (try simp only [Act.put, List.setIfInBounds_toArray, List.set_cons_zero, List.set_cons_succ])
  refine wpAnyH_take (i := 24) (oi := ({ dst := some 38, op := Op.load 3 (Operand.tmp 37), type := 3, pos := "law.go:20", after := #[{ on := 23, ground := Ground.data }, { on := 20, ground := Ground.guard }], guard := some (20, true) } : Oper)) (v := ?_) rfl (by kernel_rfl) (by kernel_rfl) (by kernel_rfl) (fun _ _ _ h => h) (Or.inl ⟨by rfl, ?_⟩) hS ?_
  rotate_left
  · (intro w hSw; (try dsimp only at hSw); go_simp; try with_reducible rfl)
  (try simp only [Act.put, List.setIfInBounds_toArray, List.set_cons_zero, List.set_cons_succ])
  refine wpAnyH_take (i := 25) (oi := ({ dst := some 39, op := Op.binOp BinOp.gtr 3 (Operand.tmp 36) (Operand.tmp 38) 3, type := 4, pos := "law.go:20", after := #[{ on := 22, ground := Ground.data }, { on := 24, ground := Ground.data }, { on := 20, ground := Ground.guard }], guard := some (20, true) } : Oper)) (v := .bool false) rfl (by kernel_rfl) (by kernel_rfl) (by kernel_rfl) (fun _ _ _ h => h) (Or.inl ⟨by rfl, ?_⟩) hS ?_
  · (intro w hSw; (try dsimp only at hSw); go_simp)
  (try simp only [Act.put, List.setIfInBounds_toArray, List.set_cons_zero, List.set_cons_succ])
  refine wpAnyH_take (i := 26) (oi := ({ dst := some 40, op := Op.pick (Operand.tmp 34) (Operand.tmp 39) (Operand.const (Value.bool false)), type := 4, pos := "law.go:20", after := #[{ on := 20, ground := Ground.data }, { on := 25, ground := Ground.data }, { on := 14, ground := Ground.guard }], guard := some (14, false) } : Oper)) (v := ?_) rfl (by kernel_rfl) (by kernel_rfl) (by kernel_rfl) (fun _ _ _ h => h) (Or.inl ⟨by rfl, ?_⟩) hS ?_
  rotate_left
  · (intro w hSw; (try dsimp only at hSw); go_simp; try with_reducible rfl)
  (try simp only [Act.put, List.setIfInBounds_toArray, List.set_cons_zero, List.set_cons_succ])
  refine wpAnyH_take (i := 27) (oi := ({ dst := some 41, op := Op.pick (Operand.tmp 28) (Operand.const (Value.bool true)) (Operand.tmp 40), type := 4, pos := "law.go:20", after := #[{ on := 14, ground := Ground.data }, { on := 26, ground := Ground.data }, { on := 5, ground := Ground.guard }], guard := some (5, false) } : Oper)) (v := ?_) rfl (by kernel_rfl) (by kernel_rfl) (by kernel_rfl) (fun _ _ _ h => h) (Or.inl ⟨by rfl, ?_⟩) hS ?_
  rotate_left
  · (intro w hSw; (try dsimp only at hSw); go_simp; try with_reducible rfl)
  (try simp only [Act.put, List.setIfInBounds_toArray, List.set_cons_zero, List.set_cons_succ])
  refine wpAnyH_take (i := 28) (oi := ({ dst := some 42, op := Op.binOp BinOp.neq 4 (Operand.tmp 22) (Operand.tmp 41) 4, type := 4, pos := "law.go:20", after := #[{ on := 8, ground := Ground.data }, { on := 27, ground := Ground.data }, { on := 5, ground := Ground.guard }], guard := some (5, false) } : Oper)) (v := ?_) rfl (by kernel_rfl) (by kernel_rfl) (by kernel_rfl) (fun _ _ _ h => h) (Or.inl ⟨by rfl, ?_⟩) hS ?_
  rotate_left
  · (intro w hSw; (try dsimp only at hSw); go_simp; try with_reducible rfl)
  (try simp only [Act.put, List.setIfInBounds_toArray, List.set_cons_zero, List.set_cons_succ])
  refine wpAnyH_take (i := 29) (oi := ({ dst := some 43, op := Op.pick (Operand.tmp 19) (Operand.const (Value.bool true)) (Operand.tmp 42), type := 4, pos := "law.go:20", after := #[{ on := 5, ground := Ground.data }, { on := 28, ground := Ground.data }], guard := none } : Oper)) (v := ?_) rfl (by kernel_rfl) (by kernel_rfl) (by kernel_rfl) (fun _ _ _ h => h) (Or.inl ⟨by rfl, ?_⟩) hS ?_
  rotate_left
  · (intro w hSw; (try dsimp only at hSw); go_simp; try with_reducible rfl)
  (try simp only [Act.put, List.setIfInBounds_toArray, List.set_cons_zero, List.set_cons_succ])
  refine wpAnyH_done (by kernel_rfl) ?_ _
  have HE5 := Lib.hid hS.2.2.2.2
  clear hS
  go_wp2_with (first
    | (go_at_call 8; (with_reducible refine (HRR.out _).mono ?_); rintro r w6 ⟨rfl, hb6⟩; have HE6 := Lib.hid (HE5.out.next hb6); clear hb6)
    | (refine wpl_load_sec (by rfl) (.tmp 5) rfl w1.heap.size rfl z64 HE6.out.sec ?_)
    | (refine wpl_build_sec rfl (by rfl) ?_)
    | (refine wpl_eq_sec (.tmp 50) (.tmp 51) _ rfl z64 z64 z64_length z64_length rfl rfl (by rfl) ?_; rw [show decide (z64 = z64) = true from by simp])
    | (go_at_call 10; (with_reducible refine (awake_any (HT.out.keep HE6.out.below)).mono ?_); rintro r w7 ⟨rfl, hb7⟩; have HE7 := Lib.hid (HE6.out.next hb7); clear hb7)
    | (refine wpl_load_hd (by rfl) (.tmp 2) rfl rfl HE5.out.hh ?_))
  go_ret
  exact ⟨rfl, HE7.out.below⟩
set_option maxRecDepth 8000 in
set_option maxHeartbeats 4000000 in
theorem encodes_wrong_below (e s f e' s' f' : Int) (l l' : List Int) (ht : HdT ⟨e, s, f, l⟩) (hg : HdT ⟨e', s', f', l'⟩) (hk : hdOk ⟨e, s, f, l⟩ = false) (w : World) (hT : Tab w) (n1 : ¬ e' < e) (n2 : ¬ e = e') :
    Calls Tryd.prog 3 #[.agg (hv ⟨e, s, f, l⟩), .agg (hv ⟨e', s', f', l'⟩)] w fun r w' => r = .returned (.bool true) ∧ Below w.heap.size w w' := by
  obtain ⟨w0, hw0⟩ : ∃ q, (w.alloc (.cells (hv ⟨e, s, f, l⟩) 25)).alloc (.cells (hv ⟨e', s', f', l'⟩) 25) = q := ⟨_, rfl⟩
  have hs1 : (w.alloc (.cells (hv ⟨e, s, f, l⟩) 25)).heap.size = w.heap.size + 1 := alloc_size w _
  have HH := Lib.hid (show HB w0 w.heap.size ⟨e, s, f, l⟩ from by rw [← hw0]; exact (HB.new w _ ht.n).keep (balloc _ _))
  have HG := Lib.hid (show HB w0 (w.heap.size + 1) ⟨e', s', f', l'⟩ from by rw [← hw0, ← hs1]; exact HB.new _ _ hg.n)
  have HW := Lib.hid (show Below w.heap.size w w0 from by rw [← hw0]; exact bch (balloc w _) (balloc _ _))
  have HT := Lib.hid hT
  have HZ := Lib.hid z64_cells
  have HN := Lib.hid ht.n
  have HSN := Lib.hid (secH_length ht.n)
  have HR : Hid (∀ w, Calls Tryd.prog 7 #[.agg (hv ⟨e, s, f, l⟩)] w fun r w' => r = .returned (.bool false) ∧ Below w.heap.size w w') := Lib.hid fun w => by rw [← hk]; exact hright_any _ ht w
  have HRR : Hid (∀ w, Calls Tryd.prog 8 #[.agg (hv ⟨e, s, f, l⟩)] w fun r w' => r = .returned (.bool false) ∧ Below w.heap.size w w') := Lib.hid fun w => by rw [← hk]; exact rright_any _ ht w
  have HNW : Hid (∀ w, Calls Tryd.prog 9 #[.agg (hv ⟨e, s, f, l⟩), .agg (hv ⟨e', s', f', l'⟩)] w fun r w' => r = .returned (.bool false) ∧ Below w.heap.size w w') := Lib.hid fun w => (newer_any _ _ ht hg w).mono fun _ _ ⟨q1, q2⟩ => ⟨q1.trans (ret_bool (by simp [n1, n2])), q2⟩
  have HE : Hid (∀ w, Tab w → Calls Tryd.prog 6 #[.agg (hv ⟨e, s, f, l⟩)] w fun r w' => r = .returned (.tuple #[.agg (sv z64), .int .i64 13]) ∧ Below w.heap.size w w') := Lib.hid fun w _ => henc_no _ ht hk w
  have d13 : decide (e' < e) = false := decide_eq_false n1
  have d19 : (e == e') = false := by simpa using n2
  clear ht hg hk hT hs1
  go_enter Tryd.func3, Tryd.ntmps3
  go_wp2_with (first
    | (go_at_call 6; (with_reducible refine (HE.out _ (HT.out.keep HW.out)).mono ?_); rintro r w1 ⟨rfl, hb1⟩; have HB1 := Lib.hid hb1; clear hb1)
    | (rw [← HZ.out]; refine wpl_put_sec rfl (.tmp 5) (.tmp 12) rfl w1.heap.size z64 z64 (Blk.new w1 z64 z64_length) z64_length rfl rfl ?_; intro w2 HC2 HG2; have HX2 := Lib.hid (bch HB1.out (new_below HG2.out)); have HES : Hid (ES w ⟨e, s, f, l⟩ ⟨e', s', f', l'⟩ w1.heap.size z64 w2) := Lib.hid ⟨bch HW.out HX2.out, HH.out.keep HX2.out, HG.out.keep HX2.out, HC2.out⟩)
    | (refine wpl_load_hd (by rfl) (.tmp 2) rfl rfl HH.out ?_))
  go_wp2_with fail
  refine wp_region_held_drew (S := (fun w' => w'.cell? ⟨w.heap.size, 0, none⟩ = some (.int .u64 e) ∧ w'.cell? ⟨w.heap.size, 1, none⟩ = some (.int .i64 s) ∧ w'.cell? ⟨w.heap.size + 1, 0, none⟩ = some (.int .u64 e') ∧ w'.cell? ⟨w.heap.size + 1, 1, none⟩ = some (.int .i64 s') ∧ ES w ⟨e, s, f, l⟩ ⟨e', s', f', l'⟩ w1.heap.size z64 w')) (by kernel_rfl) (ES.all (HES.out.next (Below.refl _ _).drew)) (fun hS => ?_)
  refine wpAnyH_take (i := 0) (oi := ({ dst := some 14, op := Op.load 25 (Operand.tmp 2), type := 25, pos := "law.go:20", after := #[], guard := none } : Oper)) (v := ?_) rfl (by kernel_rfl) (by kernel_rfl) (by kernel_rfl) (fun _ _ _ h => h) (Or.inl ⟨by rfl, ?_⟩) hS ?_
  rotate_left
  · (intro w hSw; (try dsimp only at hSw); refine exec_load_hd (.tmp 2) ?_ ?_ hSw.2.2.2.2.hh <;> rfl)
  (try simp only [Act.put, List.setIfInBounds_toArray, List.set_cons_zero, List.set_cons_succ])
  refine wpAnyH_take (i := 2) (oi := ({ dst := some 16, op := Op.load 25 (Operand.tmp 2), type := 25, pos := "law.go:20", after := #[], guard := none } : Oper)) (v := ?_) rfl (by kernel_rfl) (by kernel_rfl) (by kernel_rfl) (fun _ _ _ h => h) (Or.inl ⟨by rfl, ?_⟩) hS ?_
  rotate_left
  · (intro w hSw; (try dsimp only at hSw); refine exec_load_hd (.tmp 2) ?_ ?_ hSw.2.2.2.2.hh <;> rfl)
  (try simp only [Act.put, List.setIfInBounds_toArray, List.set_cons_zero, List.set_cons_succ])
  refine rg_one 1 ({ dst := some 15, op := Op.call { callee := Callee.value (Operand.func 7), args := #[Operand.tmp 14], argTypes := #[25] }, type := 4, pos := "law.go:20", after := #[{ on := 0, ground := Ground.data }], guard := none } : Oper) (by kernel_rfl) rfl (fun K hK => ?_)
  go_simp
  (go_at_call 7; (refine (HR.out _).mono ?_); rintro r w3 ⟨rfl, hb⟩)
  refine hK.out _ _ ?_ (fun hS1 => ?_)
  · (first | exact hS | exact ES.all (hS.2.2.2.2.next hb))
  clear hK K hS; have hS := hS1; clear hS1
  (try simp only [Act.put, List.setIfInBounds_toArray, List.set_cons_zero, List.set_cons_succ])
  refine rg_one 3 ({ dst := some 17, op := Op.call { callee := Callee.value (Operand.func 8), args := #[Operand.tmp 16], argTypes := #[25] }, type := 4, pos := "law.go:20", after := #[{ on := 2, ground := Ground.data }, { on := 1, ground := Ground.chain }], guard := none } : Oper) (by kernel_rfl) rfl (fun K hK => ?_)
  go_simp
  (go_at_call 8; (refine (HRR.out _).mono ?_); rintro r w4 ⟨rfl, hb⟩)
  refine hK.out _ _ ?_ (fun hS1 => ?_)
  · (first | exact hS | exact ES.all (hS.2.2.2.2.next hb))
  clear hK K hS; have hS := hS1; clear hS1
  (try simp only [Act.put, List.setIfInBounds_toArray, List.set_cons_zero, List.set_cons_succ])
  refine wpAnyH_take (i := 4) (oi := ({ dst := some 18, op := Op.binOp BinOp.neq 4 (Operand.tmp 15) (Operand.tmp 17) 4, type := 4, pos := "law.go:20", after := #[{ on := 1, ground := Ground.data }, { on := 3, ground := Ground.data }], guard := none } : Oper)) (v := ?_) rfl (by kernel_rfl) (by kernel_rfl) (by kernel_rfl) (fun _ _ _ h => h) (Or.inl ⟨by rfl, ?_⟩) hS ?_
  rotate_left
  · (intro w hSw; (try dsimp only at hSw); go_simp; try with_reducible rfl)
  (try simp only [Act.put, List.setIfInBounds_toArray, List.set_cons_zero, List.set_cons_succ])
  refine wpAnyH_take (i := 5) (oi := ({ dst := some 19, op := Op.move (Operand.tmp 18), type := 4, pos := "law.go:20", after := #[{ on := 4, ground := Ground.data }, { on := 3, ground := Ground.chain }], guard := none } : Oper)) (v := ?_) rfl (by kernel_rfl) (by kernel_rfl) (by kernel_rfl) (fun _ _ _ h => h) (Or.inl ⟨by rfl, ?_⟩) hS ?_
  rotate_left
  · (intro w hSw; (try dsimp only at hSw); go_simp; try with_reducible rfl)
  (try simp only [Act.put, List.setIfInBounds_toArray, List.set_cons_zero, List.set_cons_succ])
  refine wpAnyH_take (i := 6) (oi := ({ dst := some 20, op := Op.load 25 (Operand.tmp 2), type := 25, pos := "law.go:20", after := #[{ on := 5, ground := Ground.guard }], guard := some (5, false) } : Oper)) (v := ?_) rfl (by kernel_rfl) (by kernel_rfl) (by kernel_rfl) (fun _ _ _ h => h) (Or.inl ⟨by rfl, ?_⟩) hS ?_
  rotate_left
  · (intro w hSw; (try dsimp only at hSw); refine exec_load_hd (.tmp 2) ?_ ?_ hSw.2.2.2.2.hh <;> rfl)
  (try simp only [Act.put, List.setIfInBounds_toArray, List.set_cons_zero, List.set_cons_succ])
  refine wpAnyH_take (i := 7) (oi := ({ dst := some 21, op := Op.load 25 (Operand.tmp 3), type := 25, pos := "law.go:20", after := #[{ on := 5, ground := Ground.guard }], guard := some (5, false) } : Oper)) (v := ?_) rfl (by kernel_rfl) (by kernel_rfl) (by kernel_rfl) (fun _ _ _ h => h) (Or.inl ⟨by rfl, ?_⟩) hS ?_
  rotate_left
  · (intro w hSw; (try dsimp only at hSw); refine exec_load_hd (.tmp 3) ?_ ?_ hSw.2.2.2.2.hg <;> rfl)
  (try simp only [Act.put, List.setIfInBounds_toArray, List.set_cons_zero, List.set_cons_succ])
  refine wpAnyH_take (i := 9) (oi := ({ dst := some 23, op := Op.fieldAddr 25 (Operand.tmp 2) 0, type := 0, pos := "law.go:20", after := #[{ on := 5, ground := Ground.guard }], guard := some (5, false) } : Oper)) (v := ?_) rfl (by kernel_rfl) (by kernel_rfl) (by kernel_rfl) (fun _ _ _ h => h) (Or.inl ⟨by rfl, ?_⟩) hS ?_
  rotate_left
  · (intro w hSw; (try dsimp only at hSw); go_simp; try with_reducible rfl)
  (try simp only [Act.put, List.setIfInBounds_toArray, List.set_cons_zero, List.set_cons_succ])
  refine wpAnyH_take (i := 10) (oi := ({ dst := some 24, op := Op.load 22 (Operand.tmp 23), type := 22, pos := "law.go:20", after := #[{ on := 9, ground := Ground.data }, { on := 5, ground := Ground.guard }], guard := some (5, false) } : Oper)) (v := ?_) rfl (by kernel_rfl) (by kernel_rfl) (by kernel_rfl) (fun _ _ _ h => h) (Or.inl ⟨by rfl, ?_⟩) hS ?_
  rotate_left
  · (intro w hSw; (try dsimp only at hSw); go_simp; try with_reducible rfl)
  (try simp only [Act.put, List.setIfInBounds_toArray, List.set_cons_zero, List.set_cons_succ])
  refine wpAnyH_take (i := 11) (oi := ({ dst := some 25, op := Op.fieldAddr 25 (Operand.tmp 3) 0, type := 0, pos := "law.go:20", after := #[{ on := 5, ground := Ground.guard }], guard := some (5, false) } : Oper)) (v := ?_) rfl (by kernel_rfl) (by kernel_rfl) (by kernel_rfl) (fun _ _ _ h => h) (Or.inl ⟨by rfl, ?_⟩) hS ?_
  rotate_left
  · (intro w hSw; (try dsimp only at hSw); go_simp; try with_reducible rfl)
  (try simp only [Act.put, List.setIfInBounds_toArray, List.set_cons_zero, List.set_cons_succ])
  refine wpAnyH_take (i := 12) (oi := ({ dst := some 26, op := Op.load 22 (Operand.tmp 25), type := 22, pos := "law.go:20", after := #[{ on := 11, ground := Ground.data }, { on := 5, ground := Ground.guard }], guard := some (5, false) } : Oper)) (v := ?_) rfl (by kernel_rfl) (by kernel_rfl) (by kernel_rfl) (fun _ _ _ h => h) (Or.inl ⟨by rfl, ?_⟩) hS ?_
  rotate_left
  · (intro w hSw; (try dsimp only at hSw); go_simp; try with_reducible rfl)
  (try simp only [Act.put, List.setIfInBounds_toArray, List.set_cons_zero, List.set_cons_succ])
  refine wpAnyH_take (i := 13) (oi := ({ dst := some 27, op := Op.binOp BinOp.gtr 22 (Operand.tmp 24) (Operand.tmp 26) 22, type := 4, pos := "law.go:20", after := #[{ on := 10, ground := Ground.data }, { on := 12, ground := Ground.data }, { on := 5, ground := Ground.guard }], guard := some (5, false) } : Oper)) (v := .bool false) rfl (by kernel_rfl) (by kernel_rfl) (by kernel_rfl) (fun _ _ _ h => h) (Or.inl ⟨by rfl, ?_⟩) hS ?_
  · (intro w hSw; (try dsimp only at hSw); go_simp)
  (try simp only [Act.put, List.setIfInBounds_toArray, List.set_cons_zero, List.set_cons_succ])
  refine rg_one 8 ({ dst := some 22, op := Op.call { callee := Callee.value (Operand.func 9), args := #[Operand.tmp 20, Operand.tmp 21], argTypes := #[25, 25] }, type := 4, pos := "law.go:20", after := #[{ on := 6, ground := Ground.data }, { on := 7, ground := Ground.data }, { on := 5, ground := Ground.chain }, { on := 5, ground := Ground.guard }], guard := some (5, false) } : Oper) (by kernel_rfl) rfl (fun K hK => ?_)
  go_simp
  (go_at_call 9; (refine (HNW.out _).mono ?_); rintro r w5 ⟨rfl, hb⟩)
  refine hK.out _ _ ?_ (fun hS1 => ?_)
  · (first | exact hS | exact ES.all (hS.2.2.2.2.next hb))
  clear hK K hS; have hS := hS1; clear hS1
  (try simp only [Act.put, List.setIfInBounds_toArray, List.set_cons_zero, List.set_cons_succ])
  refine wpAnyH_take (i := 14) (oi := ({ dst := some 28, op := Op.move (Operand.tmp 27), type := 4, pos := "law.go:20", after := #[{ on := 13, ground := Ground.data }, { on := 8, ground := Ground.chain }, { on := 5, ground := Ground.guard }], guard := some (5, false) } : Oper)) (v := ?_) rfl (by kernel_rfl) (by kernel_rfl) (by kernel_rfl) (fun _ _ _ h => h) (Or.inl ⟨by rfl, ?_⟩) hS ?_
  rotate_left
  · (intro w hSw; (try dsimp only at hSw); go_simp; try with_reducible rfl)
  (try simp only [Act.put, List.setIfInBounds_toArray, List.set_cons_zero, List.set_cons_succ])
  refine wpAnyH_take (i := 15) (oi := ({ dst := some 29, op := Op.fieldAddr 25 (Operand.tmp 2) 0, type := 0, pos := "law.go:20", after := #[{ on := 14, ground := Ground.guard }], guard := some (14, false) } : Oper)) (v := ?_) rfl (by kernel_rfl) (by kernel_rfl) (by kernel_rfl) (fun _ _ _ h => h) (Or.inl ⟨by rfl, ?_⟩) hS ?_
  rotate_left
  · (intro w hSw; (try dsimp only at hSw); go_simp; try with_reducible rfl)
  (try simp only [Act.put, List.setIfInBounds_toArray, List.set_cons_zero, List.set_cons_succ])
  refine wpAnyH_take (i := 16) (oi := ({ dst := some 30, op := Op.load 22 (Operand.tmp 29), type := 22, pos := "law.go:20", after := #[{ on := 15, ground := Ground.data }, { on := 14, ground := Ground.guard }], guard := some (14, false) } : Oper)) (v := ?_) rfl (by kernel_rfl) (by kernel_rfl) (by kernel_rfl) (fun _ _ _ h => h) (Or.inl ⟨by rfl, ?_⟩) hS ?_
  rotate_left
  · (intro w hSw; (try dsimp only at hSw); go_simp; try with_reducible rfl)
  (try simp only [Act.put, List.setIfInBounds_toArray, List.set_cons_zero, List.set_cons_succ])
  refine wpAnyH_take (i := 17) (oi := ({ dst := some 31, op := Op.fieldAddr 25 (Operand.tmp 3) 0, type := 0, pos := "law.go:20", after := #[{ on := 14, ground := Ground.guard }], guard := some (14, false) } : Oper)) (v := ?_) rfl (by kernel_rfl) (by kernel_rfl) (by kernel_rfl) (fun _ _ _ h => h) (Or.inl ⟨by rfl, ?_⟩) hS ?_
  rotate_left
  · (intro w hSw; (try dsimp only at hSw); go_simp; try with_reducible rfl)
  (try simp only [Act.put, List.setIfInBounds_toArray, List.set_cons_zero, List.set_cons_succ])
  refine wpAnyH_take (i := 18) (oi := ({ dst := some 32, op := Op.load 22 (Operand.tmp 31), type := 22, pos := "law.go:20", after := #[{ on := 17, ground := Ground.data }, { on := 14, ground := Ground.guard }], guard := some (14, false) } : Oper)) (v := ?_) rfl (by kernel_rfl) (by kernel_rfl) (by kernel_rfl) (fun _ _ _ h => h) (Or.inl ⟨by rfl, ?_⟩) hS ?_
  rotate_left
  · (intro w hSw; (try dsimp only at hSw); go_simp; try with_reducible rfl)
  (try simp only [Act.put, List.setIfInBounds_toArray, List.set_cons_zero, List.set_cons_succ])
  refine wpAnyH_take (i := 19) (oi := ({ dst := some 33, op := Op.binOp BinOp.eql 22 (Operand.tmp 30) (Operand.tmp 32) 22, type := 4, pos := "law.go:20", after := #[{ on := 16, ground := Ground.data }, { on := 18, ground := Ground.data }, { on := 14, ground := Ground.guard }], guard := some (14, false) } : Oper)) (v := .bool false) rfl (by kernel_rfl) (by kernel_rfl) (by kernel_rfl) (fun _ _ _ h => h) (Or.inl ⟨by rfl, ?_⟩) hS ?_
  · (intro w hSw; (try dsimp only at hSw); go_simp)
  (try simp only [Act.put, List.setIfInBounds_toArray, List.set_cons_zero, List.set_cons_succ])
  refine wpAnyH_take (i := 20) (oi := ({ dst := some 34, op := Op.move (Operand.tmp 33), type := 4, pos := "law.go:20", after := #[{ on := 19, ground := Ground.data }, { on := 14, ground := Ground.chain }, { on := 14, ground := Ground.guard }], guard := some (14, false) } : Oper)) (v := ?_) rfl (by kernel_rfl) (by kernel_rfl) (by kernel_rfl) (fun _ _ _ h => h) (Or.inl ⟨by rfl, ?_⟩) hS ?_
  rotate_left
  · (intro w hSw; (try dsimp only at hSw); go_simp; try with_reducible rfl)
  (try simp only [Act.put, List.setIfInBounds_toArray, List.set_cons_zero, List.set_cons_succ])
  refine wpAnyH_take (i := 21) (oi := ({ dst := some 35, op := Op.fieldAddr 25 (Operand.tmp 2) 1, type := 0, pos := "law.go:20", after := #[{ on := 20, ground := Ground.guard }], guard := some (20, true) } : Oper)) (v := undef) rfl (by kernel_rfl) (by kernel_rfl) (by kernel_rfl) (fun _ _ _ h => h) (Or.inr ⟨by rfl, rfl⟩) hS ?_
  (try simp only [Act.put, List.setIfInBounds_toArray, List.set_cons_zero, List.set_cons_succ])
  refine wpAnyH_take (i := 22) (oi := ({ dst := some 36, op := Op.load 3 (Operand.tmp 35), type := 3, pos := "law.go:20", after := #[{ on := 21, ground := Ground.data }, { on := 20, ground := Ground.guard }], guard := some (20, true) } : Oper)) (v := undef) rfl (by kernel_rfl) (by kernel_rfl) (by kernel_rfl) (fun _ _ _ h => h) (Or.inr ⟨by rfl, rfl⟩) hS ?_
  (try simp only [Act.put, List.setIfInBounds_toArray, List.set_cons_zero, List.set_cons_succ])
  refine wpAnyH_take (i := 23) (oi := ({ dst := some 37, op := Op.fieldAddr 25 (Operand.tmp 3) 1, type := 0, pos := "law.go:20", after := #[{ on := 20, ground := Ground.guard }], guard := some (20, true) } : Oper)) (v := undef) rfl (by kernel_rfl) (by kernel_rfl) (by kernel_rfl) (fun _ _ _ h => h) (Or.inr ⟨by rfl, rfl⟩) hS ?_
  (try simp only [Act.put, List.setIfInBounds_toArray, List.set_cons_zero, List.set_cons_succ])
  refine wpAnyH_take (i := 24) (oi := ({ dst := some 38, op := Op.load 3 (Operand.tmp 37), type := 3, pos := "law.go:20", after := #[{ on := 23, ground := Ground.data }, { on := 20, ground := Ground.guard }], guard := some (20, true) } : Oper)) (v := undef) rfl (by kernel_rfl) (by kernel_rfl) (by kernel_rfl) (fun _ _ _ h => h) (Or.inr ⟨by rfl, rfl⟩) hS ?_
  (try simp only [Act.put, List.setIfInBounds_toArray, List.set_cons_zero, List.set_cons_succ])
  refine wpAnyH_take (i := 25) (oi := ({ dst := some 39, op := Op.binOp BinOp.gtr 3 (Operand.tmp 36) (Operand.tmp 38) 3, type := 4, pos := "law.go:20", after := #[{ on := 22, ground := Ground.data }, { on := 24, ground := Ground.data }, { on := 20, ground := Ground.guard }], guard := some (20, true) } : Oper)) (v := undef) rfl (by kernel_rfl) (by kernel_rfl) (by kernel_rfl) (fun _ _ _ h => h) (Or.inr ⟨by rfl, rfl⟩) hS ?_
  (try simp only [Act.put, List.setIfInBounds_toArray, List.set_cons_zero, List.set_cons_succ])
  refine wpAnyH_take (i := 26) (oi := ({ dst := some 40, op := Op.pick (Operand.tmp 34) (Operand.tmp 39) (Operand.const (Value.bool false)), type := 4, pos := "law.go:20", after := #[{ on := 20, ground := Ground.data }, { on := 25, ground := Ground.data }, { on := 14, ground := Ground.guard }], guard := some (14, false) } : Oper)) (v := ?_) rfl (by kernel_rfl) (by kernel_rfl) (by kernel_rfl) (fun _ _ _ h => h) (Or.inl ⟨by rfl, ?_⟩) hS ?_
  rotate_left
  · (intro w hSw; (try dsimp only at hSw); go_simp; try with_reducible rfl)
  (try simp only [Act.put, List.setIfInBounds_toArray, List.set_cons_zero, List.set_cons_succ])
  refine wpAnyH_take (i := 27) (oi := ({ dst := some 41, op := Op.pick (Operand.tmp 28) (Operand.const (Value.bool true)) (Operand.tmp 40), type := 4, pos := "law.go:20", after := #[{ on := 14, ground := Ground.data }, { on := 26, ground := Ground.data }, { on := 5, ground := Ground.guard }], guard := some (5, false) } : Oper)) (v := ?_) rfl (by kernel_rfl) (by kernel_rfl) (by kernel_rfl) (fun _ _ _ h => h) (Or.inl ⟨by rfl, ?_⟩) hS ?_
  rotate_left
  · (intro w hSw; (try dsimp only at hSw); go_simp; try with_reducible rfl)
  (try simp only [Act.put, List.setIfInBounds_toArray, List.set_cons_zero, List.set_cons_succ])
  refine wpAnyH_take (i := 28) (oi := ({ dst := some 42, op := Op.binOp BinOp.neq 4 (Operand.tmp 22) (Operand.tmp 41) 4, type := 4, pos := "law.go:20", after := #[{ on := 8, ground := Ground.data }, { on := 27, ground := Ground.data }, { on := 5, ground := Ground.guard }], guard := some (5, false) } : Oper)) (v := ?_) rfl (by kernel_rfl) (by kernel_rfl) (by kernel_rfl) (fun _ _ _ h => h) (Or.inl ⟨by rfl, ?_⟩) hS ?_
  rotate_left
  · (intro w hSw; (try dsimp only at hSw); go_simp; try with_reducible rfl)
  (try simp only [Act.put, List.setIfInBounds_toArray, List.set_cons_zero, List.set_cons_succ])
  refine wpAnyH_take (i := 29) (oi := ({ dst := some 43, op := Op.pick (Operand.tmp 19) (Operand.const (Value.bool true)) (Operand.tmp 42), type := 4, pos := "law.go:20", after := #[{ on := 5, ground := Ground.data }, { on := 28, ground := Ground.data }], guard := none } : Oper)) (v := ?_) rfl (by kernel_rfl) (by kernel_rfl) (by kernel_rfl) (fun _ _ _ h => h) (Or.inl ⟨by rfl, ?_⟩) hS ?_
  rotate_left
  · (intro w hSw; (try dsimp only at hSw); go_simp; try with_reducible rfl)
  (try simp only [Act.put, List.setIfInBounds_toArray, List.set_cons_zero, List.set_cons_succ])
  refine wpAnyH_done (by kernel_rfl) ?_ _
  have HE5 := Lib.hid hS.2.2.2.2
  clear hS
  go_wp2_with (first
    | (go_at_call 8; (with_reducible refine (HRR.out _).mono ?_); rintro r w6 ⟨rfl, hb6⟩; have HE6 := Lib.hid (HE5.out.next hb6); clear hb6)
    | (refine wpl_load_sec (by rfl) (.tmp 5) rfl w1.heap.size rfl z64 HE6.out.sec ?_)
    | (refine wpl_build_sec rfl (by rfl) ?_)
    | (refine wpl_eq_sec (.tmp 50) (.tmp 51) _ rfl z64 z64 z64_length z64_length rfl rfl (by rfl) ?_; rw [show decide (z64 = z64) = true from by simp])
    | (go_at_call 10; (with_reducible refine (awake_any (HT.out.keep HE6.out.below)).mono ?_); rintro r w7 ⟨rfl, hb7⟩; have HE7 := Lib.hid (HE6.out.next hb7); clear hb7)
    | (refine wpl_load_hd (by rfl) (.tmp 2) rfl rfl HE5.out.hh ?_))
  go_ret
  exact ⟨rfl, HE7.out.below⟩
set_option maxRecDepth 8000 in
set_option maxHeartbeats 4000000 in
theorem encodes_right_above (e s f e' s' f' : Int) (l l' : List Int) (ht : HdT ⟨e, s, f, l⟩) (hg : HdT ⟨e', s', f', l'⟩) (hk : hdOk ⟨e, s, f, l⟩ = true) (w : World) (hT : Tab w) (n1 : e' < e) :
    Calls Tryd.prog 3 #[.agg (hv ⟨e, s, f, l⟩), .agg (hv ⟨e', s', f', l'⟩)] w fun r w' => r = .returned (.bool true) ∧ Below w.heap.size w w' := by
  obtain ⟨w0, hw0⟩ : ∃ q, (w.alloc (.cells (hv ⟨e, s, f, l⟩) 25)).alloc (.cells (hv ⟨e', s', f', l'⟩) 25) = q := ⟨_, rfl⟩
  have hs1 : (w.alloc (.cells (hv ⟨e, s, f, l⟩) 25)).heap.size = w.heap.size + 1 := alloc_size w _
  have HH := Lib.hid (show HB w0 w.heap.size ⟨e, s, f, l⟩ from by rw [← hw0]; exact (HB.new w _ ht.n).keep (balloc _ _))
  have HG := Lib.hid (show HB w0 (w.heap.size + 1) ⟨e', s', f', l'⟩ from by rw [← hw0, ← hs1]; exact HB.new _ _ hg.n)
  have HW := Lib.hid (show Below w.heap.size w w0 from by rw [← hw0]; exact bch (balloc w _) (balloc _ _))
  have HT := Lib.hid hT
  have HZ := Lib.hid z64_cells
  have HN := Lib.hid ht.n
  have HSN := Lib.hid (secH_length ht.n)
  have HR : Hid (∀ w, Calls Tryd.prog 7 #[.agg (hv ⟨e, s, f, l⟩)] w fun r w' => r = .returned (.bool true) ∧ Below w.heap.size w w') := Lib.hid fun w => by rw [← hk]; exact hright_any _ ht w
  have HRR : Hid (∀ w, Calls Tryd.prog 8 #[.agg (hv ⟨e, s, f, l⟩)] w fun r w' => r = .returned (.bool true) ∧ Below w.heap.size w w') := Lib.hid fun w => by rw [← hk]; exact rright_any _ ht w
  have HNW : Hid (∀ w, Calls Tryd.prog 9 #[.agg (hv ⟨e, s, f, l⟩), .agg (hv ⟨e', s', f', l'⟩)] w fun r w' => r = .returned (.bool true) ∧ Below w.heap.size w w') := Lib.hid fun w => (newer_any _ _ ht hg w).mono fun _ _ ⟨q1, q2⟩ => ⟨q1.trans (ret_bool (by simp [n1])), q2⟩
  have HE : Hid (∀ w, Tab w → Calls Tryd.prog 6 #[.agg (hv ⟨e, s, f, l⟩)] w fun r w' => r = .returned (.tuple #[.agg (sv (secH ⟨e, s, f, l⟩)), .int .i64 0]) ∧ Below w.heap.size w w') := Lib.hid fun w q => henc_ok _ ht hk w q
  have HD : Hid (∀ w, Tab w → Calls Tryd.prog 11 #[.agg (sv (secH ⟨e, s, f, l⟩))] w fun r w' => r = .returned (.tuple #[.agg (hv ⟨e, s, f, l⟩), .int .i64 0]) ∧ Below w.heap.size w w') := Lib.hid fun w q => hdec_any _ (secH_length ht.n) (secH_bytes _) w q (hd_got ht hk)
  have HSC : Hid (∀ w, Calls Tryd.prog 12 #[.agg (hv ⟨e, s, f, l⟩)] w fun r w' => r = .returned (.agg (sv (secH ⟨e, s, f, l⟩))) ∧ Below w.heap.size w w') := Lib.hid fun w => rsector_any _ ht hk w
  have d13 : decide (e' < e) = true := decide_eq_true n1
  clear ht hg hk hT hs1
  go_enter Tryd.func3, Tryd.ntmps3
  go_wp2_with (first
    | (go_at_call 6; (with_reducible refine (HE.out _ (HT.out.keep HW.out)).mono ?_); rintro r w1 ⟨rfl, hb1⟩; have HB1 := Lib.hid hb1; clear hb1)
    | (rw [← HZ.out]; refine wpl_put_sec rfl (.tmp 5) (.tmp 12) rfl w1.heap.size z64 (secH ⟨e, s, f, l⟩) (Blk.new w1 z64 z64_length) HSN.out rfl rfl ?_; intro w2 HC2 HG2; have HX2 := Lib.hid (bch HB1.out (new_below HG2.out)); have HES : Hid (ES w ⟨e, s, f, l⟩ ⟨e', s', f', l'⟩ w1.heap.size (secH ⟨e, s, f, l⟩) w2) := Lib.hid ⟨bch HW.out HX2.out, HH.out.keep HX2.out, HG.out.keep HX2.out, HC2.out⟩)
    | (refine wpl_load_hd (by rfl) (.tmp 2) rfl rfl HH.out ?_))
  go_wp2_with fail
  refine wp_region_held_drew (S := (fun w' => w'.cell? ⟨w.heap.size, 0, none⟩ = some (.int .u64 e) ∧ w'.cell? ⟨w.heap.size, 1, none⟩ = some (.int .i64 s) ∧ w'.cell? ⟨w.heap.size + 1, 0, none⟩ = some (.int .u64 e') ∧ w'.cell? ⟨w.heap.size + 1, 1, none⟩ = some (.int .i64 s') ∧ ES w ⟨e, s, f, l⟩ ⟨e', s', f', l'⟩ w1.heap.size (secH ⟨e, s, f, l⟩) w')) (by kernel_rfl) (ES.all (HES.out.next (Below.refl _ _).drew)) (fun hS => ?_)
  refine wpAnyH_take (i := 0) (oi := ({ dst := some 14, op := Op.load 25 (Operand.tmp 2), type := 25, pos := "law.go:20", after := #[], guard := none } : Oper)) (v := ?_) rfl (by kernel_rfl) (by kernel_rfl) (by kernel_rfl) (fun _ _ _ h => h) (Or.inl ⟨by rfl, ?_⟩) hS ?_
  rotate_left
  · (intro w hSw; (try dsimp only at hSw); refine exec_load_hd (.tmp 2) ?_ ?_ hSw.2.2.2.2.hh <;> rfl)
  (try simp only [Act.put, List.setIfInBounds_toArray, List.set_cons_zero, List.set_cons_succ])
  refine wpAnyH_take (i := 2) (oi := ({ dst := some 16, op := Op.load 25 (Operand.tmp 2), type := 25, pos := "law.go:20", after := #[], guard := none } : Oper)) (v := ?_) rfl (by kernel_rfl) (by kernel_rfl) (by kernel_rfl) (fun _ _ _ h => h) (Or.inl ⟨by rfl, ?_⟩) hS ?_
  rotate_left
  · (intro w hSw; (try dsimp only at hSw); refine exec_load_hd (.tmp 2) ?_ ?_ hSw.2.2.2.2.hh <;> rfl)
  (try simp only [Act.put, List.setIfInBounds_toArray, List.set_cons_zero, List.set_cons_succ])
  refine rg_one 1 ({ dst := some 15, op := Op.call { callee := Callee.value (Operand.func 7), args := #[Operand.tmp 14], argTypes := #[25] }, type := 4, pos := "law.go:20", after := #[{ on := 0, ground := Ground.data }], guard := none } : Oper) (by kernel_rfl) rfl (fun K hK => ?_)
  go_simp
  (go_at_call 7; (refine (HR.out _).mono ?_); rintro r w3 ⟨rfl, hb⟩)
  refine hK.out _ _ ?_ (fun hS1 => ?_)
  · (first | exact hS | exact ES.all (hS.2.2.2.2.next hb))
  clear hK K hS; have hS := hS1; clear hS1
  (try simp only [Act.put, List.setIfInBounds_toArray, List.set_cons_zero, List.set_cons_succ])
  refine rg_one 3 ({ dst := some 17, op := Op.call { callee := Callee.value (Operand.func 8), args := #[Operand.tmp 16], argTypes := #[25] }, type := 4, pos := "law.go:20", after := #[{ on := 2, ground := Ground.data }, { on := 1, ground := Ground.chain }], guard := none } : Oper) (by kernel_rfl) rfl (fun K hK => ?_)
  go_simp
  (go_at_call 8; (refine (HRR.out _).mono ?_); rintro r w4 ⟨rfl, hb⟩)
  refine hK.out _ _ ?_ (fun hS1 => ?_)
  · (first | exact hS | exact ES.all (hS.2.2.2.2.next hb))
  clear hK K hS; have hS := hS1; clear hS1
  (try simp only [Act.put, List.setIfInBounds_toArray, List.set_cons_zero, List.set_cons_succ])
  refine wpAnyH_take (i := 4) (oi := ({ dst := some 18, op := Op.binOp BinOp.neq 4 (Operand.tmp 15) (Operand.tmp 17) 4, type := 4, pos := "law.go:20", after := #[{ on := 1, ground := Ground.data }, { on := 3, ground := Ground.data }], guard := none } : Oper)) (v := ?_) rfl (by kernel_rfl) (by kernel_rfl) (by kernel_rfl) (fun _ _ _ h => h) (Or.inl ⟨by rfl, ?_⟩) hS ?_
  rotate_left
  · (intro w hSw; (try dsimp only at hSw); go_simp; try with_reducible rfl)
  (try simp only [Act.put, List.setIfInBounds_toArray, List.set_cons_zero, List.set_cons_succ])
  refine wpAnyH_take (i := 5) (oi := ({ dst := some 19, op := Op.move (Operand.tmp 18), type := 4, pos := "law.go:20", after := #[{ on := 4, ground := Ground.data }, { on := 3, ground := Ground.chain }], guard := none } : Oper)) (v := ?_) rfl (by kernel_rfl) (by kernel_rfl) (by kernel_rfl) (fun _ _ _ h => h) (Or.inl ⟨by rfl, ?_⟩) hS ?_
  rotate_left
  · (intro w hSw; (try dsimp only at hSw); go_simp; try with_reducible rfl)
  (try simp only [Act.put, List.setIfInBounds_toArray, List.set_cons_zero, List.set_cons_succ])
  refine wpAnyH_take (i := 6) (oi := ({ dst := some 20, op := Op.load 25 (Operand.tmp 2), type := 25, pos := "law.go:20", after := #[{ on := 5, ground := Ground.guard }], guard := some (5, false) } : Oper)) (v := ?_) rfl (by kernel_rfl) (by kernel_rfl) (by kernel_rfl) (fun _ _ _ h => h) (Or.inl ⟨by rfl, ?_⟩) hS ?_
  rotate_left
  · (intro w hSw; (try dsimp only at hSw); refine exec_load_hd (.tmp 2) ?_ ?_ hSw.2.2.2.2.hh <;> rfl)
  (try simp only [Act.put, List.setIfInBounds_toArray, List.set_cons_zero, List.set_cons_succ])
  refine wpAnyH_take (i := 7) (oi := ({ dst := some 21, op := Op.load 25 (Operand.tmp 3), type := 25, pos := "law.go:20", after := #[{ on := 5, ground := Ground.guard }], guard := some (5, false) } : Oper)) (v := ?_) rfl (by kernel_rfl) (by kernel_rfl) (by kernel_rfl) (fun _ _ _ h => h) (Or.inl ⟨by rfl, ?_⟩) hS ?_
  rotate_left
  · (intro w hSw; (try dsimp only at hSw); refine exec_load_hd (.tmp 3) ?_ ?_ hSw.2.2.2.2.hg <;> rfl)
  (try simp only [Act.put, List.setIfInBounds_toArray, List.set_cons_zero, List.set_cons_succ])
  refine wpAnyH_take (i := 9) (oi := ({ dst := some 23, op := Op.fieldAddr 25 (Operand.tmp 2) 0, type := 0, pos := "law.go:20", after := #[{ on := 5, ground := Ground.guard }], guard := some (5, false) } : Oper)) (v := ?_) rfl (by kernel_rfl) (by kernel_rfl) (by kernel_rfl) (fun _ _ _ h => h) (Or.inl ⟨by rfl, ?_⟩) hS ?_
  rotate_left
  · (intro w hSw; (try dsimp only at hSw); go_simp; try with_reducible rfl)
  (try simp only [Act.put, List.setIfInBounds_toArray, List.set_cons_zero, List.set_cons_succ])
  refine wpAnyH_take (i := 10) (oi := ({ dst := some 24, op := Op.load 22 (Operand.tmp 23), type := 22, pos := "law.go:20", after := #[{ on := 9, ground := Ground.data }, { on := 5, ground := Ground.guard }], guard := some (5, false) } : Oper)) (v := ?_) rfl (by kernel_rfl) (by kernel_rfl) (by kernel_rfl) (fun _ _ _ h => h) (Or.inl ⟨by rfl, ?_⟩) hS ?_
  rotate_left
  · (intro w hSw; (try dsimp only at hSw); go_simp; try with_reducible rfl)
  (try simp only [Act.put, List.setIfInBounds_toArray, List.set_cons_zero, List.set_cons_succ])
  refine wpAnyH_take (i := 11) (oi := ({ dst := some 25, op := Op.fieldAddr 25 (Operand.tmp 3) 0, type := 0, pos := "law.go:20", after := #[{ on := 5, ground := Ground.guard }], guard := some (5, false) } : Oper)) (v := ?_) rfl (by kernel_rfl) (by kernel_rfl) (by kernel_rfl) (fun _ _ _ h => h) (Or.inl ⟨by rfl, ?_⟩) hS ?_
  rotate_left
  · (intro w hSw; (try dsimp only at hSw); go_simp; try with_reducible rfl)
  (try simp only [Act.put, List.setIfInBounds_toArray, List.set_cons_zero, List.set_cons_succ])
  refine wpAnyH_take (i := 12) (oi := ({ dst := some 26, op := Op.load 22 (Operand.tmp 25), type := 22, pos := "law.go:20", after := #[{ on := 11, ground := Ground.data }, { on := 5, ground := Ground.guard }], guard := some (5, false) } : Oper)) (v := ?_) rfl (by kernel_rfl) (by kernel_rfl) (by kernel_rfl) (fun _ _ _ h => h) (Or.inl ⟨by rfl, ?_⟩) hS ?_
  rotate_left
  · (intro w hSw; (try dsimp only at hSw); go_simp; try with_reducible rfl)
  (try simp only [Act.put, List.setIfInBounds_toArray, List.set_cons_zero, List.set_cons_succ])
  refine wpAnyH_take (i := 13) (oi := ({ dst := some 27, op := Op.binOp BinOp.gtr 22 (Operand.tmp 24) (Operand.tmp 26) 22, type := 4, pos := "law.go:20", after := #[{ on := 10, ground := Ground.data }, { on := 12, ground := Ground.data }, { on := 5, ground := Ground.guard }], guard := some (5, false) } : Oper)) (v := .bool true) rfl (by kernel_rfl) (by kernel_rfl) (by kernel_rfl) (fun _ _ _ h => h) (Or.inl ⟨by rfl, ?_⟩) hS ?_
  · (intro w hSw; (try dsimp only at hSw); go_simp)
  (try simp only [Act.put, List.setIfInBounds_toArray, List.set_cons_zero, List.set_cons_succ])
  refine rg_one 8 ({ dst := some 22, op := Op.call { callee := Callee.value (Operand.func 9), args := #[Operand.tmp 20, Operand.tmp 21], argTypes := #[25, 25] }, type := 4, pos := "law.go:20", after := #[{ on := 6, ground := Ground.data }, { on := 7, ground := Ground.data }, { on := 5, ground := Ground.chain }, { on := 5, ground := Ground.guard }], guard := some (5, false) } : Oper) (by kernel_rfl) rfl (fun K hK => ?_)
  go_simp
  (go_at_call 9; (refine (HNW.out _).mono ?_); rintro r w5 ⟨rfl, hb⟩)
  refine hK.out _ _ ?_ (fun hS1 => ?_)
  · (first | exact hS | exact ES.all (hS.2.2.2.2.next hb))
  clear hK K hS; have hS := hS1; clear hS1
  (try simp only [Act.put, List.setIfInBounds_toArray, List.set_cons_zero, List.set_cons_succ])
  refine wpAnyH_take (i := 14) (oi := ({ dst := some 28, op := Op.move (Operand.tmp 27), type := 4, pos := "law.go:20", after := #[{ on := 13, ground := Ground.data }, { on := 8, ground := Ground.chain }, { on := 5, ground := Ground.guard }], guard := some (5, false) } : Oper)) (v := ?_) rfl (by kernel_rfl) (by kernel_rfl) (by kernel_rfl) (fun _ _ _ h => h) (Or.inl ⟨by rfl, ?_⟩) hS ?_
  rotate_left
  · (intro w hSw; (try dsimp only at hSw); go_simp; try with_reducible rfl)
  (try simp only [Act.put, List.setIfInBounds_toArray, List.set_cons_zero, List.set_cons_succ])
  refine wpAnyH_take (i := 15) (oi := ({ dst := some 29, op := Op.fieldAddr 25 (Operand.tmp 2) 0, type := 0, pos := "law.go:20", after := #[{ on := 14, ground := Ground.guard }], guard := some (14, false) } : Oper)) (v := undef) rfl (by kernel_rfl) (by kernel_rfl) (by kernel_rfl) (fun _ _ _ h => h) (Or.inr ⟨by rfl, rfl⟩) hS ?_
  (try simp only [Act.put, List.setIfInBounds_toArray, List.set_cons_zero, List.set_cons_succ])
  refine wpAnyH_take (i := 16) (oi := ({ dst := some 30, op := Op.load 22 (Operand.tmp 29), type := 22, pos := "law.go:20", after := #[{ on := 15, ground := Ground.data }, { on := 14, ground := Ground.guard }], guard := some (14, false) } : Oper)) (v := undef) rfl (by kernel_rfl) (by kernel_rfl) (by kernel_rfl) (fun _ _ _ h => h) (Or.inr ⟨by rfl, rfl⟩) hS ?_
  (try simp only [Act.put, List.setIfInBounds_toArray, List.set_cons_zero, List.set_cons_succ])
  refine wpAnyH_take (i := 17) (oi := ({ dst := some 31, op := Op.fieldAddr 25 (Operand.tmp 3) 0, type := 0, pos := "law.go:20", after := #[{ on := 14, ground := Ground.guard }], guard := some (14, false) } : Oper)) (v := undef) rfl (by kernel_rfl) (by kernel_rfl) (by kernel_rfl) (fun _ _ _ h => h) (Or.inr ⟨by rfl, rfl⟩) hS ?_
  (try simp only [Act.put, List.setIfInBounds_toArray, List.set_cons_zero, List.set_cons_succ])
  refine wpAnyH_take (i := 18) (oi := ({ dst := some 32, op := Op.load 22 (Operand.tmp 31), type := 22, pos := "law.go:20", after := #[{ on := 17, ground := Ground.data }, { on := 14, ground := Ground.guard }], guard := some (14, false) } : Oper)) (v := undef) rfl (by kernel_rfl) (by kernel_rfl) (by kernel_rfl) (fun _ _ _ h => h) (Or.inr ⟨by rfl, rfl⟩) hS ?_
  (try simp only [Act.put, List.setIfInBounds_toArray, List.set_cons_zero, List.set_cons_succ])
  refine wpAnyH_take (i := 19) (oi := ({ dst := some 33, op := Op.binOp BinOp.eql 22 (Operand.tmp 30) (Operand.tmp 32) 22, type := 4, pos := "law.go:20", after := #[{ on := 16, ground := Ground.data }, { on := 18, ground := Ground.data }, { on := 14, ground := Ground.guard }], guard := some (14, false) } : Oper)) (v := undef) rfl (by kernel_rfl) (by kernel_rfl) (by kernel_rfl) (fun _ _ _ h => h) (Or.inr ⟨by rfl, rfl⟩) hS ?_
  (try simp only [Act.put, List.setIfInBounds_toArray, List.set_cons_zero, List.set_cons_succ])
  refine wpAnyH_take (i := 20) (oi := ({ dst := some 34, op := Op.move (Operand.tmp 33), type := 4, pos := "law.go:20", after := #[{ on := 19, ground := Ground.data }, { on := 14, ground := Ground.chain }, { on := 14, ground := Ground.guard }], guard := some (14, false) } : Oper)) (v := undef) rfl (by kernel_rfl) (by kernel_rfl) (by kernel_rfl) (fun _ _ _ h => h) (Or.inr ⟨by rfl, rfl⟩) hS ?_
  (try simp only [Act.put, List.setIfInBounds_toArray, List.set_cons_zero, List.set_cons_succ])
  refine wpAnyH_take (i := 21) (oi := ({ dst := some 35, op := Op.fieldAddr 25 (Operand.tmp 2) 1, type := 0, pos := "law.go:20", after := #[{ on := 20, ground := Ground.guard }], guard := some (20, true) } : Oper)) (v := undef) rfl (by kernel_rfl) (by kernel_rfl) (by kernel_rfl) (fun _ _ _ h => h) (Or.inr ⟨by rfl, rfl⟩) hS ?_
  (try simp only [Act.put, List.setIfInBounds_toArray, List.set_cons_zero, List.set_cons_succ])
  refine wpAnyH_take (i := 22) (oi := ({ dst := some 36, op := Op.load 3 (Operand.tmp 35), type := 3, pos := "law.go:20", after := #[{ on := 21, ground := Ground.data }, { on := 20, ground := Ground.guard }], guard := some (20, true) } : Oper)) (v := undef) rfl (by kernel_rfl) (by kernel_rfl) (by kernel_rfl) (fun _ _ _ h => h) (Or.inr ⟨by rfl, rfl⟩) hS ?_
  (try simp only [Act.put, List.setIfInBounds_toArray, List.set_cons_zero, List.set_cons_succ])
  refine wpAnyH_take (i := 23) (oi := ({ dst := some 37, op := Op.fieldAddr 25 (Operand.tmp 3) 1, type := 0, pos := "law.go:20", after := #[{ on := 20, ground := Ground.guard }], guard := some (20, true) } : Oper)) (v := undef) rfl (by kernel_rfl) (by kernel_rfl) (by kernel_rfl) (fun _ _ _ h => h) (Or.inr ⟨by rfl, rfl⟩) hS ?_
  (try simp only [Act.put, List.setIfInBounds_toArray, List.set_cons_zero, List.set_cons_succ])
  refine wpAnyH_take (i := 24) (oi := ({ dst := some 38, op := Op.load 3 (Operand.tmp 37), type := 3, pos := "law.go:20", after := #[{ on := 23, ground := Ground.data }, { on := 20, ground := Ground.guard }], guard := some (20, true) } : Oper)) (v := undef) rfl (by kernel_rfl) (by kernel_rfl) (by kernel_rfl) (fun _ _ _ h => h) (Or.inr ⟨by rfl, rfl⟩) hS ?_
  (try simp only [Act.put, List.setIfInBounds_toArray, List.set_cons_zero, List.set_cons_succ])
  refine wpAnyH_take (i := 25) (oi := ({ dst := some 39, op := Op.binOp BinOp.gtr 3 (Operand.tmp 36) (Operand.tmp 38) 3, type := 4, pos := "law.go:20", after := #[{ on := 22, ground := Ground.data }, { on := 24, ground := Ground.data }, { on := 20, ground := Ground.guard }], guard := some (20, true) } : Oper)) (v := undef) rfl (by kernel_rfl) (by kernel_rfl) (by kernel_rfl) (fun _ _ _ h => h) (Or.inr ⟨by rfl, rfl⟩) hS ?_
  (try simp only [Act.put, List.setIfInBounds_toArray, List.set_cons_zero, List.set_cons_succ])
  refine wpAnyH_take (i := 26) (oi := ({ dst := some 40, op := Op.pick (Operand.tmp 34) (Operand.tmp 39) (Operand.const (Value.bool false)), type := 4, pos := "law.go:20", after := #[{ on := 20, ground := Ground.data }, { on := 25, ground := Ground.data }, { on := 14, ground := Ground.guard }], guard := some (14, false) } : Oper)) (v := undef) rfl (by kernel_rfl) (by kernel_rfl) (by kernel_rfl) (fun _ _ _ h => h) (Or.inr ⟨by rfl, rfl⟩) hS ?_
  (try simp only [Act.put, List.setIfInBounds_toArray, List.set_cons_zero, List.set_cons_succ])
  refine wpAnyH_take (i := 27) (oi := ({ dst := some 41, op := Op.pick (Operand.tmp 28) (Operand.const (Value.bool true)) (Operand.tmp 40), type := 4, pos := "law.go:20", after := #[{ on := 14, ground := Ground.data }, { on := 26, ground := Ground.data }, { on := 5, ground := Ground.guard }], guard := some (5, false) } : Oper)) (v := ?_) rfl (by kernel_rfl) (by kernel_rfl) (by kernel_rfl) (fun _ _ _ h => h) (Or.inl ⟨by rfl, ?_⟩) hS ?_
  rotate_left
  · (intro w hSw; (try dsimp only at hSw); go_simp; try with_reducible rfl)
  (try simp only [Act.put, List.setIfInBounds_toArray, List.set_cons_zero, List.set_cons_succ])
  refine wpAnyH_take (i := 28) (oi := ({ dst := some 42, op := Op.binOp BinOp.neq 4 (Operand.tmp 22) (Operand.tmp 41) 4, type := 4, pos := "law.go:20", after := #[{ on := 8, ground := Ground.data }, { on := 27, ground := Ground.data }, { on := 5, ground := Ground.guard }], guard := some (5, false) } : Oper)) (v := ?_) rfl (by kernel_rfl) (by kernel_rfl) (by kernel_rfl) (fun _ _ _ h => h) (Or.inl ⟨by rfl, ?_⟩) hS ?_
  rotate_left
  · (intro w hSw; (try dsimp only at hSw); go_simp; try with_reducible rfl)
  (try simp only [Act.put, List.setIfInBounds_toArray, List.set_cons_zero, List.set_cons_succ])
  refine wpAnyH_take (i := 29) (oi := ({ dst := some 43, op := Op.pick (Operand.tmp 19) (Operand.const (Value.bool true)) (Operand.tmp 42), type := 4, pos := "law.go:20", after := #[{ on := 5, ground := Ground.data }, { on := 28, ground := Ground.data }], guard := none } : Oper)) (v := ?_) rfl (by kernel_rfl) (by kernel_rfl) (by kernel_rfl) (fun _ _ _ h => h) (Or.inl ⟨by rfl, ?_⟩) hS ?_
  rotate_left
  · (intro w hSw; (try dsimp only at hSw); go_simp; try with_reducible rfl)
  (try simp only [Act.put, List.setIfInBounds_toArray, List.set_cons_zero, List.set_cons_succ])
  refine wpAnyH_done (by kernel_rfl) ?_ _
  have HE5 := Lib.hid hS.2.2.2.2
  clear hS
  go_wp2_with (first
    | (go_at_call 8; (with_reducible refine (HRR.out _).mono ?_); rintro r w6 ⟨rfl, hb6⟩; have HE6 := Lib.hid (HE5.out.next hb6); clear hb6)
    | (refine wpl_load_hd (by rfl) (.tmp 2) rfl rfl HE5.out.hh ?_)
    | (refine wpl_load_sec (by rfl) (.tmp 5) rfl w1.heap.size rfl (secH ⟨e, s, f, l⟩) HE6.out.sec ?_)
    | (go_at_call 11; (with_reducible refine (HD.out _ (HT.out.keep HE6.out.below)).mono ?_); rintro r w7 ⟨rfl, hb7⟩; have HE7 := Lib.hid (HE6.out.next hb7); clear hb7)
    | (refine wpl_put_hd rfl (.tmp 7) (.tmp 60) rfl w7.heap.size noH ⟨e, s, f, l⟩ (HB.new w7 noH rfl) HN.out rfl rfl ?_; intro w8 HA8 HG8; have HE8 := Lib.hid (HE7.out.next (new_below HG8.out))))
  go_wp2_with fail
  refine wp_region_held_drew (S := (fun w' => HB w' w7.heap.size ⟨e, s, f, l⟩ ∧ ES w ⟨e, s, f, l⟩ ⟨e', s', f', l'⟩ w1.heap.size (secH ⟨e, s, f, l⟩) w')) (by kernel_rfl) ⟨HA8.out, HE8.out.next (Below.refl _ _).drew⟩ (fun hS => ?_)
  refine wpAnyH_take (i := 0) (oi := ({ dst := some 62, op := Op.move (Operand.tmp 6), type := 28, pos := "law.go:27", after := #[], guard := none } : Oper)) (v := ?_) rfl (by kernel_rfl) (by kernel_rfl) (by kernel_rfl) (fun _ _ _ h => h) (Or.inl ⟨by rfl, ?_⟩) hS ?_
  rotate_left
  · (intro w hSw; (try dsimp only at hSw); go_simp; try with_reducible rfl)
  (try simp only [Act.put, List.setIfInBounds_toArray, List.set_cons_zero, List.set_cons_succ])
  refine wpAnyH_take (i := 1) (oi := ({ dst := some 63, op := Op.binOp BinOp.eql 28 (Operand.tmp 62) (Operand.const (Value.int IntKind.i64 0)) 28, type := 4, pos := "law.go:27", after := #[{ on := 0, ground := Ground.data }], guard := none } : Oper)) (v := ?_) rfl (by kernel_rfl) (by kernel_rfl) (by kernel_rfl) (fun _ _ _ h => h) (Or.inl ⟨by rfl, ?_⟩) hS ?_
  rotate_left
  · (intro w hSw; (try dsimp only at hSw); go_simp; try with_reducible rfl)
  (try simp only [Act.put, List.setIfInBounds_toArray, List.set_cons_zero, List.set_cons_succ])
  refine wpAnyH_take (i := 2) (oi := ({ dst := some 64, op := Op.move (Operand.tmp 63), type := 4, pos := "law.go:27", after := #[{ on := 1, ground := Ground.data }], guard := none } : Oper)) (v := ?_) rfl (by kernel_rfl) (by kernel_rfl) (by kernel_rfl) (fun _ _ _ h => h) (Or.inl ⟨by rfl, ?_⟩) hS ?_
  rotate_left
  · (intro w hSw; (try dsimp only at hSw); go_simp; try with_reducible rfl)
  (try simp only [Act.put, List.setIfInBounds_toArray, List.set_cons_zero, List.set_cons_succ])
  refine wpAnyH_take (i := 3) (oi := ({ dst := some 65, op := Op.load 27 (Operand.tmp 5), type := 27, pos := "law.go:27", after := #[{ on := 2, ground := Ground.guard }], guard := some (2, true) } : Oper)) (v := ?_) rfl (by kernel_rfl) (by kernel_rfl) (by kernel_rfl) (fun _ _ _ h => h) (Or.inl ⟨by rfl, ?_⟩) hS ?_
  rotate_left
  · (intro w hSw; (try dsimp only at hSw); refine exec_load_sec (.tmp 5) ?_ ?_ hSw.2.sec <;> rfl)
  (try simp only [Act.put, List.setIfInBounds_toArray, List.set_cons_zero, List.set_cons_succ])
  refine wpAnyH_take (i := 4) (oi := ({ dst := some 66, op := Op.load 25 (Operand.tmp 2), type := 25, pos := "law.go:27", after := #[{ on := 2, ground := Ground.guard }], guard := some (2, true) } : Oper)) (v := ?_) rfl (by kernel_rfl) (by kernel_rfl) (by kernel_rfl) (fun _ _ _ h => h) (Or.inl ⟨by rfl, ?_⟩) hS ?_
  rotate_left
  · (intro w hSw; (try dsimp only at hSw); refine exec_load_hd (.tmp 2) ?_ ?_ hSw.2.hh <;> rfl)
  (try simp only [Act.put, List.setIfInBounds_toArray, List.set_cons_zero, List.set_cons_succ])
  refine rg_one 5 ({ dst := some 67, op := Op.call { callee := Callee.value (Operand.func 12), args := #[Operand.tmp 66], argTypes := #[25] }, type := 27, pos := "law.go:27", after := #[{ on := 4, ground := Ground.data }, { on := 2, ground := Ground.chain }, { on := 2, ground := Ground.guard }], guard := some (2, true) } : Oper) (by kernel_rfl) rfl (fun K hK => ?_)
  go_simp
  (go_at_call 12; (refine (HSC.out _).mono ?_); rintro r w9 ⟨rfl, hb⟩)
  refine hK.out _ _ ?_ (fun hS1 => ?_)
  · (first | exact hS | exact ⟨hS.1.keep hb, hS.2.next hb⟩)
  clear hK K hS; have hS := hS1; clear hS1
  (try simp only [Act.put, List.setIfInBounds_toArray, List.set_cons_zero, List.set_cons_succ])
  refine wpAnyH_take (i := 6) (oi := ({ dst := some 68, op := Op.binOp BinOp.eql 27 (Operand.tmp 65) (Operand.tmp 67) 27, type := 4, pos := "law.go:27", after := #[{ on := 3, ground := Ground.data }, { on := 5, ground := Ground.data }, { on := 2, ground := Ground.guard }], guard := some (2, true) } : Oper)) (v := .bool true) rfl (by kernel_rfl) (by kernel_rfl) (by kernel_rfl) (fun _ _ _ h => h) (Or.inl ⟨by rfl, ?_⟩) hS ?_
  · (intro w hSw; (try dsimp only at hSw); exact (exec_eq_sec (secH ⟨e, s, f, l⟩) (secH ⟨e, s, f, l⟩) HSN.out HSN.out (.tmp 65) (.tmp 67) _ rfl rfl rfl).trans (by simp))
  (try simp only [Act.put, List.setIfInBounds_toArray, List.set_cons_zero, List.set_cons_succ])
  refine wpAnyH_take (i := 7) (oi := ({ dst := some 69, op := Op.pick (Operand.tmp 64) (Operand.tmp 68) (Operand.const (Value.bool false)), type := 4, pos := "law.go:27", after := #[{ on := 2, ground := Ground.data }, { on := 6, ground := Ground.data }], guard := none } : Oper)) (v := ?_) rfl (by kernel_rfl) (by kernel_rfl) (by kernel_rfl) (fun _ _ _ h => h) (Or.inl ⟨by rfl, ?_⟩) hS ?_
  rotate_left
  · (intro w hSw; (try dsimp only at hSw); go_simp; try with_reducible rfl)
  (try simp only [Act.put, List.setIfInBounds_toArray, List.set_cons_zero, List.set_cons_succ])
  refine wpAnyH_take (i := 8) (oi := ({ dst := some 70, op := Op.move (Operand.tmp 69), type := 4, pos := "law.go:27", after := #[{ on := 7, ground := Ground.data }, { on := 5, ground := Ground.chain }], guard := none } : Oper)) (v := ?_) rfl (by kernel_rfl) (by kernel_rfl) (by kernel_rfl) (fun _ _ _ h => h) (Or.inl ⟨by rfl, ?_⟩) hS ?_
  rotate_left
  · (intro w hSw; (try dsimp only at hSw); go_simp; try with_reducible rfl)
  (try simp only [Act.put, List.setIfInBounds_toArray, List.set_cons_zero, List.set_cons_succ])
  refine wpAnyH_take (i := 9) (oi := ({ dst := some 71, op := Op.load 25 (Operand.tmp 7), type := 25, pos := "law.go:27", after := #[{ on := 8, ground := Ground.guard }], guard := some (8, true) } : Oper)) (v := ?_) rfl (by kernel_rfl) (by kernel_rfl) (by kernel_rfl) (fun _ _ _ h => h) (Or.inl ⟨by rfl, ?_⟩) hS ?_
  rotate_left
  · (intro w hSw; (try dsimp only at hSw); refine exec_load_hd (.tmp 7) ?_ ?_ hSw.1 <;> rfl)
  (try simp only [Act.put, List.setIfInBounds_toArray, List.set_cons_zero, List.set_cons_succ])
  refine wpAnyH_take (i := 10) (oi := ({ dst := some 72, op := Op.load 25 (Operand.tmp 2), type := 25, pos := "law.go:27", after := #[{ on := 8, ground := Ground.guard }], guard := some (8, true) } : Oper)) (v := ?_) rfl (by kernel_rfl) (by kernel_rfl) (by kernel_rfl) (fun _ _ _ h => h) (Or.inl ⟨by rfl, ?_⟩) hS ?_
  rotate_left
  · (intro w hSw; (try dsimp only at hSw); refine exec_load_hd (.tmp 2) ?_ ?_ hSw.2.hh <;> rfl)
  (try simp only [Act.put, List.setIfInBounds_toArray, List.set_cons_zero, List.set_cons_succ])
  refine wpAnyH_take (i := 11) (oi := ({ dst := some 73, op := Op.binOp BinOp.eql 25 (Operand.tmp 71) (Operand.tmp 72) 25, type := 4, pos := "law.go:27", after := #[{ on := 9, ground := Ground.data }, { on := 10, ground := Ground.data }, { on := 8, ground := Ground.guard }], guard := some (8, true) } : Oper)) (v := .bool true) rfl (by kernel_rfl) (by kernel_rfl) (by kernel_rfl) (fun _ _ _ h => h) (Or.inl ⟨by rfl, ?_⟩) hS ?_
  · (intro w hSw; (try dsimp only at hSw); exact (exec_eq_hd HN.out HN.out (.tmp 71) (.tmp 72) _ rfl rfl rfl).trans (by simp))
  (try simp only [Act.put, List.setIfInBounds_toArray, List.set_cons_zero, List.set_cons_succ])
  refine wpAnyH_take (i := 12) (oi := ({ dst := some 74, op := Op.pick (Operand.tmp 70) (Operand.tmp 73) (Operand.const (Value.bool false)), type := 4, pos := "law.go:27", after := #[{ on := 8, ground := Ground.data }, { on := 11, ground := Ground.data }], guard := none } : Oper)) (v := ?_) rfl (by kernel_rfl) (by kernel_rfl) (by kernel_rfl) (fun _ _ _ h => h) (Or.inl ⟨by rfl, ?_⟩) hS ?_
  rotate_left
  · (intro w hSw; (try dsimp only at hSw); go_simp; try with_reducible rfl)
  (try simp only [Act.put, List.setIfInBounds_toArray, List.set_cons_zero, List.set_cons_succ])
  refine wpAnyH_take (i := 13) (oi := ({ dst := some 75, op := Op.move (Operand.tmp 74), type := 4, pos := "law.go:27", after := #[{ on := 12, ground := Ground.data }, { on := 8, ground := Ground.chain }], guard := none } : Oper)) (v := ?_) rfl (by kernel_rfl) (by kernel_rfl) (by kernel_rfl) (fun _ _ _ h => h) (Or.inl ⟨by rfl, ?_⟩) hS ?_
  rotate_left
  · (intro w hSw; (try dsimp only at hSw); go_simp; try with_reducible rfl)
  (try simp only [Act.put, List.setIfInBounds_toArray, List.set_cons_zero, List.set_cons_succ])
  refine wpAnyH_take (i := 14) (oi := ({ dst := some 76, op := Op.move (Operand.tmp 8), type := 28, pos := "law.go:27", after := #[{ on := 13, ground := Ground.guard }], guard := some (13, true) } : Oper)) (v := ?_) rfl (by kernel_rfl) (by kernel_rfl) (by kernel_rfl) (fun _ _ _ h => h) (Or.inl ⟨by rfl, ?_⟩) hS ?_
  rotate_left
  · (intro w hSw; (try dsimp only at hSw); go_simp; try with_reducible rfl)
  (try simp only [Act.put, List.setIfInBounds_toArray, List.set_cons_zero, List.set_cons_succ])
  refine wpAnyH_take (i := 15) (oi := ({ dst := some 77, op := Op.binOp BinOp.eql 28 (Operand.tmp 76) (Operand.const (Value.int IntKind.i64 0)) 28, type := 4, pos := "law.go:27", after := #[{ on := 14, ground := Ground.data }, { on := 13, ground := Ground.guard }], guard := some (13, true) } : Oper)) (v := ?_) rfl (by kernel_rfl) (by kernel_rfl) (by kernel_rfl) (fun _ _ _ h => h) (Or.inl ⟨by rfl, ?_⟩) hS ?_
  rotate_left
  · (intro w hSw; (try dsimp only at hSw); go_simp; try with_reducible rfl)
  (try simp only [Act.put, List.setIfInBounds_toArray, List.set_cons_zero, List.set_cons_succ])
  refine wpAnyH_take (i := 16) (oi := ({ dst := some 78, op := Op.pick (Operand.tmp 75) (Operand.tmp 77) (Operand.const (Value.bool false)), type := 4, pos := "law.go:27", after := #[{ on := 13, ground := Ground.data }, { on := 15, ground := Ground.data }], guard := none } : Oper)) (v := ?_) rfl (by kernel_rfl) (by kernel_rfl) (by kernel_rfl) (fun _ _ _ h => h) (Or.inl ⟨by rfl, ?_⟩) hS ?_
  rotate_left
  · (intro w hSw; (try dsimp only at hSw); go_simp; try with_reducible rfl)
  (try simp only [Act.put, List.setIfInBounds_toArray, List.set_cons_zero, List.set_cons_succ])
  refine wpAnyH_take (i := 17) (oi := ({ dst := some 79, op := Op.move (Operand.tmp 78), type := 4, pos := "law.go:27", after := #[{ on := 16, ground := Ground.data }, { on := 13, ground := Ground.chain }], guard := none } : Oper)) (v := ?_) rfl (by kernel_rfl) (by kernel_rfl) (by kernel_rfl) (fun _ _ _ h => h) (Or.inl ⟨by rfl, ?_⟩) hS ?_
  rotate_left
  · (intro w hSw; (try dsimp only at hSw); go_simp; try with_reducible rfl)
  (try simp only [Act.put, List.setIfInBounds_toArray, List.set_cons_zero, List.set_cons_succ])
  refine rg_one 18 ({ dst := some 80, op := Op.call { callee := Callee.value (Operand.func 10), args := #[], argTypes := #[] }, type := 4, pos := "law.go:27", after := #[{ on := 17, ground := Ground.chain }, { on := 17, ground := Ground.guard }], guard := some (17, true) } : Oper) (by kernel_rfl) rfl (fun K hK => ?_)
  go_simp
  (go_at_call 10; (refine (awake_any (HT.out.keep hS.2.below)).mono ?_); rintro r w10 ⟨rfl, hb⟩)
  refine hK.out _ _ ?_ (fun hS1 => ?_)
  · (first | exact hS | exact ⟨hS.1.keep hb, hS.2.next hb⟩)
  clear hK K hS; have hS := hS1; clear hS1
  (try simp only [Act.put, List.setIfInBounds_toArray, List.set_cons_zero, List.set_cons_succ])
  refine wpAnyH_take (i := 19) (oi := ({ dst := some 81, op := Op.pick (Operand.tmp 79) (Operand.tmp 80) (Operand.const (Value.bool false)), type := 4, pos := "law.go:27", after := #[{ on := 17, ground := Ground.data }, { on := 18, ground := Ground.data }], guard := none } : Oper)) (v := ?_) rfl (by kernel_rfl) (by kernel_rfl) (by kernel_rfl) (fun _ _ _ h => h) (Or.inl ⟨by rfl, ?_⟩) hS ?_
  rotate_left
  · (intro w hSw; (try dsimp only at hSw); go_simp; try with_reducible rfl)
  (try simp only [Act.put, List.setIfInBounds_toArray, List.set_cons_zero, List.set_cons_succ])
  refine wpAnyH_take (i := 20) (oi := ({ dst := some 4, op := Op.assign (Operand.tmp 81), type := 4, pos := "law.go:27", after := #[{ on := 19, ground := Ground.data }, { on := 18, ground := Ground.chain }, { on := 0, ground := Ground.phase }, { on := 1, ground := Ground.phase }, { on := 2, ground := Ground.phase }, { on := 3, ground := Ground.phase }, { on := 4, ground := Ground.phase }, { on := 5, ground := Ground.phase }, { on := 6, ground := Ground.phase }, { on := 7, ground := Ground.phase }, { on := 8, ground := Ground.phase }, { on := 9, ground := Ground.phase }, { on := 10, ground := Ground.phase }, { on := 11, ground := Ground.phase }, { on := 12, ground := Ground.phase }, { on := 13, ground := Ground.phase }, { on := 14, ground := Ground.phase }, { on := 15, ground := Ground.phase }, { on := 16, ground := Ground.phase }, { on := 17, ground := Ground.phase }, { on := 18, ground := Ground.phase }, { on := 19, ground := Ground.phase }], guard := none } : Oper)) (v := ?_) rfl (by kernel_rfl) (by kernel_rfl) (by kernel_rfl) (fun _ _ _ h => h) (Or.inl ⟨by rfl, ?_⟩) hS ?_
  rotate_left
  · (intro w hSw; (try dsimp only at hSw); go_simp; try with_reducible rfl)
  (try simp only [Act.put, List.setIfInBounds_toArray, List.set_cons_zero, List.set_cons_succ])
  refine wpAnyH_done (by kernel_rfl) ?_ _
  have HE9 := Lib.hid hS.2
  clear hS
  go_wp2
  go_ret
  exact ⟨rfl, HE9.out.below⟩
set_option maxRecDepth 8000 in
set_option maxHeartbeats 4000000 in
theorem encodes_right_later (e s f e' s' f' : Int) (l l' : List Int) (ht : HdT ⟨e, s, f, l⟩) (hg : HdT ⟨e', s', f', l'⟩) (hk : hdOk ⟨e, s, f, l⟩ = true) (w : World) (hT : Tab w) (n1 : ¬ e' < e) (n2 : e = e') (n3 : s' < s) :
    Calls Tryd.prog 3 #[.agg (hv ⟨e, s, f, l⟩), .agg (hv ⟨e', s', f', l'⟩)] w fun r w' => r = .returned (.bool true) ∧ Below w.heap.size w w' := by
  obtain ⟨w0, hw0⟩ : ∃ q, (w.alloc (.cells (hv ⟨e, s, f, l⟩) 25)).alloc (.cells (hv ⟨e', s', f', l'⟩) 25) = q := ⟨_, rfl⟩
  have hs1 : (w.alloc (.cells (hv ⟨e, s, f, l⟩) 25)).heap.size = w.heap.size + 1 := alloc_size w _
  have HH := Lib.hid (show HB w0 w.heap.size ⟨e, s, f, l⟩ from by rw [← hw0]; exact (HB.new w _ ht.n).keep (balloc _ _))
  have HG := Lib.hid (show HB w0 (w.heap.size + 1) ⟨e', s', f', l'⟩ from by rw [← hw0, ← hs1]; exact HB.new _ _ hg.n)
  have HW := Lib.hid (show Below w.heap.size w w0 from by rw [← hw0]; exact bch (balloc w _) (balloc _ _))
  have HT := Lib.hid hT
  have HZ := Lib.hid z64_cells
  have HN := Lib.hid ht.n
  have HSN := Lib.hid (secH_length ht.n)
  have HR : Hid (∀ w, Calls Tryd.prog 7 #[.agg (hv ⟨e, s, f, l⟩)] w fun r w' => r = .returned (.bool true) ∧ Below w.heap.size w w') := Lib.hid fun w => by rw [← hk]; exact hright_any _ ht w
  have HRR : Hid (∀ w, Calls Tryd.prog 8 #[.agg (hv ⟨e, s, f, l⟩)] w fun r w' => r = .returned (.bool true) ∧ Below w.heap.size w w') := Lib.hid fun w => by rw [← hk]; exact rright_any _ ht w
  have HNW : Hid (∀ w, Calls Tryd.prog 9 #[.agg (hv ⟨e, s, f, l⟩), .agg (hv ⟨e', s', f', l'⟩)] w fun r w' => r = .returned (.bool true) ∧ Below w.heap.size w w') := Lib.hid fun w => (newer_any _ _ ht hg w).mono fun _ _ ⟨q1, q2⟩ => ⟨q1.trans (ret_bool (by simp [n2, n3])), q2⟩
  have HE : Hid (∀ w, Tab w → Calls Tryd.prog 6 #[.agg (hv ⟨e, s, f, l⟩)] w fun r w' => r = .returned (.tuple #[.agg (sv (secH ⟨e, s, f, l⟩)), .int .i64 0]) ∧ Below w.heap.size w w') := Lib.hid fun w q => henc_ok _ ht hk w q
  have HD : Hid (∀ w, Tab w → Calls Tryd.prog 11 #[.agg (sv (secH ⟨e, s, f, l⟩))] w fun r w' => r = .returned (.tuple #[.agg (hv ⟨e, s, f, l⟩), .int .i64 0]) ∧ Below w.heap.size w w') := Lib.hid fun w q => hdec_any _ (secH_length ht.n) (secH_bytes _) w q (hd_got ht hk)
  have HSC : Hid (∀ w, Calls Tryd.prog 12 #[.agg (hv ⟨e, s, f, l⟩)] w fun r w' => r = .returned (.agg (sv (secH ⟨e, s, f, l⟩))) ∧ Below w.heap.size w w') := Lib.hid fun w => rsector_any _ ht hk w
  have d13 : decide (e' < e) = false := decide_eq_false n1
  have d19 : (e == e') = true := by simp [n2]
  have d25 : decide (s' < s) = true := decide_eq_true n3
  clear n2
  clear ht hg hk hT hs1
  go_enter Tryd.func3, Tryd.ntmps3
  go_wp2_with (first
    | (go_at_call 6; (with_reducible refine (HE.out _ (HT.out.keep HW.out)).mono ?_); rintro r w1 ⟨rfl, hb1⟩; have HB1 := Lib.hid hb1; clear hb1)
    | (rw [← HZ.out]; refine wpl_put_sec rfl (.tmp 5) (.tmp 12) rfl w1.heap.size z64 (secH ⟨e, s, f, l⟩) (Blk.new w1 z64 z64_length) HSN.out rfl rfl ?_; intro w2 HC2 HG2; have HX2 := Lib.hid (bch HB1.out (new_below HG2.out)); have HES : Hid (ES w ⟨e, s, f, l⟩ ⟨e', s', f', l'⟩ w1.heap.size (secH ⟨e, s, f, l⟩) w2) := Lib.hid ⟨bch HW.out HX2.out, HH.out.keep HX2.out, HG.out.keep HX2.out, HC2.out⟩)
    | (refine wpl_load_hd (by rfl) (.tmp 2) rfl rfl HH.out ?_))
  go_wp2_with fail
  refine wp_region_held_drew (S := (fun w' => w'.cell? ⟨w.heap.size, 0, none⟩ = some (.int .u64 e) ∧ w'.cell? ⟨w.heap.size, 1, none⟩ = some (.int .i64 s) ∧ w'.cell? ⟨w.heap.size + 1, 0, none⟩ = some (.int .u64 e') ∧ w'.cell? ⟨w.heap.size + 1, 1, none⟩ = some (.int .i64 s') ∧ ES w ⟨e, s, f, l⟩ ⟨e', s', f', l'⟩ w1.heap.size (secH ⟨e, s, f, l⟩) w')) (by kernel_rfl) (ES.all (HES.out.next (Below.refl _ _).drew)) (fun hS => ?_)
  refine wpAnyH_take (i := 0) (oi := ({ dst := some 14, op := Op.load 25 (Operand.tmp 2), type := 25, pos := "law.go:20", after := #[], guard := none } : Oper)) (v := ?_) rfl (by kernel_rfl) (by kernel_rfl) (by kernel_rfl) (fun _ _ _ h => h) (Or.inl ⟨by rfl, ?_⟩) hS ?_
  rotate_left
  · (intro w hSw; (try dsimp only at hSw); refine exec_load_hd (.tmp 2) ?_ ?_ hSw.2.2.2.2.hh <;> rfl)
  (try simp only [Act.put, List.setIfInBounds_toArray, List.set_cons_zero, List.set_cons_succ])
  refine wpAnyH_take (i := 2) (oi := ({ dst := some 16, op := Op.load 25 (Operand.tmp 2), type := 25, pos := "law.go:20", after := #[], guard := none } : Oper)) (v := ?_) rfl (by kernel_rfl) (by kernel_rfl) (by kernel_rfl) (fun _ _ _ h => h) (Or.inl ⟨by rfl, ?_⟩) hS ?_
  rotate_left
  · (intro w hSw; (try dsimp only at hSw); refine exec_load_hd (.tmp 2) ?_ ?_ hSw.2.2.2.2.hh <;> rfl)
  (try simp only [Act.put, List.setIfInBounds_toArray, List.set_cons_zero, List.set_cons_succ])
  refine rg_one 1 ({ dst := some 15, op := Op.call { callee := Callee.value (Operand.func 7), args := #[Operand.tmp 14], argTypes := #[25] }, type := 4, pos := "law.go:20", after := #[{ on := 0, ground := Ground.data }], guard := none } : Oper) (by kernel_rfl) rfl (fun K hK => ?_)
  go_simp
  (go_at_call 7; (refine (HR.out _).mono ?_); rintro r w3 ⟨rfl, hb⟩)
  refine hK.out _ _ ?_ (fun hS1 => ?_)
  · (first | exact hS | exact ES.all (hS.2.2.2.2.next hb))
  clear hK K hS; have hS := hS1; clear hS1
  (try simp only [Act.put, List.setIfInBounds_toArray, List.set_cons_zero, List.set_cons_succ])
  refine rg_one 3 ({ dst := some 17, op := Op.call { callee := Callee.value (Operand.func 8), args := #[Operand.tmp 16], argTypes := #[25] }, type := 4, pos := "law.go:20", after := #[{ on := 2, ground := Ground.data }, { on := 1, ground := Ground.chain }], guard := none } : Oper) (by kernel_rfl) rfl (fun K hK => ?_)
  go_simp
  (go_at_call 8; (refine (HRR.out _).mono ?_); rintro r w4 ⟨rfl, hb⟩)
  refine hK.out _ _ ?_ (fun hS1 => ?_)
  · (first | exact hS | exact ES.all (hS.2.2.2.2.next hb))
  clear hK K hS; have hS := hS1; clear hS1
  (try simp only [Act.put, List.setIfInBounds_toArray, List.set_cons_zero, List.set_cons_succ])
  refine wpAnyH_take (i := 4) (oi := ({ dst := some 18, op := Op.binOp BinOp.neq 4 (Operand.tmp 15) (Operand.tmp 17) 4, type := 4, pos := "law.go:20", after := #[{ on := 1, ground := Ground.data }, { on := 3, ground := Ground.data }], guard := none } : Oper)) (v := ?_) rfl (by kernel_rfl) (by kernel_rfl) (by kernel_rfl) (fun _ _ _ h => h) (Or.inl ⟨by rfl, ?_⟩) hS ?_
  rotate_left
  · (intro w hSw; (try dsimp only at hSw); go_simp; try with_reducible rfl)
  (try simp only [Act.put, List.setIfInBounds_toArray, List.set_cons_zero, List.set_cons_succ])
  refine wpAnyH_take (i := 5) (oi := ({ dst := some 19, op := Op.move (Operand.tmp 18), type := 4, pos := "law.go:20", after := #[{ on := 4, ground := Ground.data }, { on := 3, ground := Ground.chain }], guard := none } : Oper)) (v := ?_) rfl (by kernel_rfl) (by kernel_rfl) (by kernel_rfl) (fun _ _ _ h => h) (Or.inl ⟨by rfl, ?_⟩) hS ?_
  rotate_left
  · (intro w hSw; (try dsimp only at hSw); go_simp; try with_reducible rfl)
  (try simp only [Act.put, List.setIfInBounds_toArray, List.set_cons_zero, List.set_cons_succ])
  refine wpAnyH_take (i := 6) (oi := ({ dst := some 20, op := Op.load 25 (Operand.tmp 2), type := 25, pos := "law.go:20", after := #[{ on := 5, ground := Ground.guard }], guard := some (5, false) } : Oper)) (v := ?_) rfl (by kernel_rfl) (by kernel_rfl) (by kernel_rfl) (fun _ _ _ h => h) (Or.inl ⟨by rfl, ?_⟩) hS ?_
  rotate_left
  · (intro w hSw; (try dsimp only at hSw); refine exec_load_hd (.tmp 2) ?_ ?_ hSw.2.2.2.2.hh <;> rfl)
  (try simp only [Act.put, List.setIfInBounds_toArray, List.set_cons_zero, List.set_cons_succ])
  refine wpAnyH_take (i := 7) (oi := ({ dst := some 21, op := Op.load 25 (Operand.tmp 3), type := 25, pos := "law.go:20", after := #[{ on := 5, ground := Ground.guard }], guard := some (5, false) } : Oper)) (v := ?_) rfl (by kernel_rfl) (by kernel_rfl) (by kernel_rfl) (fun _ _ _ h => h) (Or.inl ⟨by rfl, ?_⟩) hS ?_
  rotate_left
  · (intro w hSw; (try dsimp only at hSw); refine exec_load_hd (.tmp 3) ?_ ?_ hSw.2.2.2.2.hg <;> rfl)
  (try simp only [Act.put, List.setIfInBounds_toArray, List.set_cons_zero, List.set_cons_succ])
  refine wpAnyH_take (i := 9) (oi := ({ dst := some 23, op := Op.fieldAddr 25 (Operand.tmp 2) 0, type := 0, pos := "law.go:20", after := #[{ on := 5, ground := Ground.guard }], guard := some (5, false) } : Oper)) (v := ?_) rfl (by kernel_rfl) (by kernel_rfl) (by kernel_rfl) (fun _ _ _ h => h) (Or.inl ⟨by rfl, ?_⟩) hS ?_
  rotate_left
  · (intro w hSw; (try dsimp only at hSw); go_simp; try with_reducible rfl)
  (try simp only [Act.put, List.setIfInBounds_toArray, List.set_cons_zero, List.set_cons_succ])
  refine wpAnyH_take (i := 10) (oi := ({ dst := some 24, op := Op.load 22 (Operand.tmp 23), type := 22, pos := "law.go:20", after := #[{ on := 9, ground := Ground.data }, { on := 5, ground := Ground.guard }], guard := some (5, false) } : Oper)) (v := ?_) rfl (by kernel_rfl) (by kernel_rfl) (by kernel_rfl) (fun _ _ _ h => h) (Or.inl ⟨by rfl, ?_⟩) hS ?_
  rotate_left
  · (intro w hSw; (try dsimp only at hSw); go_simp; try with_reducible rfl)
  (try simp only [Act.put, List.setIfInBounds_toArray, List.set_cons_zero, List.set_cons_succ])
  refine wpAnyH_take (i := 11) (oi := ({ dst := some 25, op := Op.fieldAddr 25 (Operand.tmp 3) 0, type := 0, pos := "law.go:20", after := #[{ on := 5, ground := Ground.guard }], guard := some (5, false) } : Oper)) (v := ?_) rfl (by kernel_rfl) (by kernel_rfl) (by kernel_rfl) (fun _ _ _ h => h) (Or.inl ⟨by rfl, ?_⟩) hS ?_
  rotate_left
  · (intro w hSw; (try dsimp only at hSw); go_simp; try with_reducible rfl)
  (try simp only [Act.put, List.setIfInBounds_toArray, List.set_cons_zero, List.set_cons_succ])
  refine wpAnyH_take (i := 12) (oi := ({ dst := some 26, op := Op.load 22 (Operand.tmp 25), type := 22, pos := "law.go:20", after := #[{ on := 11, ground := Ground.data }, { on := 5, ground := Ground.guard }], guard := some (5, false) } : Oper)) (v := ?_) rfl (by kernel_rfl) (by kernel_rfl) (by kernel_rfl) (fun _ _ _ h => h) (Or.inl ⟨by rfl, ?_⟩) hS ?_
  rotate_left
  · (intro w hSw; (try dsimp only at hSw); go_simp; try with_reducible rfl)
  (try simp only [Act.put, List.setIfInBounds_toArray, List.set_cons_zero, List.set_cons_succ])
  refine wpAnyH_take (i := 13) (oi := ({ dst := some 27, op := Op.binOp BinOp.gtr 22 (Operand.tmp 24) (Operand.tmp 26) 22, type := 4, pos := "law.go:20", after := #[{ on := 10, ground := Ground.data }, { on := 12, ground := Ground.data }, { on := 5, ground := Ground.guard }], guard := some (5, false) } : Oper)) (v := .bool false) rfl (by kernel_rfl) (by kernel_rfl) (by kernel_rfl) (fun _ _ _ h => h) (Or.inl ⟨by rfl, ?_⟩) hS ?_
  · (intro w hSw; (try dsimp only at hSw); go_simp)
  (try simp only [Act.put, List.setIfInBounds_toArray, List.set_cons_zero, List.set_cons_succ])
  refine rg_one 8 ({ dst := some 22, op := Op.call { callee := Callee.value (Operand.func 9), args := #[Operand.tmp 20, Operand.tmp 21], argTypes := #[25, 25] }, type := 4, pos := "law.go:20", after := #[{ on := 6, ground := Ground.data }, { on := 7, ground := Ground.data }, { on := 5, ground := Ground.chain }, { on := 5, ground := Ground.guard }], guard := some (5, false) } : Oper) (by kernel_rfl) rfl (fun K hK => ?_)
  go_simp
  (go_at_call 9; (refine (HNW.out _).mono ?_); rintro r w5 ⟨rfl, hb⟩)
  refine hK.out _ _ ?_ (fun hS1 => ?_)
  · (first | exact hS | exact ES.all (hS.2.2.2.2.next hb))
  clear hK K hS; have hS := hS1; clear hS1
  (try simp only [Act.put, List.setIfInBounds_toArray, List.set_cons_zero, List.set_cons_succ])
  refine wpAnyH_take (i := 14) (oi := ({ dst := some 28, op := Op.move (Operand.tmp 27), type := 4, pos := "law.go:20", after := #[{ on := 13, ground := Ground.data }, { on := 8, ground := Ground.chain }, { on := 5, ground := Ground.guard }], guard := some (5, false) } : Oper)) (v := ?_) rfl (by kernel_rfl) (by kernel_rfl) (by kernel_rfl) (fun _ _ _ h => h) (Or.inl ⟨by rfl, ?_⟩) hS ?_
  rotate_left
  · (intro w hSw; (try dsimp only at hSw); go_simp; try with_reducible rfl)
  (try simp only [Act.put, List.setIfInBounds_toArray, List.set_cons_zero, List.set_cons_succ])
  refine wpAnyH_take (i := 15) (oi := ({ dst := some 29, op := Op.fieldAddr 25 (Operand.tmp 2) 0, type := 0, pos := "law.go:20", after := #[{ on := 14, ground := Ground.guard }], guard := some (14, false) } : Oper)) (v := ?_) rfl (by kernel_rfl) (by kernel_rfl) (by kernel_rfl) (fun _ _ _ h => h) (Or.inl ⟨by rfl, ?_⟩) hS ?_
  rotate_left
  · (intro w hSw; (try dsimp only at hSw); go_simp; try with_reducible rfl)
  (try simp only [Act.put, List.setIfInBounds_toArray, List.set_cons_zero, List.set_cons_succ])
  refine wpAnyH_take (i := 16) (oi := ({ dst := some 30, op := Op.load 22 (Operand.tmp 29), type := 22, pos := "law.go:20", after := #[{ on := 15, ground := Ground.data }, { on := 14, ground := Ground.guard }], guard := some (14, false) } : Oper)) (v := ?_) rfl (by kernel_rfl) (by kernel_rfl) (by kernel_rfl) (fun _ _ _ h => h) (Or.inl ⟨by rfl, ?_⟩) hS ?_
  rotate_left
  · (intro w hSw; (try dsimp only at hSw); go_simp; try with_reducible rfl)
  (try simp only [Act.put, List.setIfInBounds_toArray, List.set_cons_zero, List.set_cons_succ])
  refine wpAnyH_take (i := 17) (oi := ({ dst := some 31, op := Op.fieldAddr 25 (Operand.tmp 3) 0, type := 0, pos := "law.go:20", after := #[{ on := 14, ground := Ground.guard }], guard := some (14, false) } : Oper)) (v := ?_) rfl (by kernel_rfl) (by kernel_rfl) (by kernel_rfl) (fun _ _ _ h => h) (Or.inl ⟨by rfl, ?_⟩) hS ?_
  rotate_left
  · (intro w hSw; (try dsimp only at hSw); go_simp; try with_reducible rfl)
  (try simp only [Act.put, List.setIfInBounds_toArray, List.set_cons_zero, List.set_cons_succ])
  refine wpAnyH_take (i := 18) (oi := ({ dst := some 32, op := Op.load 22 (Operand.tmp 31), type := 22, pos := "law.go:20", after := #[{ on := 17, ground := Ground.data }, { on := 14, ground := Ground.guard }], guard := some (14, false) } : Oper)) (v := ?_) rfl (by kernel_rfl) (by kernel_rfl) (by kernel_rfl) (fun _ _ _ h => h) (Or.inl ⟨by rfl, ?_⟩) hS ?_
  rotate_left
  · (intro w hSw; (try dsimp only at hSw); go_simp; try with_reducible rfl)
  (try simp only [Act.put, List.setIfInBounds_toArray, List.set_cons_zero, List.set_cons_succ])
  refine wpAnyH_take (i := 19) (oi := ({ dst := some 33, op := Op.binOp BinOp.eql 22 (Operand.tmp 30) (Operand.tmp 32) 22, type := 4, pos := "law.go:20", after := #[{ on := 16, ground := Ground.data }, { on := 18, ground := Ground.data }, { on := 14, ground := Ground.guard }], guard := some (14, false) } : Oper)) (v := .bool true) rfl (by kernel_rfl) (by kernel_rfl) (by kernel_rfl) (fun _ _ _ h => h) (Or.inl ⟨by rfl, ?_⟩) hS ?_
  · (intro w hSw; (try dsimp only at hSw); go_simp)
  (try simp only [Act.put, List.setIfInBounds_toArray, List.set_cons_zero, List.set_cons_succ])
  refine wpAnyH_take (i := 20) (oi := ({ dst := some 34, op := Op.move (Operand.tmp 33), type := 4, pos := "law.go:20", after := #[{ on := 19, ground := Ground.data }, { on := 14, ground := Ground.chain }, { on := 14, ground := Ground.guard }], guard := some (14, false) } : Oper)) (v := ?_) rfl (by kernel_rfl) (by kernel_rfl) (by kernel_rfl) (fun _ _ _ h => h) (Or.inl ⟨by rfl, ?_⟩) hS ?_
  rotate_left
  · (intro w hSw; (try dsimp only at hSw); go_simp; try with_reducible rfl)
  (try simp only [Act.put, List.setIfInBounds_toArray, List.set_cons_zero, List.set_cons_succ])
  refine wpAnyH_take (i := 21) (oi := ({ dst := some 35, op := Op.fieldAddr 25 (Operand.tmp 2) 1, type := 0, pos := "law.go:20", after := #[{ on := 20, ground := Ground.guard }], guard := some (20, true) } : Oper)) (v := ?_) rfl (by kernel_rfl) (by kernel_rfl) (by kernel_rfl) (fun _ _ _ h => h) (Or.inl ⟨by rfl, ?_⟩) hS ?_
  rotate_left
  · (intro w hSw; (try dsimp only at hSw); go_simp; try with_reducible rfl)
  (try simp only [Act.put, List.setIfInBounds_toArray, List.set_cons_zero, List.set_cons_succ])
  refine wpAnyH_take (i := 22) (oi := ({ dst := some 36, op := Op.load 3 (Operand.tmp 35), type := 3, pos := "law.go:20", after := #[{ on := 21, ground := Ground.data }, { on := 20, ground := Ground.guard }], guard := some (20, true) } : Oper)) (v := ?_) rfl (by kernel_rfl) (by kernel_rfl) (by kernel_rfl) (fun _ _ _ h => h) (Or.inl ⟨by rfl, ?_⟩) hS ?_
  rotate_left
  · (intro w hSw; (try dsimp only at hSw); go_simp; try with_reducible rfl)
  (try simp only [Act.put, List.setIfInBounds_toArray, List.set_cons_zero, List.set_cons_succ])
  refine wpAnyH_take (i := 23) (oi := ({ dst := some 37, op := Op.fieldAddr 25 (Operand.tmp 3) 1, type := 0, pos := "law.go:20", after := #[{ on := 20, ground := Ground.guard }], guard := some (20, true) } : Oper)) (v := ?_) rfl (by kernel_rfl) (by kernel_rfl) (by kernel_rfl) (fun _ _ _ h => h) (Or.inl ⟨by rfl, ?_⟩) hS ?_
  rotate_left
  · (intro w hSw; (try dsimp only at hSw); go_simp; try with_reducible rfl)
  (try simp only [Act.put, List.setIfInBounds_toArray, List.set_cons_zero, List.set_cons_succ])
  refine wpAnyH_take (i := 24) (oi := ({ dst := some 38, op := Op.load 3 (Operand.tmp 37), type := 3, pos := "law.go:20", after := #[{ on := 23, ground := Ground.data }, { on := 20, ground := Ground.guard }], guard := some (20, true) } : Oper)) (v := ?_) rfl (by kernel_rfl) (by kernel_rfl) (by kernel_rfl) (fun _ _ _ h => h) (Or.inl ⟨by rfl, ?_⟩) hS ?_
  rotate_left
  · (intro w hSw; (try dsimp only at hSw); go_simp; try with_reducible rfl)
  (try simp only [Act.put, List.setIfInBounds_toArray, List.set_cons_zero, List.set_cons_succ])
  refine wpAnyH_take (i := 25) (oi := ({ dst := some 39, op := Op.binOp BinOp.gtr 3 (Operand.tmp 36) (Operand.tmp 38) 3, type := 4, pos := "law.go:20", after := #[{ on := 22, ground := Ground.data }, { on := 24, ground := Ground.data }, { on := 20, ground := Ground.guard }], guard := some (20, true) } : Oper)) (v := .bool true) rfl (by kernel_rfl) (by kernel_rfl) (by kernel_rfl) (fun _ _ _ h => h) (Or.inl ⟨by rfl, ?_⟩) hS ?_
  · (intro w hSw; (try dsimp only at hSw); go_simp)
  (try simp only [Act.put, List.setIfInBounds_toArray, List.set_cons_zero, List.set_cons_succ])
  refine wpAnyH_take (i := 26) (oi := ({ dst := some 40, op := Op.pick (Operand.tmp 34) (Operand.tmp 39) (Operand.const (Value.bool false)), type := 4, pos := "law.go:20", after := #[{ on := 20, ground := Ground.data }, { on := 25, ground := Ground.data }, { on := 14, ground := Ground.guard }], guard := some (14, false) } : Oper)) (v := ?_) rfl (by kernel_rfl) (by kernel_rfl) (by kernel_rfl) (fun _ _ _ h => h) (Or.inl ⟨by rfl, ?_⟩) hS ?_
  rotate_left
  · (intro w hSw; (try dsimp only at hSw); go_simp; try with_reducible rfl)
  (try simp only [Act.put, List.setIfInBounds_toArray, List.set_cons_zero, List.set_cons_succ])
  refine wpAnyH_take (i := 27) (oi := ({ dst := some 41, op := Op.pick (Operand.tmp 28) (Operand.const (Value.bool true)) (Operand.tmp 40), type := 4, pos := "law.go:20", after := #[{ on := 14, ground := Ground.data }, { on := 26, ground := Ground.data }, { on := 5, ground := Ground.guard }], guard := some (5, false) } : Oper)) (v := ?_) rfl (by kernel_rfl) (by kernel_rfl) (by kernel_rfl) (fun _ _ _ h => h) (Or.inl ⟨by rfl, ?_⟩) hS ?_
  rotate_left
  · (intro w hSw; (try dsimp only at hSw); go_simp; try with_reducible rfl)
  (try simp only [Act.put, List.setIfInBounds_toArray, List.set_cons_zero, List.set_cons_succ])
  refine wpAnyH_take (i := 28) (oi := ({ dst := some 42, op := Op.binOp BinOp.neq 4 (Operand.tmp 22) (Operand.tmp 41) 4, type := 4, pos := "law.go:20", after := #[{ on := 8, ground := Ground.data }, { on := 27, ground := Ground.data }, { on := 5, ground := Ground.guard }], guard := some (5, false) } : Oper)) (v := ?_) rfl (by kernel_rfl) (by kernel_rfl) (by kernel_rfl) (fun _ _ _ h => h) (Or.inl ⟨by rfl, ?_⟩) hS ?_
  rotate_left
  · (intro w hSw; (try dsimp only at hSw); go_simp; try with_reducible rfl)
  (try simp only [Act.put, List.setIfInBounds_toArray, List.set_cons_zero, List.set_cons_succ])
  refine wpAnyH_take (i := 29) (oi := ({ dst := some 43, op := Op.pick (Operand.tmp 19) (Operand.const (Value.bool true)) (Operand.tmp 42), type := 4, pos := "law.go:20", after := #[{ on := 5, ground := Ground.data }, { on := 28, ground := Ground.data }], guard := none } : Oper)) (v := ?_) rfl (by kernel_rfl) (by kernel_rfl) (by kernel_rfl) (fun _ _ _ h => h) (Or.inl ⟨by rfl, ?_⟩) hS ?_
  rotate_left
  · (intro w hSw; (try dsimp only at hSw); go_simp; try with_reducible rfl)
  (try simp only [Act.put, List.setIfInBounds_toArray, List.set_cons_zero, List.set_cons_succ])
  refine wpAnyH_done (by kernel_rfl) ?_ _
  have HE5 := Lib.hid hS.2.2.2.2
  clear hS
  go_wp2_with (first
    | (go_at_call 8; (with_reducible refine (HRR.out _).mono ?_); rintro r w6 ⟨rfl, hb6⟩; have HE6 := Lib.hid (HE5.out.next hb6); clear hb6)
    | (refine wpl_load_hd (by rfl) (.tmp 2) rfl rfl HE5.out.hh ?_)
    | (refine wpl_load_sec (by rfl) (.tmp 5) rfl w1.heap.size rfl (secH ⟨e, s, f, l⟩) HE6.out.sec ?_)
    | (go_at_call 11; (with_reducible refine (HD.out _ (HT.out.keep HE6.out.below)).mono ?_); rintro r w7 ⟨rfl, hb7⟩; have HE7 := Lib.hid (HE6.out.next hb7); clear hb7)
    | (refine wpl_put_hd rfl (.tmp 7) (.tmp 60) rfl w7.heap.size noH ⟨e, s, f, l⟩ (HB.new w7 noH rfl) HN.out rfl rfl ?_; intro w8 HA8 HG8; have HE8 := Lib.hid (HE7.out.next (new_below HG8.out))))
  go_wp2_with fail
  refine wp_region_held_drew (S := (fun w' => HB w' w7.heap.size ⟨e, s, f, l⟩ ∧ ES w ⟨e, s, f, l⟩ ⟨e', s', f', l'⟩ w1.heap.size (secH ⟨e, s, f, l⟩) w')) (by kernel_rfl) ⟨HA8.out, HE8.out.next (Below.refl _ _).drew⟩ (fun hS => ?_)
  refine wpAnyH_take (i := 0) (oi := ({ dst := some 62, op := Op.move (Operand.tmp 6), type := 28, pos := "law.go:27", after := #[], guard := none } : Oper)) (v := ?_) rfl (by kernel_rfl) (by kernel_rfl) (by kernel_rfl) (fun _ _ _ h => h) (Or.inl ⟨by rfl, ?_⟩) hS ?_
  rotate_left
  · (intro w hSw; (try dsimp only at hSw); go_simp; try with_reducible rfl)
  (try simp only [Act.put, List.setIfInBounds_toArray, List.set_cons_zero, List.set_cons_succ])
  refine wpAnyH_take (i := 1) (oi := ({ dst := some 63, op := Op.binOp BinOp.eql 28 (Operand.tmp 62) (Operand.const (Value.int IntKind.i64 0)) 28, type := 4, pos := "law.go:27", after := #[{ on := 0, ground := Ground.data }], guard := none } : Oper)) (v := ?_) rfl (by kernel_rfl) (by kernel_rfl) (by kernel_rfl) (fun _ _ _ h => h) (Or.inl ⟨by rfl, ?_⟩) hS ?_
  rotate_left
  · (intro w hSw; (try dsimp only at hSw); go_simp; try with_reducible rfl)
  (try simp only [Act.put, List.setIfInBounds_toArray, List.set_cons_zero, List.set_cons_succ])
  refine wpAnyH_take (i := 2) (oi := ({ dst := some 64, op := Op.move (Operand.tmp 63), type := 4, pos := "law.go:27", after := #[{ on := 1, ground := Ground.data }], guard := none } : Oper)) (v := ?_) rfl (by kernel_rfl) (by kernel_rfl) (by kernel_rfl) (fun _ _ _ h => h) (Or.inl ⟨by rfl, ?_⟩) hS ?_
  rotate_left
  · (intro w hSw; (try dsimp only at hSw); go_simp; try with_reducible rfl)
  (try simp only [Act.put, List.setIfInBounds_toArray, List.set_cons_zero, List.set_cons_succ])
  refine wpAnyH_take (i := 3) (oi := ({ dst := some 65, op := Op.load 27 (Operand.tmp 5), type := 27, pos := "law.go:27", after := #[{ on := 2, ground := Ground.guard }], guard := some (2, true) } : Oper)) (v := ?_) rfl (by kernel_rfl) (by kernel_rfl) (by kernel_rfl) (fun _ _ _ h => h) (Or.inl ⟨by rfl, ?_⟩) hS ?_
  rotate_left
  · (intro w hSw; (try dsimp only at hSw); refine exec_load_sec (.tmp 5) ?_ ?_ hSw.2.sec <;> rfl)
  (try simp only [Act.put, List.setIfInBounds_toArray, List.set_cons_zero, List.set_cons_succ])
  refine wpAnyH_take (i := 4) (oi := ({ dst := some 66, op := Op.load 25 (Operand.tmp 2), type := 25, pos := "law.go:27", after := #[{ on := 2, ground := Ground.guard }], guard := some (2, true) } : Oper)) (v := ?_) rfl (by kernel_rfl) (by kernel_rfl) (by kernel_rfl) (fun _ _ _ h => h) (Or.inl ⟨by rfl, ?_⟩) hS ?_
  rotate_left
  · (intro w hSw; (try dsimp only at hSw); refine exec_load_hd (.tmp 2) ?_ ?_ hSw.2.hh <;> rfl)
  (try simp only [Act.put, List.setIfInBounds_toArray, List.set_cons_zero, List.set_cons_succ])
  refine rg_one 5 ({ dst := some 67, op := Op.call { callee := Callee.value (Operand.func 12), args := #[Operand.tmp 66], argTypes := #[25] }, type := 27, pos := "law.go:27", after := #[{ on := 4, ground := Ground.data }, { on := 2, ground := Ground.chain }, { on := 2, ground := Ground.guard }], guard := some (2, true) } : Oper) (by kernel_rfl) rfl (fun K hK => ?_)
  go_simp
  (go_at_call 12; (refine (HSC.out _).mono ?_); rintro r w9 ⟨rfl, hb⟩)
  refine hK.out _ _ ?_ (fun hS1 => ?_)
  · (first | exact hS | exact ⟨hS.1.keep hb, hS.2.next hb⟩)
  clear hK K hS; have hS := hS1; clear hS1
  (try simp only [Act.put, List.setIfInBounds_toArray, List.set_cons_zero, List.set_cons_succ])
  refine wpAnyH_take (i := 6) (oi := ({ dst := some 68, op := Op.binOp BinOp.eql 27 (Operand.tmp 65) (Operand.tmp 67) 27, type := 4, pos := "law.go:27", after := #[{ on := 3, ground := Ground.data }, { on := 5, ground := Ground.data }, { on := 2, ground := Ground.guard }], guard := some (2, true) } : Oper)) (v := .bool true) rfl (by kernel_rfl) (by kernel_rfl) (by kernel_rfl) (fun _ _ _ h => h) (Or.inl ⟨by rfl, ?_⟩) hS ?_
  · (intro w hSw; (try dsimp only at hSw); exact (exec_eq_sec (secH ⟨e, s, f, l⟩) (secH ⟨e, s, f, l⟩) HSN.out HSN.out (.tmp 65) (.tmp 67) _ rfl rfl rfl).trans (by simp))
  (try simp only [Act.put, List.setIfInBounds_toArray, List.set_cons_zero, List.set_cons_succ])
  refine wpAnyH_take (i := 7) (oi := ({ dst := some 69, op := Op.pick (Operand.tmp 64) (Operand.tmp 68) (Operand.const (Value.bool false)), type := 4, pos := "law.go:27", after := #[{ on := 2, ground := Ground.data }, { on := 6, ground := Ground.data }], guard := none } : Oper)) (v := ?_) rfl (by kernel_rfl) (by kernel_rfl) (by kernel_rfl) (fun _ _ _ h => h) (Or.inl ⟨by rfl, ?_⟩) hS ?_
  rotate_left
  · (intro w hSw; (try dsimp only at hSw); go_simp; try with_reducible rfl)
  (try simp only [Act.put, List.setIfInBounds_toArray, List.set_cons_zero, List.set_cons_succ])
  refine wpAnyH_take (i := 8) (oi := ({ dst := some 70, op := Op.move (Operand.tmp 69), type := 4, pos := "law.go:27", after := #[{ on := 7, ground := Ground.data }, { on := 5, ground := Ground.chain }], guard := none } : Oper)) (v := ?_) rfl (by kernel_rfl) (by kernel_rfl) (by kernel_rfl) (fun _ _ _ h => h) (Or.inl ⟨by rfl, ?_⟩) hS ?_
  rotate_left
  · (intro w hSw; (try dsimp only at hSw); go_simp; try with_reducible rfl)
  (try simp only [Act.put, List.setIfInBounds_toArray, List.set_cons_zero, List.set_cons_succ])
  refine wpAnyH_take (i := 9) (oi := ({ dst := some 71, op := Op.load 25 (Operand.tmp 7), type := 25, pos := "law.go:27", after := #[{ on := 8, ground := Ground.guard }], guard := some (8, true) } : Oper)) (v := ?_) rfl (by kernel_rfl) (by kernel_rfl) (by kernel_rfl) (fun _ _ _ h => h) (Or.inl ⟨by rfl, ?_⟩) hS ?_
  rotate_left
  · (intro w hSw; (try dsimp only at hSw); refine exec_load_hd (.tmp 7) ?_ ?_ hSw.1 <;> rfl)
  (try simp only [Act.put, List.setIfInBounds_toArray, List.set_cons_zero, List.set_cons_succ])
  refine wpAnyH_take (i := 10) (oi := ({ dst := some 72, op := Op.load 25 (Operand.tmp 2), type := 25, pos := "law.go:27", after := #[{ on := 8, ground := Ground.guard }], guard := some (8, true) } : Oper)) (v := ?_) rfl (by kernel_rfl) (by kernel_rfl) (by kernel_rfl) (fun _ _ _ h => h) (Or.inl ⟨by rfl, ?_⟩) hS ?_
  rotate_left
  · (intro w hSw; (try dsimp only at hSw); refine exec_load_hd (.tmp 2) ?_ ?_ hSw.2.hh <;> rfl)
  (try simp only [Act.put, List.setIfInBounds_toArray, List.set_cons_zero, List.set_cons_succ])
  refine wpAnyH_take (i := 11) (oi := ({ dst := some 73, op := Op.binOp BinOp.eql 25 (Operand.tmp 71) (Operand.tmp 72) 25, type := 4, pos := "law.go:27", after := #[{ on := 9, ground := Ground.data }, { on := 10, ground := Ground.data }, { on := 8, ground := Ground.guard }], guard := some (8, true) } : Oper)) (v := .bool true) rfl (by kernel_rfl) (by kernel_rfl) (by kernel_rfl) (fun _ _ _ h => h) (Or.inl ⟨by rfl, ?_⟩) hS ?_
  · (intro w hSw; (try dsimp only at hSw); exact (exec_eq_hd HN.out HN.out (.tmp 71) (.tmp 72) _ rfl rfl rfl).trans (by simp))
  (try simp only [Act.put, List.setIfInBounds_toArray, List.set_cons_zero, List.set_cons_succ])
  refine wpAnyH_take (i := 12) (oi := ({ dst := some 74, op := Op.pick (Operand.tmp 70) (Operand.tmp 73) (Operand.const (Value.bool false)), type := 4, pos := "law.go:27", after := #[{ on := 8, ground := Ground.data }, { on := 11, ground := Ground.data }], guard := none } : Oper)) (v := ?_) rfl (by kernel_rfl) (by kernel_rfl) (by kernel_rfl) (fun _ _ _ h => h) (Or.inl ⟨by rfl, ?_⟩) hS ?_
  rotate_left
  · (intro w hSw; (try dsimp only at hSw); go_simp; try with_reducible rfl)
  (try simp only [Act.put, List.setIfInBounds_toArray, List.set_cons_zero, List.set_cons_succ])
  refine wpAnyH_take (i := 13) (oi := ({ dst := some 75, op := Op.move (Operand.tmp 74), type := 4, pos := "law.go:27", after := #[{ on := 12, ground := Ground.data }, { on := 8, ground := Ground.chain }], guard := none } : Oper)) (v := ?_) rfl (by kernel_rfl) (by kernel_rfl) (by kernel_rfl) (fun _ _ _ h => h) (Or.inl ⟨by rfl, ?_⟩) hS ?_
  rotate_left
  · (intro w hSw; (try dsimp only at hSw); go_simp; try with_reducible rfl)
  (try simp only [Act.put, List.setIfInBounds_toArray, List.set_cons_zero, List.set_cons_succ])
  refine wpAnyH_take (i := 14) (oi := ({ dst := some 76, op := Op.move (Operand.tmp 8), type := 28, pos := "law.go:27", after := #[{ on := 13, ground := Ground.guard }], guard := some (13, true) } : Oper)) (v := ?_) rfl (by kernel_rfl) (by kernel_rfl) (by kernel_rfl) (fun _ _ _ h => h) (Or.inl ⟨by rfl, ?_⟩) hS ?_
  rotate_left
  · (intro w hSw; (try dsimp only at hSw); go_simp; try with_reducible rfl)
  (try simp only [Act.put, List.setIfInBounds_toArray, List.set_cons_zero, List.set_cons_succ])
  refine wpAnyH_take (i := 15) (oi := ({ dst := some 77, op := Op.binOp BinOp.eql 28 (Operand.tmp 76) (Operand.const (Value.int IntKind.i64 0)) 28, type := 4, pos := "law.go:27", after := #[{ on := 14, ground := Ground.data }, { on := 13, ground := Ground.guard }], guard := some (13, true) } : Oper)) (v := ?_) rfl (by kernel_rfl) (by kernel_rfl) (by kernel_rfl) (fun _ _ _ h => h) (Or.inl ⟨by rfl, ?_⟩) hS ?_
  rotate_left
  · (intro w hSw; (try dsimp only at hSw); go_simp; try with_reducible rfl)
  (try simp only [Act.put, List.setIfInBounds_toArray, List.set_cons_zero, List.set_cons_succ])
  refine wpAnyH_take (i := 16) (oi := ({ dst := some 78, op := Op.pick (Operand.tmp 75) (Operand.tmp 77) (Operand.const (Value.bool false)), type := 4, pos := "law.go:27", after := #[{ on := 13, ground := Ground.data }, { on := 15, ground := Ground.data }], guard := none } : Oper)) (v := ?_) rfl (by kernel_rfl) (by kernel_rfl) (by kernel_rfl) (fun _ _ _ h => h) (Or.inl ⟨by rfl, ?_⟩) hS ?_
  rotate_left
  · (intro w hSw; (try dsimp only at hSw); go_simp; try with_reducible rfl)
  (try simp only [Act.put, List.setIfInBounds_toArray, List.set_cons_zero, List.set_cons_succ])
  refine wpAnyH_take (i := 17) (oi := ({ dst := some 79, op := Op.move (Operand.tmp 78), type := 4, pos := "law.go:27", after := #[{ on := 16, ground := Ground.data }, { on := 13, ground := Ground.chain }], guard := none } : Oper)) (v := ?_) rfl (by kernel_rfl) (by kernel_rfl) (by kernel_rfl) (fun _ _ _ h => h) (Or.inl ⟨by rfl, ?_⟩) hS ?_
  rotate_left
  · (intro w hSw; (try dsimp only at hSw); go_simp; try with_reducible rfl)
  (try simp only [Act.put, List.setIfInBounds_toArray, List.set_cons_zero, List.set_cons_succ])
  refine rg_one 18 ({ dst := some 80, op := Op.call { callee := Callee.value (Operand.func 10), args := #[], argTypes := #[] }, type := 4, pos := "law.go:27", after := #[{ on := 17, ground := Ground.chain }, { on := 17, ground := Ground.guard }], guard := some (17, true) } : Oper) (by kernel_rfl) rfl (fun K hK => ?_)
  go_simp
  (go_at_call 10; (refine (awake_any (HT.out.keep hS.2.below)).mono ?_); rintro r w10 ⟨rfl, hb⟩)
  refine hK.out _ _ ?_ (fun hS1 => ?_)
  · (first | exact hS | exact ⟨hS.1.keep hb, hS.2.next hb⟩)
  clear hK K hS; have hS := hS1; clear hS1
  (try simp only [Act.put, List.setIfInBounds_toArray, List.set_cons_zero, List.set_cons_succ])
  refine wpAnyH_take (i := 19) (oi := ({ dst := some 81, op := Op.pick (Operand.tmp 79) (Operand.tmp 80) (Operand.const (Value.bool false)), type := 4, pos := "law.go:27", after := #[{ on := 17, ground := Ground.data }, { on := 18, ground := Ground.data }], guard := none } : Oper)) (v := ?_) rfl (by kernel_rfl) (by kernel_rfl) (by kernel_rfl) (fun _ _ _ h => h) (Or.inl ⟨by rfl, ?_⟩) hS ?_
  rotate_left
  · (intro w hSw; (try dsimp only at hSw); go_simp; try with_reducible rfl)
  (try simp only [Act.put, List.setIfInBounds_toArray, List.set_cons_zero, List.set_cons_succ])
  refine wpAnyH_take (i := 20) (oi := ({ dst := some 4, op := Op.assign (Operand.tmp 81), type := 4, pos := "law.go:27", after := #[{ on := 19, ground := Ground.data }, { on := 18, ground := Ground.chain }, { on := 0, ground := Ground.phase }, { on := 1, ground := Ground.phase }, { on := 2, ground := Ground.phase }, { on := 3, ground := Ground.phase }, { on := 4, ground := Ground.phase }, { on := 5, ground := Ground.phase }, { on := 6, ground := Ground.phase }, { on := 7, ground := Ground.phase }, { on := 8, ground := Ground.phase }, { on := 9, ground := Ground.phase }, { on := 10, ground := Ground.phase }, { on := 11, ground := Ground.phase }, { on := 12, ground := Ground.phase }, { on := 13, ground := Ground.phase }, { on := 14, ground := Ground.phase }, { on := 15, ground := Ground.phase }, { on := 16, ground := Ground.phase }, { on := 17, ground := Ground.phase }, { on := 18, ground := Ground.phase }, { on := 19, ground := Ground.phase }], guard := none } : Oper)) (v := ?_) rfl (by kernel_rfl) (by kernel_rfl) (by kernel_rfl) (fun _ _ _ h => h) (Or.inl ⟨by rfl, ?_⟩) hS ?_
  rotate_left
  · (intro w hSw; (try dsimp only at hSw); go_simp; try with_reducible rfl)
  (try simp only [Act.put, List.setIfInBounds_toArray, List.set_cons_zero, List.set_cons_succ])
  refine wpAnyH_done (by kernel_rfl) ?_ _
  have HE9 := Lib.hid hS.2
  clear hS
  go_wp2
  go_ret
  exact ⟨rfl, HE9.out.below⟩
set_option maxRecDepth 8000 in
set_option maxHeartbeats 4000000 in
theorem encodes_right_same (e s f e' s' f' : Int) (l l' : List Int) (ht : HdT ⟨e, s, f, l⟩) (hg : HdT ⟨e', s', f', l'⟩) (hk : hdOk ⟨e, s, f, l⟩ = true) (w : World) (hT : Tab w) (n1 : ¬ e' < e) (n2 : e = e') (n3 : ¬ s' < s) :
    Calls Tryd.prog 3 #[.agg (hv ⟨e, s, f, l⟩), .agg (hv ⟨e', s', f', l'⟩)] w fun r w' => r = .returned (.bool true) ∧ Below w.heap.size w w' := by
  obtain ⟨w0, hw0⟩ : ∃ q, (w.alloc (.cells (hv ⟨e, s, f, l⟩) 25)).alloc (.cells (hv ⟨e', s', f', l'⟩) 25) = q := ⟨_, rfl⟩
  have hs1 : (w.alloc (.cells (hv ⟨e, s, f, l⟩) 25)).heap.size = w.heap.size + 1 := alloc_size w _
  have HH := Lib.hid (show HB w0 w.heap.size ⟨e, s, f, l⟩ from by rw [← hw0]; exact (HB.new w _ ht.n).keep (balloc _ _))
  have HG := Lib.hid (show HB w0 (w.heap.size + 1) ⟨e', s', f', l'⟩ from by rw [← hw0, ← hs1]; exact HB.new _ _ hg.n)
  have HW := Lib.hid (show Below w.heap.size w w0 from by rw [← hw0]; exact bch (balloc w _) (balloc _ _))
  have HT := Lib.hid hT
  have HZ := Lib.hid z64_cells
  have HN := Lib.hid ht.n
  have HSN := Lib.hid (secH_length ht.n)
  have HR : Hid (∀ w, Calls Tryd.prog 7 #[.agg (hv ⟨e, s, f, l⟩)] w fun r w' => r = .returned (.bool true) ∧ Below w.heap.size w w') := Lib.hid fun w => by rw [← hk]; exact hright_any _ ht w
  have HRR : Hid (∀ w, Calls Tryd.prog 8 #[.agg (hv ⟨e, s, f, l⟩)] w fun r w' => r = .returned (.bool true) ∧ Below w.heap.size w w') := Lib.hid fun w => by rw [← hk]; exact rright_any _ ht w
  have HNW : Hid (∀ w, Calls Tryd.prog 9 #[.agg (hv ⟨e, s, f, l⟩), .agg (hv ⟨e', s', f', l'⟩)] w fun r w' => r = .returned (.bool false) ∧ Below w.heap.size w w') := Lib.hid fun w => (newer_any _ _ ht hg w).mono fun _ _ ⟨q1, q2⟩ => ⟨q1.trans (ret_bool (by simp [n2, n3])), q2⟩
  have HE : Hid (∀ w, Tab w → Calls Tryd.prog 6 #[.agg (hv ⟨e, s, f, l⟩)] w fun r w' => r = .returned (.tuple #[.agg (sv (secH ⟨e, s, f, l⟩)), .int .i64 0]) ∧ Below w.heap.size w w') := Lib.hid fun w q => henc_ok _ ht hk w q
  have HD : Hid (∀ w, Tab w → Calls Tryd.prog 11 #[.agg (sv (secH ⟨e, s, f, l⟩))] w fun r w' => r = .returned (.tuple #[.agg (hv ⟨e, s, f, l⟩), .int .i64 0]) ∧ Below w.heap.size w w') := Lib.hid fun w q => hdec_any _ (secH_length ht.n) (secH_bytes _) w q (hd_got ht hk)
  have HSC : Hid (∀ w, Calls Tryd.prog 12 #[.agg (hv ⟨e, s, f, l⟩)] w fun r w' => r = .returned (.agg (sv (secH ⟨e, s, f, l⟩))) ∧ Below w.heap.size w w') := Lib.hid fun w => rsector_any _ ht hk w
  have d13 : decide (e' < e) = false := decide_eq_false n1
  have d19 : (e == e') = true := by simp [n2]
  have d25 : decide (s' < s) = false := decide_eq_false n3
  clear n2
  clear ht hg hk hT hs1
  go_enter Tryd.func3, Tryd.ntmps3
  go_wp2_with (first
    | (go_at_call 6; (with_reducible refine (HE.out _ (HT.out.keep HW.out)).mono ?_); rintro r w1 ⟨rfl, hb1⟩; have HB1 := Lib.hid hb1; clear hb1)
    | (rw [← HZ.out]; refine wpl_put_sec rfl (.tmp 5) (.tmp 12) rfl w1.heap.size z64 (secH ⟨e, s, f, l⟩) (Blk.new w1 z64 z64_length) HSN.out rfl rfl ?_; intro w2 HC2 HG2; have HX2 := Lib.hid (bch HB1.out (new_below HG2.out)); have HES : Hid (ES w ⟨e, s, f, l⟩ ⟨e', s', f', l'⟩ w1.heap.size (secH ⟨e, s, f, l⟩) w2) := Lib.hid ⟨bch HW.out HX2.out, HH.out.keep HX2.out, HG.out.keep HX2.out, HC2.out⟩)
    | (refine wpl_load_hd (by rfl) (.tmp 2) rfl rfl HH.out ?_))
  go_wp2_with fail
  refine wp_region_held_drew (S := (fun w' => w'.cell? ⟨w.heap.size, 0, none⟩ = some (.int .u64 e) ∧ w'.cell? ⟨w.heap.size, 1, none⟩ = some (.int .i64 s) ∧ w'.cell? ⟨w.heap.size + 1, 0, none⟩ = some (.int .u64 e') ∧ w'.cell? ⟨w.heap.size + 1, 1, none⟩ = some (.int .i64 s') ∧ ES w ⟨e, s, f, l⟩ ⟨e', s', f', l'⟩ w1.heap.size (secH ⟨e, s, f, l⟩) w')) (by kernel_rfl) (ES.all (HES.out.next (Below.refl _ _).drew)) (fun hS => ?_)
  refine wpAnyH_take (i := 0) (oi := ({ dst := some 14, op := Op.load 25 (Operand.tmp 2), type := 25, pos := "law.go:20", after := #[], guard := none } : Oper)) (v := ?_) rfl (by kernel_rfl) (by kernel_rfl) (by kernel_rfl) (fun _ _ _ h => h) (Or.inl ⟨by rfl, ?_⟩) hS ?_
  rotate_left
  · (intro w hSw; (try dsimp only at hSw); refine exec_load_hd (.tmp 2) ?_ ?_ hSw.2.2.2.2.hh <;> rfl)
  (try simp only [Act.put, List.setIfInBounds_toArray, List.set_cons_zero, List.set_cons_succ])
  refine wpAnyH_take (i := 2) (oi := ({ dst := some 16, op := Op.load 25 (Operand.tmp 2), type := 25, pos := "law.go:20", after := #[], guard := none } : Oper)) (v := ?_) rfl (by kernel_rfl) (by kernel_rfl) (by kernel_rfl) (fun _ _ _ h => h) (Or.inl ⟨by rfl, ?_⟩) hS ?_
  rotate_left
  · (intro w hSw; (try dsimp only at hSw); refine exec_load_hd (.tmp 2) ?_ ?_ hSw.2.2.2.2.hh <;> rfl)
  (try simp only [Act.put, List.setIfInBounds_toArray, List.set_cons_zero, List.set_cons_succ])
  refine rg_one 1 ({ dst := some 15, op := Op.call { callee := Callee.value (Operand.func 7), args := #[Operand.tmp 14], argTypes := #[25] }, type := 4, pos := "law.go:20", after := #[{ on := 0, ground := Ground.data }], guard := none } : Oper) (by kernel_rfl) rfl (fun K hK => ?_)
  go_simp
  (go_at_call 7; (refine (HR.out _).mono ?_); rintro r w3 ⟨rfl, hb⟩)
  refine hK.out _ _ ?_ (fun hS1 => ?_)
  · (first | exact hS | exact ES.all (hS.2.2.2.2.next hb))
  clear hK K hS; have hS := hS1; clear hS1
  (try simp only [Act.put, List.setIfInBounds_toArray, List.set_cons_zero, List.set_cons_succ])
  refine rg_one 3 ({ dst := some 17, op := Op.call { callee := Callee.value (Operand.func 8), args := #[Operand.tmp 16], argTypes := #[25] }, type := 4, pos := "law.go:20", after := #[{ on := 2, ground := Ground.data }, { on := 1, ground := Ground.chain }], guard := none } : Oper) (by kernel_rfl) rfl (fun K hK => ?_)
  go_simp
  (go_at_call 8; (refine (HRR.out _).mono ?_); rintro r w4 ⟨rfl, hb⟩)
  refine hK.out _ _ ?_ (fun hS1 => ?_)
  · (first | exact hS | exact ES.all (hS.2.2.2.2.next hb))
  clear hK K hS; have hS := hS1; clear hS1
  (try simp only [Act.put, List.setIfInBounds_toArray, List.set_cons_zero, List.set_cons_succ])
  refine wpAnyH_take (i := 4) (oi := ({ dst := some 18, op := Op.binOp BinOp.neq 4 (Operand.tmp 15) (Operand.tmp 17) 4, type := 4, pos := "law.go:20", after := #[{ on := 1, ground := Ground.data }, { on := 3, ground := Ground.data }], guard := none } : Oper)) (v := ?_) rfl (by kernel_rfl) (by kernel_rfl) (by kernel_rfl) (fun _ _ _ h => h) (Or.inl ⟨by rfl, ?_⟩) hS ?_
  rotate_left
  · (intro w hSw; (try dsimp only at hSw); go_simp; try with_reducible rfl)
  (try simp only [Act.put, List.setIfInBounds_toArray, List.set_cons_zero, List.set_cons_succ])
  refine wpAnyH_take (i := 5) (oi := ({ dst := some 19, op := Op.move (Operand.tmp 18), type := 4, pos := "law.go:20", after := #[{ on := 4, ground := Ground.data }, { on := 3, ground := Ground.chain }], guard := none } : Oper)) (v := ?_) rfl (by kernel_rfl) (by kernel_rfl) (by kernel_rfl) (fun _ _ _ h => h) (Or.inl ⟨by rfl, ?_⟩) hS ?_
  rotate_left
  · (intro w hSw; (try dsimp only at hSw); go_simp; try with_reducible rfl)
  (try simp only [Act.put, List.setIfInBounds_toArray, List.set_cons_zero, List.set_cons_succ])
  refine wpAnyH_take (i := 6) (oi := ({ dst := some 20, op := Op.load 25 (Operand.tmp 2), type := 25, pos := "law.go:20", after := #[{ on := 5, ground := Ground.guard }], guard := some (5, false) } : Oper)) (v := ?_) rfl (by kernel_rfl) (by kernel_rfl) (by kernel_rfl) (fun _ _ _ h => h) (Or.inl ⟨by rfl, ?_⟩) hS ?_
  rotate_left
  · (intro w hSw; (try dsimp only at hSw); refine exec_load_hd (.tmp 2) ?_ ?_ hSw.2.2.2.2.hh <;> rfl)
  (try simp only [Act.put, List.setIfInBounds_toArray, List.set_cons_zero, List.set_cons_succ])
  refine wpAnyH_take (i := 7) (oi := ({ dst := some 21, op := Op.load 25 (Operand.tmp 3), type := 25, pos := "law.go:20", after := #[{ on := 5, ground := Ground.guard }], guard := some (5, false) } : Oper)) (v := ?_) rfl (by kernel_rfl) (by kernel_rfl) (by kernel_rfl) (fun _ _ _ h => h) (Or.inl ⟨by rfl, ?_⟩) hS ?_
  rotate_left
  · (intro w hSw; (try dsimp only at hSw); refine exec_load_hd (.tmp 3) ?_ ?_ hSw.2.2.2.2.hg <;> rfl)
  (try simp only [Act.put, List.setIfInBounds_toArray, List.set_cons_zero, List.set_cons_succ])
  refine wpAnyH_take (i := 9) (oi := ({ dst := some 23, op := Op.fieldAddr 25 (Operand.tmp 2) 0, type := 0, pos := "law.go:20", after := #[{ on := 5, ground := Ground.guard }], guard := some (5, false) } : Oper)) (v := ?_) rfl (by kernel_rfl) (by kernel_rfl) (by kernel_rfl) (fun _ _ _ h => h) (Or.inl ⟨by rfl, ?_⟩) hS ?_
  rotate_left
  · (intro w hSw; (try dsimp only at hSw); go_simp; try with_reducible rfl)
  (try simp only [Act.put, List.setIfInBounds_toArray, List.set_cons_zero, List.set_cons_succ])
  refine wpAnyH_take (i := 10) (oi := ({ dst := some 24, op := Op.load 22 (Operand.tmp 23), type := 22, pos := "law.go:20", after := #[{ on := 9, ground := Ground.data }, { on := 5, ground := Ground.guard }], guard := some (5, false) } : Oper)) (v := ?_) rfl (by kernel_rfl) (by kernel_rfl) (by kernel_rfl) (fun _ _ _ h => h) (Or.inl ⟨by rfl, ?_⟩) hS ?_
  rotate_left
  · (intro w hSw; (try dsimp only at hSw); go_simp; try with_reducible rfl)
  (try simp only [Act.put, List.setIfInBounds_toArray, List.set_cons_zero, List.set_cons_succ])
  refine wpAnyH_take (i := 11) (oi := ({ dst := some 25, op := Op.fieldAddr 25 (Operand.tmp 3) 0, type := 0, pos := "law.go:20", after := #[{ on := 5, ground := Ground.guard }], guard := some (5, false) } : Oper)) (v := ?_) rfl (by kernel_rfl) (by kernel_rfl) (by kernel_rfl) (fun _ _ _ h => h) (Or.inl ⟨by rfl, ?_⟩) hS ?_
  rotate_left
  · (intro w hSw; (try dsimp only at hSw); go_simp; try with_reducible rfl)
  (try simp only [Act.put, List.setIfInBounds_toArray, List.set_cons_zero, List.set_cons_succ])
  refine wpAnyH_take (i := 12) (oi := ({ dst := some 26, op := Op.load 22 (Operand.tmp 25), type := 22, pos := "law.go:20", after := #[{ on := 11, ground := Ground.data }, { on := 5, ground := Ground.guard }], guard := some (5, false) } : Oper)) (v := ?_) rfl (by kernel_rfl) (by kernel_rfl) (by kernel_rfl) (fun _ _ _ h => h) (Or.inl ⟨by rfl, ?_⟩) hS ?_
  rotate_left
  · (intro w hSw; (try dsimp only at hSw); go_simp; try with_reducible rfl)
  (try simp only [Act.put, List.setIfInBounds_toArray, List.set_cons_zero, List.set_cons_succ])
  refine wpAnyH_take (i := 13) (oi := ({ dst := some 27, op := Op.binOp BinOp.gtr 22 (Operand.tmp 24) (Operand.tmp 26) 22, type := 4, pos := "law.go:20", after := #[{ on := 10, ground := Ground.data }, { on := 12, ground := Ground.data }, { on := 5, ground := Ground.guard }], guard := some (5, false) } : Oper)) (v := .bool false) rfl (by kernel_rfl) (by kernel_rfl) (by kernel_rfl) (fun _ _ _ h => h) (Or.inl ⟨by rfl, ?_⟩) hS ?_
  · (intro w hSw; (try dsimp only at hSw); go_simp)
  (try simp only [Act.put, List.setIfInBounds_toArray, List.set_cons_zero, List.set_cons_succ])
  refine rg_one 8 ({ dst := some 22, op := Op.call { callee := Callee.value (Operand.func 9), args := #[Operand.tmp 20, Operand.tmp 21], argTypes := #[25, 25] }, type := 4, pos := "law.go:20", after := #[{ on := 6, ground := Ground.data }, { on := 7, ground := Ground.data }, { on := 5, ground := Ground.chain }, { on := 5, ground := Ground.guard }], guard := some (5, false) } : Oper) (by kernel_rfl) rfl (fun K hK => ?_)
  go_simp
  (go_at_call 9; (refine (HNW.out _).mono ?_); rintro r w5 ⟨rfl, hb⟩)
  refine hK.out _ _ ?_ (fun hS1 => ?_)
  · (first | exact hS | exact ES.all (hS.2.2.2.2.next hb))
  clear hK K hS; have hS := hS1; clear hS1
  (try simp only [Act.put, List.setIfInBounds_toArray, List.set_cons_zero, List.set_cons_succ])
  refine wpAnyH_take (i := 14) (oi := ({ dst := some 28, op := Op.move (Operand.tmp 27), type := 4, pos := "law.go:20", after := #[{ on := 13, ground := Ground.data }, { on := 8, ground := Ground.chain }, { on := 5, ground := Ground.guard }], guard := some (5, false) } : Oper)) (v := ?_) rfl (by kernel_rfl) (by kernel_rfl) (by kernel_rfl) (fun _ _ _ h => h) (Or.inl ⟨by rfl, ?_⟩) hS ?_
  rotate_left
  · (intro w hSw; (try dsimp only at hSw); go_simp; try with_reducible rfl)
  (try simp only [Act.put, List.setIfInBounds_toArray, List.set_cons_zero, List.set_cons_succ])
  refine wpAnyH_take (i := 15) (oi := ({ dst := some 29, op := Op.fieldAddr 25 (Operand.tmp 2) 0, type := 0, pos := "law.go:20", after := #[{ on := 14, ground := Ground.guard }], guard := some (14, false) } : Oper)) (v := ?_) rfl (by kernel_rfl) (by kernel_rfl) (by kernel_rfl) (fun _ _ _ h => h) (Or.inl ⟨by rfl, ?_⟩) hS ?_
  rotate_left
  · (intro w hSw; (try dsimp only at hSw); go_simp; try with_reducible rfl)
  (try simp only [Act.put, List.setIfInBounds_toArray, List.set_cons_zero, List.set_cons_succ])
  refine wpAnyH_take (i := 16) (oi := ({ dst := some 30, op := Op.load 22 (Operand.tmp 29), type := 22, pos := "law.go:20", after := #[{ on := 15, ground := Ground.data }, { on := 14, ground := Ground.guard }], guard := some (14, false) } : Oper)) (v := ?_) rfl (by kernel_rfl) (by kernel_rfl) (by kernel_rfl) (fun _ _ _ h => h) (Or.inl ⟨by rfl, ?_⟩) hS ?_
  rotate_left
  · (intro w hSw; (try dsimp only at hSw); go_simp; try with_reducible rfl)
  (try simp only [Act.put, List.setIfInBounds_toArray, List.set_cons_zero, List.set_cons_succ])
  refine wpAnyH_take (i := 17) (oi := ({ dst := some 31, op := Op.fieldAddr 25 (Operand.tmp 3) 0, type := 0, pos := "law.go:20", after := #[{ on := 14, ground := Ground.guard }], guard := some (14, false) } : Oper)) (v := ?_) rfl (by kernel_rfl) (by kernel_rfl) (by kernel_rfl) (fun _ _ _ h => h) (Or.inl ⟨by rfl, ?_⟩) hS ?_
  rotate_left
  · (intro w hSw; (try dsimp only at hSw); go_simp; try with_reducible rfl)
  (try simp only [Act.put, List.setIfInBounds_toArray, List.set_cons_zero, List.set_cons_succ])
  refine wpAnyH_take (i := 18) (oi := ({ dst := some 32, op := Op.load 22 (Operand.tmp 31), type := 22, pos := "law.go:20", after := #[{ on := 17, ground := Ground.data }, { on := 14, ground := Ground.guard }], guard := some (14, false) } : Oper)) (v := ?_) rfl (by kernel_rfl) (by kernel_rfl) (by kernel_rfl) (fun _ _ _ h => h) (Or.inl ⟨by rfl, ?_⟩) hS ?_
  rotate_left
  · (intro w hSw; (try dsimp only at hSw); go_simp; try with_reducible rfl)
  (try simp only [Act.put, List.setIfInBounds_toArray, List.set_cons_zero, List.set_cons_succ])
  refine wpAnyH_take (i := 19) (oi := ({ dst := some 33, op := Op.binOp BinOp.eql 22 (Operand.tmp 30) (Operand.tmp 32) 22, type := 4, pos := "law.go:20", after := #[{ on := 16, ground := Ground.data }, { on := 18, ground := Ground.data }, { on := 14, ground := Ground.guard }], guard := some (14, false) } : Oper)) (v := .bool true) rfl (by kernel_rfl) (by kernel_rfl) (by kernel_rfl) (fun _ _ _ h => h) (Or.inl ⟨by rfl, ?_⟩) hS ?_
  · (intro w hSw; (try dsimp only at hSw); go_simp)
  (try simp only [Act.put, List.setIfInBounds_toArray, List.set_cons_zero, List.set_cons_succ])
  refine wpAnyH_take (i := 20) (oi := ({ dst := some 34, op := Op.move (Operand.tmp 33), type := 4, pos := "law.go:20", after := #[{ on := 19, ground := Ground.data }, { on := 14, ground := Ground.chain }, { on := 14, ground := Ground.guard }], guard := some (14, false) } : Oper)) (v := ?_) rfl (by kernel_rfl) (by kernel_rfl) (by kernel_rfl) (fun _ _ _ h => h) (Or.inl ⟨by rfl, ?_⟩) hS ?_
  rotate_left
  · (intro w hSw; (try dsimp only at hSw); go_simp; try with_reducible rfl)
  (try simp only [Act.put, List.setIfInBounds_toArray, List.set_cons_zero, List.set_cons_succ])
  refine wpAnyH_take (i := 21) (oi := ({ dst := some 35, op := Op.fieldAddr 25 (Operand.tmp 2) 1, type := 0, pos := "law.go:20", after := #[{ on := 20, ground := Ground.guard }], guard := some (20, true) } : Oper)) (v := ?_) rfl (by kernel_rfl) (by kernel_rfl) (by kernel_rfl) (fun _ _ _ h => h) (Or.inl ⟨by rfl, ?_⟩) hS ?_
  rotate_left
  · (intro w hSw; (try dsimp only at hSw); go_simp; try with_reducible rfl)
  (try simp only [Act.put, List.setIfInBounds_toArray, List.set_cons_zero, List.set_cons_succ])
  refine wpAnyH_take (i := 22) (oi := ({ dst := some 36, op := Op.load 3 (Operand.tmp 35), type := 3, pos := "law.go:20", after := #[{ on := 21, ground := Ground.data }, { on := 20, ground := Ground.guard }], guard := some (20, true) } : Oper)) (v := ?_) rfl (by kernel_rfl) (by kernel_rfl) (by kernel_rfl) (fun _ _ _ h => h) (Or.inl ⟨by rfl, ?_⟩) hS ?_
  rotate_left
  · (intro w hSw; (try dsimp only at hSw); go_simp; try with_reducible rfl)
  (try simp only [Act.put, List.setIfInBounds_toArray, List.set_cons_zero, List.set_cons_succ])
  refine wpAnyH_take (i := 23) (oi := ({ dst := some 37, op := Op.fieldAddr 25 (Operand.tmp 3) 1, type := 0, pos := "law.go:20", after := #[{ on := 20, ground := Ground.guard }], guard := some (20, true) } : Oper)) (v := ?_) rfl (by kernel_rfl) (by kernel_rfl) (by kernel_rfl) (fun _ _ _ h => h) (Or.inl ⟨by rfl, ?_⟩) hS ?_
  rotate_left
  · (intro w hSw; (try dsimp only at hSw); go_simp; try with_reducible rfl)
  (try simp only [Act.put, List.setIfInBounds_toArray, List.set_cons_zero, List.set_cons_succ])
  refine wpAnyH_take (i := 24) (oi := ({ dst := some 38, op := Op.load 3 (Operand.tmp 37), type := 3, pos := "law.go:20", after := #[{ on := 23, ground := Ground.data }, { on := 20, ground := Ground.guard }], guard := some (20, true) } : Oper)) (v := ?_) rfl (by kernel_rfl) (by kernel_rfl) (by kernel_rfl) (fun _ _ _ h => h) (Or.inl ⟨by rfl, ?_⟩) hS ?_
  rotate_left
  · (intro w hSw; (try dsimp only at hSw); go_simp; try with_reducible rfl)
  (try simp only [Act.put, List.setIfInBounds_toArray, List.set_cons_zero, List.set_cons_succ])
  refine wpAnyH_take (i := 25) (oi := ({ dst := some 39, op := Op.binOp BinOp.gtr 3 (Operand.tmp 36) (Operand.tmp 38) 3, type := 4, pos := "law.go:20", after := #[{ on := 22, ground := Ground.data }, { on := 24, ground := Ground.data }, { on := 20, ground := Ground.guard }], guard := some (20, true) } : Oper)) (v := .bool false) rfl (by kernel_rfl) (by kernel_rfl) (by kernel_rfl) (fun _ _ _ h => h) (Or.inl ⟨by rfl, ?_⟩) hS ?_
  · (intro w hSw; (try dsimp only at hSw); go_simp)
  (try simp only [Act.put, List.setIfInBounds_toArray, List.set_cons_zero, List.set_cons_succ])
  refine wpAnyH_take (i := 26) (oi := ({ dst := some 40, op := Op.pick (Operand.tmp 34) (Operand.tmp 39) (Operand.const (Value.bool false)), type := 4, pos := "law.go:20", after := #[{ on := 20, ground := Ground.data }, { on := 25, ground := Ground.data }, { on := 14, ground := Ground.guard }], guard := some (14, false) } : Oper)) (v := ?_) rfl (by kernel_rfl) (by kernel_rfl) (by kernel_rfl) (fun _ _ _ h => h) (Or.inl ⟨by rfl, ?_⟩) hS ?_
  rotate_left
  · (intro w hSw; (try dsimp only at hSw); go_simp; try with_reducible rfl)
  (try simp only [Act.put, List.setIfInBounds_toArray, List.set_cons_zero, List.set_cons_succ])
  refine wpAnyH_take (i := 27) (oi := ({ dst := some 41, op := Op.pick (Operand.tmp 28) (Operand.const (Value.bool true)) (Operand.tmp 40), type := 4, pos := "law.go:20", after := #[{ on := 14, ground := Ground.data }, { on := 26, ground := Ground.data }, { on := 5, ground := Ground.guard }], guard := some (5, false) } : Oper)) (v := ?_) rfl (by kernel_rfl) (by kernel_rfl) (by kernel_rfl) (fun _ _ _ h => h) (Or.inl ⟨by rfl, ?_⟩) hS ?_
  rotate_left
  · (intro w hSw; (try dsimp only at hSw); go_simp; try with_reducible rfl)
  (try simp only [Act.put, List.setIfInBounds_toArray, List.set_cons_zero, List.set_cons_succ])
  refine wpAnyH_take (i := 28) (oi := ({ dst := some 42, op := Op.binOp BinOp.neq 4 (Operand.tmp 22) (Operand.tmp 41) 4, type := 4, pos := "law.go:20", after := #[{ on := 8, ground := Ground.data }, { on := 27, ground := Ground.data }, { on := 5, ground := Ground.guard }], guard := some (5, false) } : Oper)) (v := ?_) rfl (by kernel_rfl) (by kernel_rfl) (by kernel_rfl) (fun _ _ _ h => h) (Or.inl ⟨by rfl, ?_⟩) hS ?_
  rotate_left
  · (intro w hSw; (try dsimp only at hSw); go_simp; try with_reducible rfl)
  (try simp only [Act.put, List.setIfInBounds_toArray, List.set_cons_zero, List.set_cons_succ])
  refine wpAnyH_take (i := 29) (oi := ({ dst := some 43, op := Op.pick (Operand.tmp 19) (Operand.const (Value.bool true)) (Operand.tmp 42), type := 4, pos := "law.go:20", after := #[{ on := 5, ground := Ground.data }, { on := 28, ground := Ground.data }], guard := none } : Oper)) (v := ?_) rfl (by kernel_rfl) (by kernel_rfl) (by kernel_rfl) (fun _ _ _ h => h) (Or.inl ⟨by rfl, ?_⟩) hS ?_
  rotate_left
  · (intro w hSw; (try dsimp only at hSw); go_simp; try with_reducible rfl)
  (try simp only [Act.put, List.setIfInBounds_toArray, List.set_cons_zero, List.set_cons_succ])
  refine wpAnyH_done (by kernel_rfl) ?_ _
  have HE5 := Lib.hid hS.2.2.2.2
  clear hS
  go_wp2_with (first
    | (go_at_call 8; (with_reducible refine (HRR.out _).mono ?_); rintro r w6 ⟨rfl, hb6⟩; have HE6 := Lib.hid (HE5.out.next hb6); clear hb6)
    | (refine wpl_load_hd (by rfl) (.tmp 2) rfl rfl HE5.out.hh ?_)
    | (refine wpl_load_sec (by rfl) (.tmp 5) rfl w1.heap.size rfl (secH ⟨e, s, f, l⟩) HE6.out.sec ?_)
    | (go_at_call 11; (with_reducible refine (HD.out _ (HT.out.keep HE6.out.below)).mono ?_); rintro r w7 ⟨rfl, hb7⟩; have HE7 := Lib.hid (HE6.out.next hb7); clear hb7)
    | (refine wpl_put_hd rfl (.tmp 7) (.tmp 60) rfl w7.heap.size noH ⟨e, s, f, l⟩ (HB.new w7 noH rfl) HN.out rfl rfl ?_; intro w8 HA8 HG8; have HE8 := Lib.hid (HE7.out.next (new_below HG8.out))))
  go_wp2_with fail
  refine wp_region_held_drew (S := (fun w' => HB w' w7.heap.size ⟨e, s, f, l⟩ ∧ ES w ⟨e, s, f, l⟩ ⟨e', s', f', l'⟩ w1.heap.size (secH ⟨e, s, f, l⟩) w')) (by kernel_rfl) ⟨HA8.out, HE8.out.next (Below.refl _ _).drew⟩ (fun hS => ?_)
  refine wpAnyH_take (i := 0) (oi := ({ dst := some 62, op := Op.move (Operand.tmp 6), type := 28, pos := "law.go:27", after := #[], guard := none } : Oper)) (v := ?_) rfl (by kernel_rfl) (by kernel_rfl) (by kernel_rfl) (fun _ _ _ h => h) (Or.inl ⟨by rfl, ?_⟩) hS ?_
  rotate_left
  · (intro w hSw; (try dsimp only at hSw); go_simp; try with_reducible rfl)
  (try simp only [Act.put, List.setIfInBounds_toArray, List.set_cons_zero, List.set_cons_succ])
  refine wpAnyH_take (i := 1) (oi := ({ dst := some 63, op := Op.binOp BinOp.eql 28 (Operand.tmp 62) (Operand.const (Value.int IntKind.i64 0)) 28, type := 4, pos := "law.go:27", after := #[{ on := 0, ground := Ground.data }], guard := none } : Oper)) (v := ?_) rfl (by kernel_rfl) (by kernel_rfl) (by kernel_rfl) (fun _ _ _ h => h) (Or.inl ⟨by rfl, ?_⟩) hS ?_
  rotate_left
  · (intro w hSw; (try dsimp only at hSw); go_simp; try with_reducible rfl)
  (try simp only [Act.put, List.setIfInBounds_toArray, List.set_cons_zero, List.set_cons_succ])
  refine wpAnyH_take (i := 2) (oi := ({ dst := some 64, op := Op.move (Operand.tmp 63), type := 4, pos := "law.go:27", after := #[{ on := 1, ground := Ground.data }], guard := none } : Oper)) (v := ?_) rfl (by kernel_rfl) (by kernel_rfl) (by kernel_rfl) (fun _ _ _ h => h) (Or.inl ⟨by rfl, ?_⟩) hS ?_
  rotate_left
  · (intro w hSw; (try dsimp only at hSw); go_simp; try with_reducible rfl)
  (try simp only [Act.put, List.setIfInBounds_toArray, List.set_cons_zero, List.set_cons_succ])
  refine wpAnyH_take (i := 3) (oi := ({ dst := some 65, op := Op.load 27 (Operand.tmp 5), type := 27, pos := "law.go:27", after := #[{ on := 2, ground := Ground.guard }], guard := some (2, true) } : Oper)) (v := ?_) rfl (by kernel_rfl) (by kernel_rfl) (by kernel_rfl) (fun _ _ _ h => h) (Or.inl ⟨by rfl, ?_⟩) hS ?_
  rotate_left
  · (intro w hSw; (try dsimp only at hSw); refine exec_load_sec (.tmp 5) ?_ ?_ hSw.2.sec <;> rfl)
  (try simp only [Act.put, List.setIfInBounds_toArray, List.set_cons_zero, List.set_cons_succ])
  refine wpAnyH_take (i := 4) (oi := ({ dst := some 66, op := Op.load 25 (Operand.tmp 2), type := 25, pos := "law.go:27", after := #[{ on := 2, ground := Ground.guard }], guard := some (2, true) } : Oper)) (v := ?_) rfl (by kernel_rfl) (by kernel_rfl) (by kernel_rfl) (fun _ _ _ h => h) (Or.inl ⟨by rfl, ?_⟩) hS ?_
  rotate_left
  · (intro w hSw; (try dsimp only at hSw); refine exec_load_hd (.tmp 2) ?_ ?_ hSw.2.hh <;> rfl)
  (try simp only [Act.put, List.setIfInBounds_toArray, List.set_cons_zero, List.set_cons_succ])
  refine rg_one 5 ({ dst := some 67, op := Op.call { callee := Callee.value (Operand.func 12), args := #[Operand.tmp 66], argTypes := #[25] }, type := 27, pos := "law.go:27", after := #[{ on := 4, ground := Ground.data }, { on := 2, ground := Ground.chain }, { on := 2, ground := Ground.guard }], guard := some (2, true) } : Oper) (by kernel_rfl) rfl (fun K hK => ?_)
  go_simp
  (go_at_call 12; (refine (HSC.out _).mono ?_); rintro r w9 ⟨rfl, hb⟩)
  refine hK.out _ _ ?_ (fun hS1 => ?_)
  · (first | exact hS | exact ⟨hS.1.keep hb, hS.2.next hb⟩)
  clear hK K hS; have hS := hS1; clear hS1
  (try simp only [Act.put, List.setIfInBounds_toArray, List.set_cons_zero, List.set_cons_succ])
  refine wpAnyH_take (i := 6) (oi := ({ dst := some 68, op := Op.binOp BinOp.eql 27 (Operand.tmp 65) (Operand.tmp 67) 27, type := 4, pos := "law.go:27", after := #[{ on := 3, ground := Ground.data }, { on := 5, ground := Ground.data }, { on := 2, ground := Ground.guard }], guard := some (2, true) } : Oper)) (v := .bool true) rfl (by kernel_rfl) (by kernel_rfl) (by kernel_rfl) (fun _ _ _ h => h) (Or.inl ⟨by rfl, ?_⟩) hS ?_
  · (intro w hSw; (try dsimp only at hSw); exact (exec_eq_sec (secH ⟨e, s, f, l⟩) (secH ⟨e, s, f, l⟩) HSN.out HSN.out (.tmp 65) (.tmp 67) _ rfl rfl rfl).trans (by simp))
  (try simp only [Act.put, List.setIfInBounds_toArray, List.set_cons_zero, List.set_cons_succ])
  refine wpAnyH_take (i := 7) (oi := ({ dst := some 69, op := Op.pick (Operand.tmp 64) (Operand.tmp 68) (Operand.const (Value.bool false)), type := 4, pos := "law.go:27", after := #[{ on := 2, ground := Ground.data }, { on := 6, ground := Ground.data }], guard := none } : Oper)) (v := ?_) rfl (by kernel_rfl) (by kernel_rfl) (by kernel_rfl) (fun _ _ _ h => h) (Or.inl ⟨by rfl, ?_⟩) hS ?_
  rotate_left
  · (intro w hSw; (try dsimp only at hSw); go_simp; try with_reducible rfl)
  (try simp only [Act.put, List.setIfInBounds_toArray, List.set_cons_zero, List.set_cons_succ])
  refine wpAnyH_take (i := 8) (oi := ({ dst := some 70, op := Op.move (Operand.tmp 69), type := 4, pos := "law.go:27", after := #[{ on := 7, ground := Ground.data }, { on := 5, ground := Ground.chain }], guard := none } : Oper)) (v := ?_) rfl (by kernel_rfl) (by kernel_rfl) (by kernel_rfl) (fun _ _ _ h => h) (Or.inl ⟨by rfl, ?_⟩) hS ?_
  rotate_left
  · (intro w hSw; (try dsimp only at hSw); go_simp; try with_reducible rfl)
  (try simp only [Act.put, List.setIfInBounds_toArray, List.set_cons_zero, List.set_cons_succ])
  refine wpAnyH_take (i := 9) (oi := ({ dst := some 71, op := Op.load 25 (Operand.tmp 7), type := 25, pos := "law.go:27", after := #[{ on := 8, ground := Ground.guard }], guard := some (8, true) } : Oper)) (v := ?_) rfl (by kernel_rfl) (by kernel_rfl) (by kernel_rfl) (fun _ _ _ h => h) (Or.inl ⟨by rfl, ?_⟩) hS ?_
  rotate_left
  · (intro w hSw; (try dsimp only at hSw); refine exec_load_hd (.tmp 7) ?_ ?_ hSw.1 <;> rfl)
  (try simp only [Act.put, List.setIfInBounds_toArray, List.set_cons_zero, List.set_cons_succ])
  refine wpAnyH_take (i := 10) (oi := ({ dst := some 72, op := Op.load 25 (Operand.tmp 2), type := 25, pos := "law.go:27", after := #[{ on := 8, ground := Ground.guard }], guard := some (8, true) } : Oper)) (v := ?_) rfl (by kernel_rfl) (by kernel_rfl) (by kernel_rfl) (fun _ _ _ h => h) (Or.inl ⟨by rfl, ?_⟩) hS ?_
  rotate_left
  · (intro w hSw; (try dsimp only at hSw); refine exec_load_hd (.tmp 2) ?_ ?_ hSw.2.hh <;> rfl)
  (try simp only [Act.put, List.setIfInBounds_toArray, List.set_cons_zero, List.set_cons_succ])
  refine wpAnyH_take (i := 11) (oi := ({ dst := some 73, op := Op.binOp BinOp.eql 25 (Operand.tmp 71) (Operand.tmp 72) 25, type := 4, pos := "law.go:27", after := #[{ on := 9, ground := Ground.data }, { on := 10, ground := Ground.data }, { on := 8, ground := Ground.guard }], guard := some (8, true) } : Oper)) (v := .bool true) rfl (by kernel_rfl) (by kernel_rfl) (by kernel_rfl) (fun _ _ _ h => h) (Or.inl ⟨by rfl, ?_⟩) hS ?_
  · (intro w hSw; (try dsimp only at hSw); exact (exec_eq_hd HN.out HN.out (.tmp 71) (.tmp 72) _ rfl rfl rfl).trans (by simp))
  (try simp only [Act.put, List.setIfInBounds_toArray, List.set_cons_zero, List.set_cons_succ])
  refine wpAnyH_take (i := 12) (oi := ({ dst := some 74, op := Op.pick (Operand.tmp 70) (Operand.tmp 73) (Operand.const (Value.bool false)), type := 4, pos := "law.go:27", after := #[{ on := 8, ground := Ground.data }, { on := 11, ground := Ground.data }], guard := none } : Oper)) (v := ?_) rfl (by kernel_rfl) (by kernel_rfl) (by kernel_rfl) (fun _ _ _ h => h) (Or.inl ⟨by rfl, ?_⟩) hS ?_
  rotate_left
  · (intro w hSw; (try dsimp only at hSw); go_simp; try with_reducible rfl)
  (try simp only [Act.put, List.setIfInBounds_toArray, List.set_cons_zero, List.set_cons_succ])
  refine wpAnyH_take (i := 13) (oi := ({ dst := some 75, op := Op.move (Operand.tmp 74), type := 4, pos := "law.go:27", after := #[{ on := 12, ground := Ground.data }, { on := 8, ground := Ground.chain }], guard := none } : Oper)) (v := ?_) rfl (by kernel_rfl) (by kernel_rfl) (by kernel_rfl) (fun _ _ _ h => h) (Or.inl ⟨by rfl, ?_⟩) hS ?_
  rotate_left
  · (intro w hSw; (try dsimp only at hSw); go_simp; try with_reducible rfl)
  (try simp only [Act.put, List.setIfInBounds_toArray, List.set_cons_zero, List.set_cons_succ])
  refine wpAnyH_take (i := 14) (oi := ({ dst := some 76, op := Op.move (Operand.tmp 8), type := 28, pos := "law.go:27", after := #[{ on := 13, ground := Ground.guard }], guard := some (13, true) } : Oper)) (v := ?_) rfl (by kernel_rfl) (by kernel_rfl) (by kernel_rfl) (fun _ _ _ h => h) (Or.inl ⟨by rfl, ?_⟩) hS ?_
  rotate_left
  · (intro w hSw; (try dsimp only at hSw); go_simp; try with_reducible rfl)
  (try simp only [Act.put, List.setIfInBounds_toArray, List.set_cons_zero, List.set_cons_succ])
  refine wpAnyH_take (i := 15) (oi := ({ dst := some 77, op := Op.binOp BinOp.eql 28 (Operand.tmp 76) (Operand.const (Value.int IntKind.i64 0)) 28, type := 4, pos := "law.go:27", after := #[{ on := 14, ground := Ground.data }, { on := 13, ground := Ground.guard }], guard := some (13, true) } : Oper)) (v := ?_) rfl (by kernel_rfl) (by kernel_rfl) (by kernel_rfl) (fun _ _ _ h => h) (Or.inl ⟨by rfl, ?_⟩) hS ?_
  rotate_left
  · (intro w hSw; (try dsimp only at hSw); go_simp; try with_reducible rfl)
  (try simp only [Act.put, List.setIfInBounds_toArray, List.set_cons_zero, List.set_cons_succ])
  refine wpAnyH_take (i := 16) (oi := ({ dst := some 78, op := Op.pick (Operand.tmp 75) (Operand.tmp 77) (Operand.const (Value.bool false)), type := 4, pos := "law.go:27", after := #[{ on := 13, ground := Ground.data }, { on := 15, ground := Ground.data }], guard := none } : Oper)) (v := ?_) rfl (by kernel_rfl) (by kernel_rfl) (by kernel_rfl) (fun _ _ _ h => h) (Or.inl ⟨by rfl, ?_⟩) hS ?_
  rotate_left
  · (intro w hSw; (try dsimp only at hSw); go_simp; try with_reducible rfl)
  (try simp only [Act.put, List.setIfInBounds_toArray, List.set_cons_zero, List.set_cons_succ])
  refine wpAnyH_take (i := 17) (oi := ({ dst := some 79, op := Op.move (Operand.tmp 78), type := 4, pos := "law.go:27", after := #[{ on := 16, ground := Ground.data }, { on := 13, ground := Ground.chain }], guard := none } : Oper)) (v := ?_) rfl (by kernel_rfl) (by kernel_rfl) (by kernel_rfl) (fun _ _ _ h => h) (Or.inl ⟨by rfl, ?_⟩) hS ?_
  rotate_left
  · (intro w hSw; (try dsimp only at hSw); go_simp; try with_reducible rfl)
  (try simp only [Act.put, List.setIfInBounds_toArray, List.set_cons_zero, List.set_cons_succ])
  refine rg_one 18 ({ dst := some 80, op := Op.call { callee := Callee.value (Operand.func 10), args := #[], argTypes := #[] }, type := 4, pos := "law.go:27", after := #[{ on := 17, ground := Ground.chain }, { on := 17, ground := Ground.guard }], guard := some (17, true) } : Oper) (by kernel_rfl) rfl (fun K hK => ?_)
  go_simp
  (go_at_call 10; (refine (awake_any (HT.out.keep hS.2.below)).mono ?_); rintro r w10 ⟨rfl, hb⟩)
  refine hK.out _ _ ?_ (fun hS1 => ?_)
  · (first | exact hS | exact ⟨hS.1.keep hb, hS.2.next hb⟩)
  clear hK K hS; have hS := hS1; clear hS1
  (try simp only [Act.put, List.setIfInBounds_toArray, List.set_cons_zero, List.set_cons_succ])
  refine wpAnyH_take (i := 19) (oi := ({ dst := some 81, op := Op.pick (Operand.tmp 79) (Operand.tmp 80) (Operand.const (Value.bool false)), type := 4, pos := "law.go:27", after := #[{ on := 17, ground := Ground.data }, { on := 18, ground := Ground.data }], guard := none } : Oper)) (v := ?_) rfl (by kernel_rfl) (by kernel_rfl) (by kernel_rfl) (fun _ _ _ h => h) (Or.inl ⟨by rfl, ?_⟩) hS ?_
  rotate_left
  · (intro w hSw; (try dsimp only at hSw); go_simp; try with_reducible rfl)
  (try simp only [Act.put, List.setIfInBounds_toArray, List.set_cons_zero, List.set_cons_succ])
  refine wpAnyH_take (i := 20) (oi := ({ dst := some 4, op := Op.assign (Operand.tmp 81), type := 4, pos := "law.go:27", after := #[{ on := 19, ground := Ground.data }, { on := 18, ground := Ground.chain }, { on := 0, ground := Ground.phase }, { on := 1, ground := Ground.phase }, { on := 2, ground := Ground.phase }, { on := 3, ground := Ground.phase }, { on := 4, ground := Ground.phase }, { on := 5, ground := Ground.phase }, { on := 6, ground := Ground.phase }, { on := 7, ground := Ground.phase }, { on := 8, ground := Ground.phase }, { on := 9, ground := Ground.phase }, { on := 10, ground := Ground.phase }, { on := 11, ground := Ground.phase }, { on := 12, ground := Ground.phase }, { on := 13, ground := Ground.phase }, { on := 14, ground := Ground.phase }, { on := 15, ground := Ground.phase }, { on := 16, ground := Ground.phase }, { on := 17, ground := Ground.phase }, { on := 18, ground := Ground.phase }, { on := 19, ground := Ground.phase }], guard := none } : Oper)) (v := ?_) rfl (by kernel_rfl) (by kernel_rfl) (by kernel_rfl) (fun _ _ _ h => h) (Or.inl ⟨by rfl, ?_⟩) hS ?_
  rotate_left
  · (intro w hSw; (try dsimp only at hSw); go_simp; try with_reducible rfl)
  (try simp only [Act.put, List.setIfInBounds_toArray, List.set_cons_zero, List.set_cons_succ])
  refine wpAnyH_done (by kernel_rfl) ?_ _
  have HE9 := Lib.hid hS.2
  clear hS
  go_wp2
  go_ret
  exact ⟨rfl, HE9.out.below⟩
set_option maxRecDepth 8000 in
set_option maxHeartbeats 4000000 in
theorem encodes_right_below (e s f e' s' f' : Int) (l l' : List Int) (ht : HdT ⟨e, s, f, l⟩) (hg : HdT ⟨e', s', f', l'⟩) (hk : hdOk ⟨e, s, f, l⟩ = true) (w : World) (hT : Tab w) (n1 : ¬ e' < e) (n2 : ¬ e = e') :
    Calls Tryd.prog 3 #[.agg (hv ⟨e, s, f, l⟩), .agg (hv ⟨e', s', f', l'⟩)] w fun r w' => r = .returned (.bool true) ∧ Below w.heap.size w w' := by
  obtain ⟨w0, hw0⟩ : ∃ q, (w.alloc (.cells (hv ⟨e, s, f, l⟩) 25)).alloc (.cells (hv ⟨e', s', f', l'⟩) 25) = q := ⟨_, rfl⟩
  have hs1 : (w.alloc (.cells (hv ⟨e, s, f, l⟩) 25)).heap.size = w.heap.size + 1 := alloc_size w _
  have HH := Lib.hid (show HB w0 w.heap.size ⟨e, s, f, l⟩ from by rw [← hw0]; exact (HB.new w _ ht.n).keep (balloc _ _))
  have HG := Lib.hid (show HB w0 (w.heap.size + 1) ⟨e', s', f', l'⟩ from by rw [← hw0, ← hs1]; exact HB.new _ _ hg.n)
  have HW := Lib.hid (show Below w.heap.size w w0 from by rw [← hw0]; exact bch (balloc w _) (balloc _ _))
  have HT := Lib.hid hT
  have HZ := Lib.hid z64_cells
  have HN := Lib.hid ht.n
  have HSN := Lib.hid (secH_length ht.n)
  have HR : Hid (∀ w, Calls Tryd.prog 7 #[.agg (hv ⟨e, s, f, l⟩)] w fun r w' => r = .returned (.bool true) ∧ Below w.heap.size w w') := Lib.hid fun w => by rw [← hk]; exact hright_any _ ht w
  have HRR : Hid (∀ w, Calls Tryd.prog 8 #[.agg (hv ⟨e, s, f, l⟩)] w fun r w' => r = .returned (.bool true) ∧ Below w.heap.size w w') := Lib.hid fun w => by rw [← hk]; exact rright_any _ ht w
  have HNW : Hid (∀ w, Calls Tryd.prog 9 #[.agg (hv ⟨e, s, f, l⟩), .agg (hv ⟨e', s', f', l'⟩)] w fun r w' => r = .returned (.bool false) ∧ Below w.heap.size w w') := Lib.hid fun w => (newer_any _ _ ht hg w).mono fun _ _ ⟨q1, q2⟩ => ⟨q1.trans (ret_bool (by simp [n1, n2])), q2⟩
  have HE : Hid (∀ w, Tab w → Calls Tryd.prog 6 #[.agg (hv ⟨e, s, f, l⟩)] w fun r w' => r = .returned (.tuple #[.agg (sv (secH ⟨e, s, f, l⟩)), .int .i64 0]) ∧ Below w.heap.size w w') := Lib.hid fun w q => henc_ok _ ht hk w q
  have HD : Hid (∀ w, Tab w → Calls Tryd.prog 11 #[.agg (sv (secH ⟨e, s, f, l⟩))] w fun r w' => r = .returned (.tuple #[.agg (hv ⟨e, s, f, l⟩), .int .i64 0]) ∧ Below w.heap.size w w') := Lib.hid fun w q => hdec_any _ (secH_length ht.n) (secH_bytes _) w q (hd_got ht hk)
  have HSC : Hid (∀ w, Calls Tryd.prog 12 #[.agg (hv ⟨e, s, f, l⟩)] w fun r w' => r = .returned (.agg (sv (secH ⟨e, s, f, l⟩))) ∧ Below w.heap.size w w') := Lib.hid fun w => rsector_any _ ht hk w
  have d13 : decide (e' < e) = false := decide_eq_false n1
  have d19 : (e == e') = false := by simpa using n2
  clear ht hg hk hT hs1
  go_enter Tryd.func3, Tryd.ntmps3
  go_wp2_with (first
    | (go_at_call 6; (with_reducible refine (HE.out _ (HT.out.keep HW.out)).mono ?_); rintro r w1 ⟨rfl, hb1⟩; have HB1 := Lib.hid hb1; clear hb1)
    | (rw [← HZ.out]; refine wpl_put_sec rfl (.tmp 5) (.tmp 12) rfl w1.heap.size z64 (secH ⟨e, s, f, l⟩) (Blk.new w1 z64 z64_length) HSN.out rfl rfl ?_; intro w2 HC2 HG2; have HX2 := Lib.hid (bch HB1.out (new_below HG2.out)); have HES : Hid (ES w ⟨e, s, f, l⟩ ⟨e', s', f', l'⟩ w1.heap.size (secH ⟨e, s, f, l⟩) w2) := Lib.hid ⟨bch HW.out HX2.out, HH.out.keep HX2.out, HG.out.keep HX2.out, HC2.out⟩)
    | (refine wpl_load_hd (by rfl) (.tmp 2) rfl rfl HH.out ?_))
  go_wp2_with fail
  refine wp_region_held_drew (S := (fun w' => w'.cell? ⟨w.heap.size, 0, none⟩ = some (.int .u64 e) ∧ w'.cell? ⟨w.heap.size, 1, none⟩ = some (.int .i64 s) ∧ w'.cell? ⟨w.heap.size + 1, 0, none⟩ = some (.int .u64 e') ∧ w'.cell? ⟨w.heap.size + 1, 1, none⟩ = some (.int .i64 s') ∧ ES w ⟨e, s, f, l⟩ ⟨e', s', f', l'⟩ w1.heap.size (secH ⟨e, s, f, l⟩) w')) (by kernel_rfl) (ES.all (HES.out.next (Below.refl _ _).drew)) (fun hS => ?_)
  refine wpAnyH_take (i := 0) (oi := ({ dst := some 14, op := Op.load 25 (Operand.tmp 2), type := 25, pos := "law.go:20", after := #[], guard := none } : Oper)) (v := ?_) rfl (by kernel_rfl) (by kernel_rfl) (by kernel_rfl) (fun _ _ _ h => h) (Or.inl ⟨by rfl, ?_⟩) hS ?_
  rotate_left
  · (intro w hSw; (try dsimp only at hSw); refine exec_load_hd (.tmp 2) ?_ ?_ hSw.2.2.2.2.hh <;> rfl)
  (try simp only [Act.put, List.setIfInBounds_toArray, List.set_cons_zero, List.set_cons_succ])
  refine wpAnyH_take (i := 2) (oi := ({ dst := some 16, op := Op.load 25 (Operand.tmp 2), type := 25, pos := "law.go:20", after := #[], guard := none } : Oper)) (v := ?_) rfl (by kernel_rfl) (by kernel_rfl) (by kernel_rfl) (fun _ _ _ h => h) (Or.inl ⟨by rfl, ?_⟩) hS ?_
  rotate_left
  · (intro w hSw; (try dsimp only at hSw); refine exec_load_hd (.tmp 2) ?_ ?_ hSw.2.2.2.2.hh <;> rfl)
  (try simp only [Act.put, List.setIfInBounds_toArray, List.set_cons_zero, List.set_cons_succ])
  refine rg_one 1 ({ dst := some 15, op := Op.call { callee := Callee.value (Operand.func 7), args := #[Operand.tmp 14], argTypes := #[25] }, type := 4, pos := "law.go:20", after := #[{ on := 0, ground := Ground.data }], guard := none } : Oper) (by kernel_rfl) rfl (fun K hK => ?_)
  go_simp
  (go_at_call 7; (refine (HR.out _).mono ?_); rintro r w3 ⟨rfl, hb⟩)
  refine hK.out _ _ ?_ (fun hS1 => ?_)
  · (first | exact hS | exact ES.all (hS.2.2.2.2.next hb))
  clear hK K hS; have hS := hS1; clear hS1
  (try simp only [Act.put, List.setIfInBounds_toArray, List.set_cons_zero, List.set_cons_succ])
  refine rg_one 3 ({ dst := some 17, op := Op.call { callee := Callee.value (Operand.func 8), args := #[Operand.tmp 16], argTypes := #[25] }, type := 4, pos := "law.go:20", after := #[{ on := 2, ground := Ground.data }, { on := 1, ground := Ground.chain }], guard := none } : Oper) (by kernel_rfl) rfl (fun K hK => ?_)
  go_simp
  (go_at_call 8; (refine (HRR.out _).mono ?_); rintro r w4 ⟨rfl, hb⟩)
  refine hK.out _ _ ?_ (fun hS1 => ?_)
  · (first | exact hS | exact ES.all (hS.2.2.2.2.next hb))
  clear hK K hS; have hS := hS1; clear hS1
  (try simp only [Act.put, List.setIfInBounds_toArray, List.set_cons_zero, List.set_cons_succ])
  refine wpAnyH_take (i := 4) (oi := ({ dst := some 18, op := Op.binOp BinOp.neq 4 (Operand.tmp 15) (Operand.tmp 17) 4, type := 4, pos := "law.go:20", after := #[{ on := 1, ground := Ground.data }, { on := 3, ground := Ground.data }], guard := none } : Oper)) (v := ?_) rfl (by kernel_rfl) (by kernel_rfl) (by kernel_rfl) (fun _ _ _ h => h) (Or.inl ⟨by rfl, ?_⟩) hS ?_
  rotate_left
  · (intro w hSw; (try dsimp only at hSw); go_simp; try with_reducible rfl)
  (try simp only [Act.put, List.setIfInBounds_toArray, List.set_cons_zero, List.set_cons_succ])
  refine wpAnyH_take (i := 5) (oi := ({ dst := some 19, op := Op.move (Operand.tmp 18), type := 4, pos := "law.go:20", after := #[{ on := 4, ground := Ground.data }, { on := 3, ground := Ground.chain }], guard := none } : Oper)) (v := ?_) rfl (by kernel_rfl) (by kernel_rfl) (by kernel_rfl) (fun _ _ _ h => h) (Or.inl ⟨by rfl, ?_⟩) hS ?_
  rotate_left
  · (intro w hSw; (try dsimp only at hSw); go_simp; try with_reducible rfl)
  (try simp only [Act.put, List.setIfInBounds_toArray, List.set_cons_zero, List.set_cons_succ])
  refine wpAnyH_take (i := 6) (oi := ({ dst := some 20, op := Op.load 25 (Operand.tmp 2), type := 25, pos := "law.go:20", after := #[{ on := 5, ground := Ground.guard }], guard := some (5, false) } : Oper)) (v := ?_) rfl (by kernel_rfl) (by kernel_rfl) (by kernel_rfl) (fun _ _ _ h => h) (Or.inl ⟨by rfl, ?_⟩) hS ?_
  rotate_left
  · (intro w hSw; (try dsimp only at hSw); refine exec_load_hd (.tmp 2) ?_ ?_ hSw.2.2.2.2.hh <;> rfl)
  (try simp only [Act.put, List.setIfInBounds_toArray, List.set_cons_zero, List.set_cons_succ])
  refine wpAnyH_take (i := 7) (oi := ({ dst := some 21, op := Op.load 25 (Operand.tmp 3), type := 25, pos := "law.go:20", after := #[{ on := 5, ground := Ground.guard }], guard := some (5, false) } : Oper)) (v := ?_) rfl (by kernel_rfl) (by kernel_rfl) (by kernel_rfl) (fun _ _ _ h => h) (Or.inl ⟨by rfl, ?_⟩) hS ?_
  rotate_left
  · (intro w hSw; (try dsimp only at hSw); refine exec_load_hd (.tmp 3) ?_ ?_ hSw.2.2.2.2.hg <;> rfl)
  (try simp only [Act.put, List.setIfInBounds_toArray, List.set_cons_zero, List.set_cons_succ])
  refine wpAnyH_take (i := 9) (oi := ({ dst := some 23, op := Op.fieldAddr 25 (Operand.tmp 2) 0, type := 0, pos := "law.go:20", after := #[{ on := 5, ground := Ground.guard }], guard := some (5, false) } : Oper)) (v := ?_) rfl (by kernel_rfl) (by kernel_rfl) (by kernel_rfl) (fun _ _ _ h => h) (Or.inl ⟨by rfl, ?_⟩) hS ?_
  rotate_left
  · (intro w hSw; (try dsimp only at hSw); go_simp; try with_reducible rfl)
  (try simp only [Act.put, List.setIfInBounds_toArray, List.set_cons_zero, List.set_cons_succ])
  refine wpAnyH_take (i := 10) (oi := ({ dst := some 24, op := Op.load 22 (Operand.tmp 23), type := 22, pos := "law.go:20", after := #[{ on := 9, ground := Ground.data }, { on := 5, ground := Ground.guard }], guard := some (5, false) } : Oper)) (v := ?_) rfl (by kernel_rfl) (by kernel_rfl) (by kernel_rfl) (fun _ _ _ h => h) (Or.inl ⟨by rfl, ?_⟩) hS ?_
  rotate_left
  · (intro w hSw; (try dsimp only at hSw); go_simp; try with_reducible rfl)
  (try simp only [Act.put, List.setIfInBounds_toArray, List.set_cons_zero, List.set_cons_succ])
  refine wpAnyH_take (i := 11) (oi := ({ dst := some 25, op := Op.fieldAddr 25 (Operand.tmp 3) 0, type := 0, pos := "law.go:20", after := #[{ on := 5, ground := Ground.guard }], guard := some (5, false) } : Oper)) (v := ?_) rfl (by kernel_rfl) (by kernel_rfl) (by kernel_rfl) (fun _ _ _ h => h) (Or.inl ⟨by rfl, ?_⟩) hS ?_
  rotate_left
  · (intro w hSw; (try dsimp only at hSw); go_simp; try with_reducible rfl)
  (try simp only [Act.put, List.setIfInBounds_toArray, List.set_cons_zero, List.set_cons_succ])
  refine wpAnyH_take (i := 12) (oi := ({ dst := some 26, op := Op.load 22 (Operand.tmp 25), type := 22, pos := "law.go:20", after := #[{ on := 11, ground := Ground.data }, { on := 5, ground := Ground.guard }], guard := some (5, false) } : Oper)) (v := ?_) rfl (by kernel_rfl) (by kernel_rfl) (by kernel_rfl) (fun _ _ _ h => h) (Or.inl ⟨by rfl, ?_⟩) hS ?_
  rotate_left
  · (intro w hSw; (try dsimp only at hSw); go_simp; try with_reducible rfl)
  (try simp only [Act.put, List.setIfInBounds_toArray, List.set_cons_zero, List.set_cons_succ])
  refine wpAnyH_take (i := 13) (oi := ({ dst := some 27, op := Op.binOp BinOp.gtr 22 (Operand.tmp 24) (Operand.tmp 26) 22, type := 4, pos := "law.go:20", after := #[{ on := 10, ground := Ground.data }, { on := 12, ground := Ground.data }, { on := 5, ground := Ground.guard }], guard := some (5, false) } : Oper)) (v := .bool false) rfl (by kernel_rfl) (by kernel_rfl) (by kernel_rfl) (fun _ _ _ h => h) (Or.inl ⟨by rfl, ?_⟩) hS ?_
  · (intro w hSw; (try dsimp only at hSw); go_simp)
  (try simp only [Act.put, List.setIfInBounds_toArray, List.set_cons_zero, List.set_cons_succ])
  refine rg_one 8 ({ dst := some 22, op := Op.call { callee := Callee.value (Operand.func 9), args := #[Operand.tmp 20, Operand.tmp 21], argTypes := #[25, 25] }, type := 4, pos := "law.go:20", after := #[{ on := 6, ground := Ground.data }, { on := 7, ground := Ground.data }, { on := 5, ground := Ground.chain }, { on := 5, ground := Ground.guard }], guard := some (5, false) } : Oper) (by kernel_rfl) rfl (fun K hK => ?_)
  go_simp
  (go_at_call 9; (refine (HNW.out _).mono ?_); rintro r w5 ⟨rfl, hb⟩)
  refine hK.out _ _ ?_ (fun hS1 => ?_)
  · (first | exact hS | exact ES.all (hS.2.2.2.2.next hb))
  clear hK K hS; have hS := hS1; clear hS1
  (try simp only [Act.put, List.setIfInBounds_toArray, List.set_cons_zero, List.set_cons_succ])
  refine wpAnyH_take (i := 14) (oi := ({ dst := some 28, op := Op.move (Operand.tmp 27), type := 4, pos := "law.go:20", after := #[{ on := 13, ground := Ground.data }, { on := 8, ground := Ground.chain }, { on := 5, ground := Ground.guard }], guard := some (5, false) } : Oper)) (v := ?_) rfl (by kernel_rfl) (by kernel_rfl) (by kernel_rfl) (fun _ _ _ h => h) (Or.inl ⟨by rfl, ?_⟩) hS ?_
  rotate_left
  · (intro w hSw; (try dsimp only at hSw); go_simp; try with_reducible rfl)
  (try simp only [Act.put, List.setIfInBounds_toArray, List.set_cons_zero, List.set_cons_succ])
  refine wpAnyH_take (i := 15) (oi := ({ dst := some 29, op := Op.fieldAddr 25 (Operand.tmp 2) 0, type := 0, pos := "law.go:20", after := #[{ on := 14, ground := Ground.guard }], guard := some (14, false) } : Oper)) (v := ?_) rfl (by kernel_rfl) (by kernel_rfl) (by kernel_rfl) (fun _ _ _ h => h) (Or.inl ⟨by rfl, ?_⟩) hS ?_
  rotate_left
  · (intro w hSw; (try dsimp only at hSw); go_simp; try with_reducible rfl)
  (try simp only [Act.put, List.setIfInBounds_toArray, List.set_cons_zero, List.set_cons_succ])
  refine wpAnyH_take (i := 16) (oi := ({ dst := some 30, op := Op.load 22 (Operand.tmp 29), type := 22, pos := "law.go:20", after := #[{ on := 15, ground := Ground.data }, { on := 14, ground := Ground.guard }], guard := some (14, false) } : Oper)) (v := ?_) rfl (by kernel_rfl) (by kernel_rfl) (by kernel_rfl) (fun _ _ _ h => h) (Or.inl ⟨by rfl, ?_⟩) hS ?_
  rotate_left
  · (intro w hSw; (try dsimp only at hSw); go_simp; try with_reducible rfl)
  (try simp only [Act.put, List.setIfInBounds_toArray, List.set_cons_zero, List.set_cons_succ])
  refine wpAnyH_take (i := 17) (oi := ({ dst := some 31, op := Op.fieldAddr 25 (Operand.tmp 3) 0, type := 0, pos := "law.go:20", after := #[{ on := 14, ground := Ground.guard }], guard := some (14, false) } : Oper)) (v := ?_) rfl (by kernel_rfl) (by kernel_rfl) (by kernel_rfl) (fun _ _ _ h => h) (Or.inl ⟨by rfl, ?_⟩) hS ?_
  rotate_left
  · (intro w hSw; (try dsimp only at hSw); go_simp; try with_reducible rfl)
  (try simp only [Act.put, List.setIfInBounds_toArray, List.set_cons_zero, List.set_cons_succ])
  refine wpAnyH_take (i := 18) (oi := ({ dst := some 32, op := Op.load 22 (Operand.tmp 31), type := 22, pos := "law.go:20", after := #[{ on := 17, ground := Ground.data }, { on := 14, ground := Ground.guard }], guard := some (14, false) } : Oper)) (v := ?_) rfl (by kernel_rfl) (by kernel_rfl) (by kernel_rfl) (fun _ _ _ h => h) (Or.inl ⟨by rfl, ?_⟩) hS ?_
  rotate_left
  · (intro w hSw; (try dsimp only at hSw); go_simp; try with_reducible rfl)
  (try simp only [Act.put, List.setIfInBounds_toArray, List.set_cons_zero, List.set_cons_succ])
  refine wpAnyH_take (i := 19) (oi := ({ dst := some 33, op := Op.binOp BinOp.eql 22 (Operand.tmp 30) (Operand.tmp 32) 22, type := 4, pos := "law.go:20", after := #[{ on := 16, ground := Ground.data }, { on := 18, ground := Ground.data }, { on := 14, ground := Ground.guard }], guard := some (14, false) } : Oper)) (v := .bool false) rfl (by kernel_rfl) (by kernel_rfl) (by kernel_rfl) (fun _ _ _ h => h) (Or.inl ⟨by rfl, ?_⟩) hS ?_
  · (intro w hSw; (try dsimp only at hSw); go_simp)
  (try simp only [Act.put, List.setIfInBounds_toArray, List.set_cons_zero, List.set_cons_succ])
  refine wpAnyH_take (i := 20) (oi := ({ dst := some 34, op := Op.move (Operand.tmp 33), type := 4, pos := "law.go:20", after := #[{ on := 19, ground := Ground.data }, { on := 14, ground := Ground.chain }, { on := 14, ground := Ground.guard }], guard := some (14, false) } : Oper)) (v := ?_) rfl (by kernel_rfl) (by kernel_rfl) (by kernel_rfl) (fun _ _ _ h => h) (Or.inl ⟨by rfl, ?_⟩) hS ?_
  rotate_left
  · (intro w hSw; (try dsimp only at hSw); go_simp; try with_reducible rfl)
  (try simp only [Act.put, List.setIfInBounds_toArray, List.set_cons_zero, List.set_cons_succ])
  refine wpAnyH_take (i := 21) (oi := ({ dst := some 35, op := Op.fieldAddr 25 (Operand.tmp 2) 1, type := 0, pos := "law.go:20", after := #[{ on := 20, ground := Ground.guard }], guard := some (20, true) } : Oper)) (v := undef) rfl (by kernel_rfl) (by kernel_rfl) (by kernel_rfl) (fun _ _ _ h => h) (Or.inr ⟨by rfl, rfl⟩) hS ?_
  (try simp only [Act.put, List.setIfInBounds_toArray, List.set_cons_zero, List.set_cons_succ])
  refine wpAnyH_take (i := 22) (oi := ({ dst := some 36, op := Op.load 3 (Operand.tmp 35), type := 3, pos := "law.go:20", after := #[{ on := 21, ground := Ground.data }, { on := 20, ground := Ground.guard }], guard := some (20, true) } : Oper)) (v := undef) rfl (by kernel_rfl) (by kernel_rfl) (by kernel_rfl) (fun _ _ _ h => h) (Or.inr ⟨by rfl, rfl⟩) hS ?_
  (try simp only [Act.put, List.setIfInBounds_toArray, List.set_cons_zero, List.set_cons_succ])
  refine wpAnyH_take (i := 23) (oi := ({ dst := some 37, op := Op.fieldAddr 25 (Operand.tmp 3) 1, type := 0, pos := "law.go:20", after := #[{ on := 20, ground := Ground.guard }], guard := some (20, true) } : Oper)) (v := undef) rfl (by kernel_rfl) (by kernel_rfl) (by kernel_rfl) (fun _ _ _ h => h) (Or.inr ⟨by rfl, rfl⟩) hS ?_
  (try simp only [Act.put, List.setIfInBounds_toArray, List.set_cons_zero, List.set_cons_succ])
  refine wpAnyH_take (i := 24) (oi := ({ dst := some 38, op := Op.load 3 (Operand.tmp 37), type := 3, pos := "law.go:20", after := #[{ on := 23, ground := Ground.data }, { on := 20, ground := Ground.guard }], guard := some (20, true) } : Oper)) (v := undef) rfl (by kernel_rfl) (by kernel_rfl) (by kernel_rfl) (fun _ _ _ h => h) (Or.inr ⟨by rfl, rfl⟩) hS ?_
  (try simp only [Act.put, List.setIfInBounds_toArray, List.set_cons_zero, List.set_cons_succ])
  refine wpAnyH_take (i := 25) (oi := ({ dst := some 39, op := Op.binOp BinOp.gtr 3 (Operand.tmp 36) (Operand.tmp 38) 3, type := 4, pos := "law.go:20", after := #[{ on := 22, ground := Ground.data }, { on := 24, ground := Ground.data }, { on := 20, ground := Ground.guard }], guard := some (20, true) } : Oper)) (v := undef) rfl (by kernel_rfl) (by kernel_rfl) (by kernel_rfl) (fun _ _ _ h => h) (Or.inr ⟨by rfl, rfl⟩) hS ?_
  (try simp only [Act.put, List.setIfInBounds_toArray, List.set_cons_zero, List.set_cons_succ])
  refine wpAnyH_take (i := 26) (oi := ({ dst := some 40, op := Op.pick (Operand.tmp 34) (Operand.tmp 39) (Operand.const (Value.bool false)), type := 4, pos := "law.go:20", after := #[{ on := 20, ground := Ground.data }, { on := 25, ground := Ground.data }, { on := 14, ground := Ground.guard }], guard := some (14, false) } : Oper)) (v := ?_) rfl (by kernel_rfl) (by kernel_rfl) (by kernel_rfl) (fun _ _ _ h => h) (Or.inl ⟨by rfl, ?_⟩) hS ?_
  rotate_left
  · (intro w hSw; (try dsimp only at hSw); go_simp; try with_reducible rfl)
  (try simp only [Act.put, List.setIfInBounds_toArray, List.set_cons_zero, List.set_cons_succ])
  refine wpAnyH_take (i := 27) (oi := ({ dst := some 41, op := Op.pick (Operand.tmp 28) (Operand.const (Value.bool true)) (Operand.tmp 40), type := 4, pos := "law.go:20", after := #[{ on := 14, ground := Ground.data }, { on := 26, ground := Ground.data }, { on := 5, ground := Ground.guard }], guard := some (5, false) } : Oper)) (v := ?_) rfl (by kernel_rfl) (by kernel_rfl) (by kernel_rfl) (fun _ _ _ h => h) (Or.inl ⟨by rfl, ?_⟩) hS ?_
  rotate_left
  · (intro w hSw; (try dsimp only at hSw); go_simp; try with_reducible rfl)
  (try simp only [Act.put, List.setIfInBounds_toArray, List.set_cons_zero, List.set_cons_succ])
  refine wpAnyH_take (i := 28) (oi := ({ dst := some 42, op := Op.binOp BinOp.neq 4 (Operand.tmp 22) (Operand.tmp 41) 4, type := 4, pos := "law.go:20", after := #[{ on := 8, ground := Ground.data }, { on := 27, ground := Ground.data }, { on := 5, ground := Ground.guard }], guard := some (5, false) } : Oper)) (v := ?_) rfl (by kernel_rfl) (by kernel_rfl) (by kernel_rfl) (fun _ _ _ h => h) (Or.inl ⟨by rfl, ?_⟩) hS ?_
  rotate_left
  · (intro w hSw; (try dsimp only at hSw); go_simp; try with_reducible rfl)
  (try simp only [Act.put, List.setIfInBounds_toArray, List.set_cons_zero, List.set_cons_succ])
  refine wpAnyH_take (i := 29) (oi := ({ dst := some 43, op := Op.pick (Operand.tmp 19) (Operand.const (Value.bool true)) (Operand.tmp 42), type := 4, pos := "law.go:20", after := #[{ on := 5, ground := Ground.data }, { on := 28, ground := Ground.data }], guard := none } : Oper)) (v := ?_) rfl (by kernel_rfl) (by kernel_rfl) (by kernel_rfl) (fun _ _ _ h => h) (Or.inl ⟨by rfl, ?_⟩) hS ?_
  rotate_left
  · (intro w hSw; (try dsimp only at hSw); go_simp; try with_reducible rfl)
  (try simp only [Act.put, List.setIfInBounds_toArray, List.set_cons_zero, List.set_cons_succ])
  refine wpAnyH_done (by kernel_rfl) ?_ _
  have HE5 := Lib.hid hS.2.2.2.2
  clear hS
  go_wp2_with (first
    | (go_at_call 8; (with_reducible refine (HRR.out _).mono ?_); rintro r w6 ⟨rfl, hb6⟩; have HE6 := Lib.hid (HE5.out.next hb6); clear hb6)
    | (refine wpl_load_hd (by rfl) (.tmp 2) rfl rfl HE5.out.hh ?_)
    | (refine wpl_load_sec (by rfl) (.tmp 5) rfl w1.heap.size rfl (secH ⟨e, s, f, l⟩) HE6.out.sec ?_)
    | (go_at_call 11; (with_reducible refine (HD.out _ (HT.out.keep HE6.out.below)).mono ?_); rintro r w7 ⟨rfl, hb7⟩; have HE7 := Lib.hid (HE6.out.next hb7); clear hb7)
    | (refine wpl_put_hd rfl (.tmp 7) (.tmp 60) rfl w7.heap.size noH ⟨e, s, f, l⟩ (HB.new w7 noH rfl) HN.out rfl rfl ?_; intro w8 HA8 HG8; have HE8 := Lib.hid (HE7.out.next (new_below HG8.out))))
  go_wp2_with fail
  refine wp_region_held_drew (S := (fun w' => HB w' w7.heap.size ⟨e, s, f, l⟩ ∧ ES w ⟨e, s, f, l⟩ ⟨e', s', f', l'⟩ w1.heap.size (secH ⟨e, s, f, l⟩) w')) (by kernel_rfl) ⟨HA8.out, HE8.out.next (Below.refl _ _).drew⟩ (fun hS => ?_)
  refine wpAnyH_take (i := 0) (oi := ({ dst := some 62, op := Op.move (Operand.tmp 6), type := 28, pos := "law.go:27", after := #[], guard := none } : Oper)) (v := ?_) rfl (by kernel_rfl) (by kernel_rfl) (by kernel_rfl) (fun _ _ _ h => h) (Or.inl ⟨by rfl, ?_⟩) hS ?_
  rotate_left
  · (intro w hSw; (try dsimp only at hSw); go_simp; try with_reducible rfl)
  (try simp only [Act.put, List.setIfInBounds_toArray, List.set_cons_zero, List.set_cons_succ])
  refine wpAnyH_take (i := 1) (oi := ({ dst := some 63, op := Op.binOp BinOp.eql 28 (Operand.tmp 62) (Operand.const (Value.int IntKind.i64 0)) 28, type := 4, pos := "law.go:27", after := #[{ on := 0, ground := Ground.data }], guard := none } : Oper)) (v := ?_) rfl (by kernel_rfl) (by kernel_rfl) (by kernel_rfl) (fun _ _ _ h => h) (Or.inl ⟨by rfl, ?_⟩) hS ?_
  rotate_left
  · (intro w hSw; (try dsimp only at hSw); go_simp; try with_reducible rfl)
  (try simp only [Act.put, List.setIfInBounds_toArray, List.set_cons_zero, List.set_cons_succ])
  refine wpAnyH_take (i := 2) (oi := ({ dst := some 64, op := Op.move (Operand.tmp 63), type := 4, pos := "law.go:27", after := #[{ on := 1, ground := Ground.data }], guard := none } : Oper)) (v := ?_) rfl (by kernel_rfl) (by kernel_rfl) (by kernel_rfl) (fun _ _ _ h => h) (Or.inl ⟨by rfl, ?_⟩) hS ?_
  rotate_left
  · (intro w hSw; (try dsimp only at hSw); go_simp; try with_reducible rfl)
  (try simp only [Act.put, List.setIfInBounds_toArray, List.set_cons_zero, List.set_cons_succ])
  refine wpAnyH_take (i := 3) (oi := ({ dst := some 65, op := Op.load 27 (Operand.tmp 5), type := 27, pos := "law.go:27", after := #[{ on := 2, ground := Ground.guard }], guard := some (2, true) } : Oper)) (v := ?_) rfl (by kernel_rfl) (by kernel_rfl) (by kernel_rfl) (fun _ _ _ h => h) (Or.inl ⟨by rfl, ?_⟩) hS ?_
  rotate_left
  · (intro w hSw; (try dsimp only at hSw); refine exec_load_sec (.tmp 5) ?_ ?_ hSw.2.sec <;> rfl)
  (try simp only [Act.put, List.setIfInBounds_toArray, List.set_cons_zero, List.set_cons_succ])
  refine wpAnyH_take (i := 4) (oi := ({ dst := some 66, op := Op.load 25 (Operand.tmp 2), type := 25, pos := "law.go:27", after := #[{ on := 2, ground := Ground.guard }], guard := some (2, true) } : Oper)) (v := ?_) rfl (by kernel_rfl) (by kernel_rfl) (by kernel_rfl) (fun _ _ _ h => h) (Or.inl ⟨by rfl, ?_⟩) hS ?_
  rotate_left
  · (intro w hSw; (try dsimp only at hSw); refine exec_load_hd (.tmp 2) ?_ ?_ hSw.2.hh <;> rfl)
  (try simp only [Act.put, List.setIfInBounds_toArray, List.set_cons_zero, List.set_cons_succ])
  refine rg_one 5 ({ dst := some 67, op := Op.call { callee := Callee.value (Operand.func 12), args := #[Operand.tmp 66], argTypes := #[25] }, type := 27, pos := "law.go:27", after := #[{ on := 4, ground := Ground.data }, { on := 2, ground := Ground.chain }, { on := 2, ground := Ground.guard }], guard := some (2, true) } : Oper) (by kernel_rfl) rfl (fun K hK => ?_)
  go_simp
  (go_at_call 12; (refine (HSC.out _).mono ?_); rintro r w9 ⟨rfl, hb⟩)
  refine hK.out _ _ ?_ (fun hS1 => ?_)
  · (first | exact hS | exact ⟨hS.1.keep hb, hS.2.next hb⟩)
  clear hK K hS; have hS := hS1; clear hS1
  (try simp only [Act.put, List.setIfInBounds_toArray, List.set_cons_zero, List.set_cons_succ])
  refine wpAnyH_take (i := 6) (oi := ({ dst := some 68, op := Op.binOp BinOp.eql 27 (Operand.tmp 65) (Operand.tmp 67) 27, type := 4, pos := "law.go:27", after := #[{ on := 3, ground := Ground.data }, { on := 5, ground := Ground.data }, { on := 2, ground := Ground.guard }], guard := some (2, true) } : Oper)) (v := .bool true) rfl (by kernel_rfl) (by kernel_rfl) (by kernel_rfl) (fun _ _ _ h => h) (Or.inl ⟨by rfl, ?_⟩) hS ?_
  · (intro w hSw; (try dsimp only at hSw); exact (exec_eq_sec (secH ⟨e, s, f, l⟩) (secH ⟨e, s, f, l⟩) HSN.out HSN.out (.tmp 65) (.tmp 67) _ rfl rfl rfl).trans (by simp))
  (try simp only [Act.put, List.setIfInBounds_toArray, List.set_cons_zero, List.set_cons_succ])
  refine wpAnyH_take (i := 7) (oi := ({ dst := some 69, op := Op.pick (Operand.tmp 64) (Operand.tmp 68) (Operand.const (Value.bool false)), type := 4, pos := "law.go:27", after := #[{ on := 2, ground := Ground.data }, { on := 6, ground := Ground.data }], guard := none } : Oper)) (v := ?_) rfl (by kernel_rfl) (by kernel_rfl) (by kernel_rfl) (fun _ _ _ h => h) (Or.inl ⟨by rfl, ?_⟩) hS ?_
  rotate_left
  · (intro w hSw; (try dsimp only at hSw); go_simp; try with_reducible rfl)
  (try simp only [Act.put, List.setIfInBounds_toArray, List.set_cons_zero, List.set_cons_succ])
  refine wpAnyH_take (i := 8) (oi := ({ dst := some 70, op := Op.move (Operand.tmp 69), type := 4, pos := "law.go:27", after := #[{ on := 7, ground := Ground.data }, { on := 5, ground := Ground.chain }], guard := none } : Oper)) (v := ?_) rfl (by kernel_rfl) (by kernel_rfl) (by kernel_rfl) (fun _ _ _ h => h) (Or.inl ⟨by rfl, ?_⟩) hS ?_
  rotate_left
  · (intro w hSw; (try dsimp only at hSw); go_simp; try with_reducible rfl)
  (try simp only [Act.put, List.setIfInBounds_toArray, List.set_cons_zero, List.set_cons_succ])
  refine wpAnyH_take (i := 9) (oi := ({ dst := some 71, op := Op.load 25 (Operand.tmp 7), type := 25, pos := "law.go:27", after := #[{ on := 8, ground := Ground.guard }], guard := some (8, true) } : Oper)) (v := ?_) rfl (by kernel_rfl) (by kernel_rfl) (by kernel_rfl) (fun _ _ _ h => h) (Or.inl ⟨by rfl, ?_⟩) hS ?_
  rotate_left
  · (intro w hSw; (try dsimp only at hSw); refine exec_load_hd (.tmp 7) ?_ ?_ hSw.1 <;> rfl)
  (try simp only [Act.put, List.setIfInBounds_toArray, List.set_cons_zero, List.set_cons_succ])
  refine wpAnyH_take (i := 10) (oi := ({ dst := some 72, op := Op.load 25 (Operand.tmp 2), type := 25, pos := "law.go:27", after := #[{ on := 8, ground := Ground.guard }], guard := some (8, true) } : Oper)) (v := ?_) rfl (by kernel_rfl) (by kernel_rfl) (by kernel_rfl) (fun _ _ _ h => h) (Or.inl ⟨by rfl, ?_⟩) hS ?_
  rotate_left
  · (intro w hSw; (try dsimp only at hSw); refine exec_load_hd (.tmp 2) ?_ ?_ hSw.2.hh <;> rfl)
  (try simp only [Act.put, List.setIfInBounds_toArray, List.set_cons_zero, List.set_cons_succ])
  refine wpAnyH_take (i := 11) (oi := ({ dst := some 73, op := Op.binOp BinOp.eql 25 (Operand.tmp 71) (Operand.tmp 72) 25, type := 4, pos := "law.go:27", after := #[{ on := 9, ground := Ground.data }, { on := 10, ground := Ground.data }, { on := 8, ground := Ground.guard }], guard := some (8, true) } : Oper)) (v := .bool true) rfl (by kernel_rfl) (by kernel_rfl) (by kernel_rfl) (fun _ _ _ h => h) (Or.inl ⟨by rfl, ?_⟩) hS ?_
  · (intro w hSw; (try dsimp only at hSw); exact (exec_eq_hd HN.out HN.out (.tmp 71) (.tmp 72) _ rfl rfl rfl).trans (by simp))
  (try simp only [Act.put, List.setIfInBounds_toArray, List.set_cons_zero, List.set_cons_succ])
  refine wpAnyH_take (i := 12) (oi := ({ dst := some 74, op := Op.pick (Operand.tmp 70) (Operand.tmp 73) (Operand.const (Value.bool false)), type := 4, pos := "law.go:27", after := #[{ on := 8, ground := Ground.data }, { on := 11, ground := Ground.data }], guard := none } : Oper)) (v := ?_) rfl (by kernel_rfl) (by kernel_rfl) (by kernel_rfl) (fun _ _ _ h => h) (Or.inl ⟨by rfl, ?_⟩) hS ?_
  rotate_left
  · (intro w hSw; (try dsimp only at hSw); go_simp; try with_reducible rfl)
  (try simp only [Act.put, List.setIfInBounds_toArray, List.set_cons_zero, List.set_cons_succ])
  refine wpAnyH_take (i := 13) (oi := ({ dst := some 75, op := Op.move (Operand.tmp 74), type := 4, pos := "law.go:27", after := #[{ on := 12, ground := Ground.data }, { on := 8, ground := Ground.chain }], guard := none } : Oper)) (v := ?_) rfl (by kernel_rfl) (by kernel_rfl) (by kernel_rfl) (fun _ _ _ h => h) (Or.inl ⟨by rfl, ?_⟩) hS ?_
  rotate_left
  · (intro w hSw; (try dsimp only at hSw); go_simp; try with_reducible rfl)
  (try simp only [Act.put, List.setIfInBounds_toArray, List.set_cons_zero, List.set_cons_succ])
  refine wpAnyH_take (i := 14) (oi := ({ dst := some 76, op := Op.move (Operand.tmp 8), type := 28, pos := "law.go:27", after := #[{ on := 13, ground := Ground.guard }], guard := some (13, true) } : Oper)) (v := ?_) rfl (by kernel_rfl) (by kernel_rfl) (by kernel_rfl) (fun _ _ _ h => h) (Or.inl ⟨by rfl, ?_⟩) hS ?_
  rotate_left
  · (intro w hSw; (try dsimp only at hSw); go_simp; try with_reducible rfl)
  (try simp only [Act.put, List.setIfInBounds_toArray, List.set_cons_zero, List.set_cons_succ])
  refine wpAnyH_take (i := 15) (oi := ({ dst := some 77, op := Op.binOp BinOp.eql 28 (Operand.tmp 76) (Operand.const (Value.int IntKind.i64 0)) 28, type := 4, pos := "law.go:27", after := #[{ on := 14, ground := Ground.data }, { on := 13, ground := Ground.guard }], guard := some (13, true) } : Oper)) (v := ?_) rfl (by kernel_rfl) (by kernel_rfl) (by kernel_rfl) (fun _ _ _ h => h) (Or.inl ⟨by rfl, ?_⟩) hS ?_
  rotate_left
  · (intro w hSw; (try dsimp only at hSw); go_simp; try with_reducible rfl)
  (try simp only [Act.put, List.setIfInBounds_toArray, List.set_cons_zero, List.set_cons_succ])
  refine wpAnyH_take (i := 16) (oi := ({ dst := some 78, op := Op.pick (Operand.tmp 75) (Operand.tmp 77) (Operand.const (Value.bool false)), type := 4, pos := "law.go:27", after := #[{ on := 13, ground := Ground.data }, { on := 15, ground := Ground.data }], guard := none } : Oper)) (v := ?_) rfl (by kernel_rfl) (by kernel_rfl) (by kernel_rfl) (fun _ _ _ h => h) (Or.inl ⟨by rfl, ?_⟩) hS ?_
  rotate_left
  · (intro w hSw; (try dsimp only at hSw); go_simp; try with_reducible rfl)
  (try simp only [Act.put, List.setIfInBounds_toArray, List.set_cons_zero, List.set_cons_succ])
  refine wpAnyH_take (i := 17) (oi := ({ dst := some 79, op := Op.move (Operand.tmp 78), type := 4, pos := "law.go:27", after := #[{ on := 16, ground := Ground.data }, { on := 13, ground := Ground.chain }], guard := none } : Oper)) (v := ?_) rfl (by kernel_rfl) (by kernel_rfl) (by kernel_rfl) (fun _ _ _ h => h) (Or.inl ⟨by rfl, ?_⟩) hS ?_
  rotate_left
  · (intro w hSw; (try dsimp only at hSw); go_simp; try with_reducible rfl)
  (try simp only [Act.put, List.setIfInBounds_toArray, List.set_cons_zero, List.set_cons_succ])
  refine rg_one 18 ({ dst := some 80, op := Op.call { callee := Callee.value (Operand.func 10), args := #[], argTypes := #[] }, type := 4, pos := "law.go:27", after := #[{ on := 17, ground := Ground.chain }, { on := 17, ground := Ground.guard }], guard := some (17, true) } : Oper) (by kernel_rfl) rfl (fun K hK => ?_)
  go_simp
  (go_at_call 10; (refine (awake_any (HT.out.keep hS.2.below)).mono ?_); rintro r w10 ⟨rfl, hb⟩)
  refine hK.out _ _ ?_ (fun hS1 => ?_)
  · (first | exact hS | exact ⟨hS.1.keep hb, hS.2.next hb⟩)
  clear hK K hS; have hS := hS1; clear hS1
  (try simp only [Act.put, List.setIfInBounds_toArray, List.set_cons_zero, List.set_cons_succ])
  refine wpAnyH_take (i := 19) (oi := ({ dst := some 81, op := Op.pick (Operand.tmp 79) (Operand.tmp 80) (Operand.const (Value.bool false)), type := 4, pos := "law.go:27", after := #[{ on := 17, ground := Ground.data }, { on := 18, ground := Ground.data }], guard := none } : Oper)) (v := ?_) rfl (by kernel_rfl) (by kernel_rfl) (by kernel_rfl) (fun _ _ _ h => h) (Or.inl ⟨by rfl, ?_⟩) hS ?_
  rotate_left
  · (intro w hSw; (try dsimp only at hSw); go_simp; try with_reducible rfl)
  (try simp only [Act.put, List.setIfInBounds_toArray, List.set_cons_zero, List.set_cons_succ])
  refine wpAnyH_take (i := 20) (oi := ({ dst := some 4, op := Op.assign (Operand.tmp 81), type := 4, pos := "law.go:27", after := #[{ on := 19, ground := Ground.data }, { on := 18, ground := Ground.chain }, { on := 0, ground := Ground.phase }, { on := 1, ground := Ground.phase }, { on := 2, ground := Ground.phase }, { on := 3, ground := Ground.phase }, { on := 4, ground := Ground.phase }, { on := 5, ground := Ground.phase }, { on := 6, ground := Ground.phase }, { on := 7, ground := Ground.phase }, { on := 8, ground := Ground.phase }, { on := 9, ground := Ground.phase }, { on := 10, ground := Ground.phase }, { on := 11, ground := Ground.phase }, { on := 12, ground := Ground.phase }, { on := 13, ground := Ground.phase }, { on := 14, ground := Ground.phase }, { on := 15, ground := Ground.phase }, { on := 16, ground := Ground.phase }, { on := 17, ground := Ground.phase }, { on := 18, ground := Ground.phase }, { on := 19, ground := Ground.phase }], guard := none } : Oper)) (v := ?_) rfl (by kernel_rfl) (by kernel_rfl) (by kernel_rfl) (fun _ _ _ h => h) (Or.inl ⟨by rfl, ?_⟩) hS ?_
  rotate_left
  · (intro w hSw; (try dsimp only at hSw); go_simp; try with_reducible rfl)
  (try simp only [Act.put, List.setIfInBounds_toArray, List.set_cons_zero, List.set_cons_succ])
  refine wpAnyH_done (by kernel_rfl) ?_ _
  have HE9 := Lib.hid hS.2
  clear hS
  go_wp2
  go_ret
  exact ⟨rfl, HE9.out.below⟩
theorem encodes_walk (h g : Hdr) (ht : HdT h) (hg : HdT g) (w : World) (hT : Tab w) :
    Calls Tryd.prog 3 #[.agg (hv h), .agg (hv g)] w fun r w' => r = .returned (.bool true) ∧ Below w.heap.size w w' := by
  obtain ⟨e, s, f, l⟩ := h
  obtain ⟨e', s', f', l'⟩ := g
  cases hk : hdOk ⟨e, s, f, l⟩ with
  | false =>
    by_cases n1 : e' < e
    · exact encodes_wrong_above e s f e' s' f' l l' ht hg hk w hT n1
    · by_cases n2 : e = e'
      · by_cases n3 : s' < s
        · exact encodes_wrong_later e s f e' s' f' l l' ht hg hk w hT n1 n2 n3
        · exact encodes_wrong_same e s f e' s' f' l l' ht hg hk w hT n1 n2 n3
      · exact encodes_wrong_below e s f e' s' f' l l' ht hg hk w hT n1 n2
  | true =>
    by_cases n1 : e' < e
    · exact encodes_right_above e s f e' s' f' l l' ht hg hk w hT n1
    · by_cases n2 : e = e'
      · by_cases n3 : s' < s
        · exact encodes_right_later e s f e' s' f' l l' ht hg hk w hT n1 n2 n3
        · exact encodes_right_same e s f e' s' f' l l' ht hg hk w hT n1 n2 n3
      · exact encodes_right_below e s f e' s' f' l l' ht hg hk w hT n1 n2
end Go.Proofs.YtncnmmillhnhlaaDoor
