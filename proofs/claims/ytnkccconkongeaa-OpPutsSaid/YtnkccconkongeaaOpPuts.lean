/-
  THE WALK OF THE LAW OpPuts: whatever bytes, operation and rest come in (within the form's own reach): the call returns true and changes nothing that was there. Over the contracts OpSays.
-/
import Derived.Test.YtnkccconkongeaaOpGets
namespace Go.Proofs.Ytnkccconkongeaa
open Go.RowKit
theorem exec_load_ob {o : Oper} {a : Act} {w : World} {b : Nat} {k : Int} {s t : ByteArray} (x : Operand) (ho : o.op = .load 24 x) (hx : a.eval x = .pointer (some ⟨b, 0, none⟩)) (h : OB w b k s t) :
    (execOp a.eval o).run Try.prog w = .ok (.value (.agg (oA k s t))) w := by
  unfold execOp
  simp only [ho, hx, Instr.loadAt, Instr.sureAddr, Sem.run_bind, Sem.run_pure, Result.andThen_ok, h.load]
set_option maxRecDepth 8000 in
set_option maxHeartbeats 4000000 in
theorem puts_wrong (H : OpSays) (a : Option Addr) (len cap : Nat) (zs : List Int) (k : Int) (s t : ByteArray) (rv : Value) (W : World) (hri : RI .u8 W (.slice a len cap) len zs) (hlen : (len : Int) ≤ 140737488351232) (hrt : opRight k s t = false) :
    Calls Try.prog 3 #[.slice a len cap, .agg (oA k s t), rv] W fun e w' => e = .returned (.bool true) ∧ Below W.heap.size W w' := by
  have HH := Lib.hid H
  have hO0 : OB (W.alloc (.cells (oA k s t) 24)) W.heap.size k s t := heap_alloc_last W _
  have hB0 := balloc W (.cells (oA k s t) 24)
  have HO0 := Lib.hid hO0
  have HB0 := Lib.hid hB0
  have HP : Hid (∀ w, RI .u8 w (.slice a len cap) len zs → Calls Try.prog 6 #[.slice a len cap, .agg (oA k s t)] w fun e w' => e = .returned (.tuple #[.slice none 0 0, .int .i64 13]) ∧ Below w.heap.size w w') := Lib.hid fun w h => H.wrong _ len zs k s t w h (by omega) hrt
  have H1 : Hid (∀ w, Calls Try.prog 7 #[.agg (oA k s t)] w fun e w' => e = .returned (.bool false) ∧ Below w.heap.size w w') := Lib.hid fun w => by rw [← hrt]; exact H.right k s t w
  have H2 : Hid (∀ w, Calls Try.prog 8 #[.agg (oA k s t)] w fun e w' => e = .returned (.bool false) ∧ Below w.heap.size w w') := Lib.hid fun w => by rw [← hrt]; exact roright_any k s t w
  have HR0 := Lib.hid (hri.keep hB0)
  clear H hO0 hB0 hri hlen hrt
  go_enter Try.func3, Try.ntmps3
  go_wp2_with (first
    | (refine load_ob rfl (.tmp 4) rfl rfl HO0.out ?_)
    | (go_at_call 6; (with_reducible refine (HP.out _ HR0.out).mono ?_); rintro e w1 ⟨rfl, hb1⟩; have HO1 := Lib.hid (HO0.out.keep hb1); have HB1 := Lib.hid (bch HB0.out hb1); clear hb1))
  refine wp_region_held_drew (S := (fun w' => OB w' W.heap.size k s t ∧ Below W.heap.size W w')) (by kernel_rfl) ⟨HO1.out.keep ((Below.refl _ _).drew), HB1.out.trans (((Below.refl _ _).drew).mono HB1.out.size)⟩ (fun hS => ?_)
  refine wpAnyH_take (i := 0) (oi := ({ dst := some 18, op := Op.load 24 (Operand.tmp 4), type := 24, pos := "law.go:19", after := #[], guard := none } : Oper)) (v := .agg (oA k s t)) rfl (by kernel_rfl) (by kernel_rfl) (by kernel_rfl) (fun _ _ _ h => h) (Or.inl ⟨by rfl, ?_⟩) hS ?_
  · (intro w hSw; (try dsimp only at hSw); exact exec_load_ob (.tmp 4) rfl rfl hSw.1)
  (try simp only [Act.put, List.setIfInBounds_toArray, List.set_cons_zero, List.set_cons_succ])
  refine wpAnyH_take (i := 2) (oi := ({ dst := some 20, op := Op.load 24 (Operand.tmp 4), type := 24, pos := "law.go:19", after := #[], guard := none } : Oper)) (v := .agg (oA k s t)) rfl (by kernel_rfl) (by kernel_rfl) (by kernel_rfl) (fun _ _ _ h => h) (Or.inl ⟨by rfl, ?_⟩) hS ?_
  · (intro w hSw; (try dsimp only at hSw); exact exec_load_ob (.tmp 4) rfl rfl hSw.1)
  (try simp only [Act.put, List.setIfInBounds_toArray, List.set_cons_zero, List.set_cons_succ])
  refine rg_one 1 ({ dst := some 19, op := Op.call { callee := Callee.value (Operand.func 7), args := #[Operand.tmp 18], argTypes := #[24] }, type := 4, pos := "law.go:19", after := #[{ on := 0, ground := Ground.data }], guard := none } : Oper) (by kernel_rfl) rfl (fun K hK => ?_)
  go_simp
  (go_at_call 7; (with_reducible refine (H1.out _).mono ?_); rintro e w2 ⟨rfl, hb⟩)
  refine hK.out _ _ ?_ (fun hS1 => ?_)
  · (first | exact hS | exact ⟨hS.1.keep hb, bch hS.2 hb⟩)
  clear hK K hS; have hS := hS1; clear hS1
  (try simp only [Act.put, List.setIfInBounds_toArray, List.set_cons_zero, List.set_cons_succ])
  refine rg_one 3 ({ dst := some 21, op := Op.call { callee := Callee.value (Operand.func 8), args := #[Operand.tmp 20], argTypes := #[24] }, type := 4, pos := "law.go:19", after := #[{ on := 2, ground := Ground.data }, { on := 1, ground := Ground.chain }], guard := none } : Oper) (by kernel_rfl) rfl (fun K hK => ?_)
  go_simp
  (go_at_call 8; (with_reducible refine (H2.out _).mono ?_); rintro e w3 ⟨rfl, hb⟩)
  refine hK.out _ _ ?_ (fun hS1 => ?_)
  · (first | exact hS | exact ⟨hS.1.keep hb, bch hS.2 hb⟩)
  clear hK K hS; have hS := hS1; clear hS1
  (try simp only [Act.put, List.setIfInBounds_toArray, List.set_cons_zero, List.set_cons_succ])
  refine wpAnyH_take (i := 4) (oi := ({ dst := some 22, op := Op.binOp BinOp.neq 4 (Operand.tmp 19) (Operand.tmp 21) 4, type := 4, pos := "law.go:19", after := #[{ on := 1, ground := Ground.data }, { on := 3, ground := Ground.data }], guard := none } : Oper)) (v := ?_) rfl (by kernel_rfl) (by kernel_rfl) (by kernel_rfl) (fun _ _ _ h => h) (Or.inl ⟨by rfl, ?_⟩) hS ?_
  rotate_left
  · (intro w hSw; (try dsimp only at hSw); go_simp; try with_reducible rfl)
  (try simp only [Act.put, List.setIfInBounds_toArray, List.set_cons_zero, List.set_cons_succ])
  refine wpAnyH_take (i := 5) (oi := ({ dst := some 23, op := Op.move (Operand.tmp 22), type := 4, pos := "law.go:19", after := #[{ on := 4, ground := Ground.data }, { on := 3, ground := Ground.chain }], guard := none } : Oper)) (v := ?_) rfl (by kernel_rfl) (by kernel_rfl) (by kernel_rfl) (fun _ _ _ h => h) (Or.inl ⟨by rfl, ?_⟩) hS ?_
  rotate_left
  · (intro w hSw; (try dsimp only at hSw); go_simp; try with_reducible rfl)
  (try simp only [Act.put, List.setIfInBounds_toArray, List.set_cons_zero, List.set_cons_succ])
  refine wpAnyH_take (i := 6) (oi := ({ dst := some 24, op := Op.load 24 (Operand.tmp 4), type := 24, pos := "law.go:19", after := #[{ on := 5, ground := Ground.guard }], guard := some (5, false) } : Oper)) (v := .agg (oA k s t)) rfl (by kernel_rfl) (by kernel_rfl) (by kernel_rfl) (fun _ _ _ h => h) (Or.inl ⟨by rfl, ?_⟩) hS ?_
  · (intro w hSw; (try dsimp only at hSw); exact exec_load_ob (.tmp 4) rfl rfl hSw.1)
  (try simp only [Act.put, List.setIfInBounds_toArray, List.set_cons_zero, List.set_cons_succ])
  refine rg_one 7 ({ dst := some 25, op := Op.call { callee := Callee.value (Operand.func 8), args := #[Operand.tmp 24], argTypes := #[24] }, type := 4, pos := "law.go:19", after := #[{ on := 6, ground := Ground.data }, { on := 5, ground := Ground.chain }, { on := 5, ground := Ground.guard }], guard := some (5, false) } : Oper) (by kernel_rfl) rfl (fun K hK => ?_)
  go_simp
  (go_at_call 8; (with_reducible refine (H2.out _).mono ?_); rintro e w4 ⟨rfl, hb⟩)
  refine hK.out _ _ ?_ (fun hS1 => ?_)
  · (first | exact hS | exact ⟨hS.1.keep hb, bch hS.2 hb⟩)
  clear hK K hS; have hS := hS1; clear hS1
  (try simp only [Act.put, List.setIfInBounds_toArray, List.set_cons_zero, List.set_cons_succ])
  refine wpAnyH_take (i := 8) (oi := ({ dst := some 26, op := Op.unOp UnOp.not 4 (Operand.tmp 25), type := 4, pos := "law.go:19", after := #[{ on := 7, ground := Ground.data }, { on := 5, ground := Ground.guard }], guard := some (5, false) } : Oper)) (v := ?_) rfl (by kernel_rfl) (by kernel_rfl) (by kernel_rfl) (fun _ _ _ h => h) (Or.inl ⟨by rfl, ?_⟩) hS ?_
  rotate_left
  · (intro w hSw; (try dsimp only at hSw); go_simp; try with_reducible rfl)
  (try simp only [Act.put, List.setIfInBounds_toArray, List.set_cons_zero, List.set_cons_succ])
  refine wpAnyH_take (i := 9) (oi := ({ dst := some 27, op := Op.pick (Operand.tmp 23) (Operand.const (Value.bool true)) (Operand.tmp 26), type := 4, pos := "law.go:19", after := #[{ on := 5, ground := Ground.data }, { on := 8, ground := Ground.data }], guard := none } : Oper)) (v := ?_) rfl (by kernel_rfl) (by kernel_rfl) (by kernel_rfl) (fun _ _ _ h => h) (Or.inl ⟨by rfl, ?_⟩) hS ?_
  rotate_left
  · (intro w hSw; (try dsimp only at hSw); go_simp; try with_reducible rfl)
  (try simp only [Act.put, List.setIfInBounds_toArray, List.set_cons_zero, List.set_cons_succ])
  refine wpAnyH_done (by kernel_rfl) ?_ _
  have HO5 := Lib.hid hS.1
  have HB5 := Lib.hid hS.2
  clear hS
  go_wp2
  refine wp_region_held_drew (S := (fun w' => OB w' W.heap.size k s t ∧ Below W.heap.size W w')) (by kernel_rfl) ⟨HO5.out.keep ((Below.refl _ _).drew), HB5.out.trans (((Below.refl _ _).drew).mono HB5.out.size)⟩ (fun hS => ?_)
  refine wpAnyH_take (i := 0) (oi := ({ dst := some 28, op := Op.load 24 (Operand.tmp 4), type := 24, pos := "law.go:20", after := #[], guard := none } : Oper)) (v := .agg (oA k s t)) rfl (by kernel_rfl) (by kernel_rfl) (by kernel_rfl) (fun _ _ _ h => h) (Or.inl ⟨by rfl, ?_⟩) hS ?_
  · (intro w hSw; (try dsimp only at hSw); exact exec_load_ob (.tmp 4) rfl rfl hSw.1)
  (try simp only [Act.put, List.setIfInBounds_toArray, List.set_cons_zero, List.set_cons_succ])
  refine wpAnyH_take (i := 2) (oi := ({ dst := some 30, op := Op.load 24 (Operand.tmp 4), type := 24, pos := "law.go:20", after := #[], guard := none } : Oper)) (v := .agg (oA k s t)) rfl (by kernel_rfl) (by kernel_rfl) (by kernel_rfl) (fun _ _ _ h => h) (Or.inl ⟨by rfl, ?_⟩) hS ?_
  · (intro w hSw; (try dsimp only at hSw); exact exec_load_ob (.tmp 4) rfl rfl hSw.1)
  (try simp only [Act.put, List.setIfInBounds_toArray, List.set_cons_zero, List.set_cons_succ])
  refine rg_one 1 ({ dst := some 29, op := Op.call { callee := Callee.value (Operand.func 7), args := #[Operand.tmp 28], argTypes := #[24] }, type := 4, pos := "law.go:20", after := #[{ on := 0, ground := Ground.data }], guard := none } : Oper) (by kernel_rfl) rfl (fun K hK => ?_)
  go_simp
  (go_at_call 7; (with_reducible refine (H1.out _).mono ?_); rintro e w6 ⟨rfl, hb⟩)
  refine hK.out _ _ ?_ (fun hS1 => ?_)
  · (first | exact hS | exact ⟨hS.1.keep hb, bch hS.2 hb⟩)
  clear hK K hS; have hS := hS1; clear hS1
  (try simp only [Act.put, List.setIfInBounds_toArray, List.set_cons_zero, List.set_cons_succ])
  refine rg_one 3 ({ dst := some 31, op := Op.call { callee := Callee.value (Operand.func 8), args := #[Operand.tmp 30], argTypes := #[24] }, type := 4, pos := "law.go:20", after := #[{ on := 2, ground := Ground.data }, { on := 1, ground := Ground.chain }], guard := none } : Oper) (by kernel_rfl) rfl (fun K hK => ?_)
  go_simp
  (go_at_call 8; (with_reducible refine (H2.out _).mono ?_); rintro e w7 ⟨rfl, hb⟩)
  refine hK.out _ _ ?_ (fun hS1 => ?_)
  · (first | exact hS | exact ⟨hS.1.keep hb, bch hS.2 hb⟩)
  clear hK K hS; have hS := hS1; clear hS1
  (try simp only [Act.put, List.setIfInBounds_toArray, List.set_cons_zero, List.set_cons_succ])
  refine wpAnyH_take (i := 4) (oi := ({ dst := some 32, op := Op.binOp BinOp.eql 4 (Operand.tmp 29) (Operand.tmp 31) 4, type := 4, pos := "law.go:20", after := #[{ on := 1, ground := Ground.data }, { on := 3, ground := Ground.data }], guard := none } : Oper)) (v := ?_) rfl (by kernel_rfl) (by kernel_rfl) (by kernel_rfl) (fun _ _ _ h => h) (Or.inl ⟨by rfl, ?_⟩) hS ?_
  rotate_left
  · (intro w hSw; (try dsimp only at hSw); go_simp; try with_reducible rfl)
  (try simp only [Act.put, List.setIfInBounds_toArray, List.set_cons_zero, List.set_cons_succ])
  refine wpAnyH_take (i := 5) (oi := ({ dst := some 33, op := Op.move (Operand.tmp 32), type := 4, pos := "law.go:20", after := #[{ on := 4, ground := Ground.data }, { on := 3, ground := Ground.chain }], guard := none } : Oper)) (v := ?_) rfl (by kernel_rfl) (by kernel_rfl) (by kernel_rfl) (fun _ _ _ h => h) (Or.inl ⟨by rfl, ?_⟩) hS ?_
  rotate_left
  · (intro w hSw; (try dsimp only at hSw); go_simp; try with_reducible rfl)
  (try simp only [Act.put, List.setIfInBounds_toArray, List.set_cons_zero, List.set_cons_succ])
  refine wpAnyH_take (i := 6) (oi := ({ dst := some 34, op := Op.move (Operand.tmp 8), type := 25, pos := "law.go:20", after := #[{ on := 5, ground := Ground.guard }], guard := some (5, true) } : Oper)) (v := ?_) rfl (by kernel_rfl) (by kernel_rfl) (by kernel_rfl) (fun _ _ _ h => h) (Or.inl ⟨by rfl, ?_⟩) hS ?_
  rotate_left
  · (intro w hSw; (try dsimp only at hSw); go_simp; try with_reducible rfl)
  (try simp only [Act.put, List.setIfInBounds_toArray, List.set_cons_zero, List.set_cons_succ])
  refine wpAnyH_take (i := 7) (oi := ({ dst := some 35, op := Op.binOp BinOp.eql 25 (Operand.tmp 34) (Operand.const (Value.int IntKind.i64 13)) 25, type := 4, pos := "law.go:20", after := #[{ on := 6, ground := Ground.data }, { on := 5, ground := Ground.guard }], guard := some (5, true) } : Oper)) (v := ?_) rfl (by kernel_rfl) (by kernel_rfl) (by kernel_rfl) (fun _ _ _ h => h) (Or.inl ⟨by rfl, ?_⟩) hS ?_
  rotate_left
  · (intro w hSw; (try dsimp only at hSw); go_simp; try with_reducible rfl)
  (try simp only [Act.put, List.setIfInBounds_toArray, List.set_cons_zero, List.set_cons_succ])
  refine wpAnyH_take (i := 8) (oi := ({ dst := some 36, op := Op.pick (Operand.tmp 33) (Operand.tmp 35) (Operand.const (Value.bool false)), type := 4, pos := "law.go:20", after := #[{ on := 5, ground := Ground.data }, { on := 7, ground := Ground.data }], guard := none } : Oper)) (v := ?_) rfl (by kernel_rfl) (by kernel_rfl) (by kernel_rfl) (fun _ _ _ h => h) (Or.inl ⟨by rfl, ?_⟩) hS ?_
  rotate_left
  · (intro w hSw; (try dsimp only at hSw); go_simp; try with_reducible rfl)
  (try simp only [Act.put, List.setIfInBounds_toArray, List.set_cons_zero, List.set_cons_succ])
  refine wpAnyH_take (i := 9) (oi := ({ dst := some 37, op := Op.move (Operand.tmp 36), type := 4, pos := "law.go:20", after := #[{ on := 8, ground := Ground.data }, { on := 5, ground := Ground.chain }], guard := none } : Oper)) (v := ?_) rfl (by kernel_rfl) (by kernel_rfl) (by kernel_rfl) (fun _ _ _ h => h) (Or.inl ⟨by rfl, ?_⟩) hS ?_
  rotate_left
  · (intro w hSw; (try dsimp only at hSw); go_simp; try with_reducible rfl)
  (try simp only [Act.put, List.setIfInBounds_toArray, List.set_cons_zero, List.set_cons_succ])
  refine wpAnyH_take (i := 10) (oi := ({ dst := some 38, op := Op.move (Operand.tmp 7), type := 22, pos := "law.go:20", after := #[{ on := 9, ground := Ground.guard }], guard := some (9, true) } : Oper)) (v := ?_) rfl (by kernel_rfl) (by kernel_rfl) (by kernel_rfl) (fun _ _ _ h => h) (Or.inl ⟨by rfl, ?_⟩) hS ?_
  rotate_left
  · (intro w hSw; (try dsimp only at hSw); go_simp; try with_reducible rfl)
  (try simp only [Act.put, List.setIfInBounds_toArray, List.set_cons_zero, List.set_cons_succ])
  refine wpAnyH_take (i := 11) (oi := ({ dst := some 39, op := Op.call { callee := Callee.builtin Builtin.len, args := #[Operand.tmp 38], argTypes := #[22] }, type := 3, pos := "law.go:20", after := #[{ on := 10, ground := Ground.data }, { on := 9, ground := Ground.guard }], guard := some (9, true) } : Oper)) (v := ?_) rfl (by kernel_rfl) (by kernel_rfl) (by kernel_rfl) (fun _ _ _ h => h) (Or.inl ⟨by rfl, ?_⟩) hS ?_
  rotate_left
  · (intro w hSw; (try dsimp only at hSw); go_simp; try with_reducible rfl)
  (try simp only [Act.put, List.setIfInBounds_toArray, List.set_cons_zero, List.set_cons_succ])
  refine wpAnyH_take (i := 12) (oi := ({ dst := some 40, op := Op.binOp BinOp.eql 3 (Operand.tmp 39) (Operand.const (Value.int IntKind.i64 0)) 3, type := 4, pos := "law.go:20", after := #[{ on := 11, ground := Ground.data }, { on := 9, ground := Ground.guard }], guard := some (9, true) } : Oper)) (v := ?_) rfl (by kernel_rfl) (by kernel_rfl) (by kernel_rfl) (fun _ _ _ h => h) (Or.inl ⟨by rfl, ?_⟩) hS ?_
  rotate_left
  · (intro w hSw; (try dsimp only at hSw); go_simp; try with_reducible rfl)
  (try simp only [Act.put, List.setIfInBounds_toArray, List.set_cons_zero, List.set_cons_succ])
  refine wpAnyH_take (i := 13) (oi := ({ dst := some 41, op := Op.pick (Operand.tmp 37) (Operand.tmp 40) (Operand.const (Value.bool false)), type := 4, pos := "law.go:20", after := #[{ on := 9, ground := Ground.data }, { on := 12, ground := Ground.data }], guard := none } : Oper)) (v := ?_) rfl (by kernel_rfl) (by kernel_rfl) (by kernel_rfl) (fun _ _ _ h => h) (Or.inl ⟨by rfl, ?_⟩) hS ?_
  rotate_left
  · (intro w hSw; (try dsimp only at hSw); go_simp; try with_reducible rfl)
  (try simp only [Act.put, List.setIfInBounds_toArray, List.set_cons_zero, List.set_cons_succ])
  refine wpAnyH_take (i := 14) (oi := ({ dst := some 42, op := Op.move (Operand.tmp 41), type := 4, pos := "law.go:20", after := #[{ on := 13, ground := Ground.data }, { on := 9, ground := Ground.chain }], guard := none } : Oper)) (v := ?_) rfl (by kernel_rfl) (by kernel_rfl) (by kernel_rfl) (fun _ _ _ h => h) (Or.inl ⟨by rfl, ?_⟩) hS ?_
  rotate_left
  · (intro w hSw; (try dsimp only at hSw); go_simp; try with_reducible rfl)
  (try simp only [Act.put, List.setIfInBounds_toArray, List.set_cons_zero, List.set_cons_succ])
  refine rg_one 15 ({ dst := some 43, op := Op.call { callee := Callee.value (Operand.func 9), args := #[], argTypes := #[] }, type := 4, pos := "law.go:20", after := #[{ on := 14, ground := Ground.chain }, { on := 14, ground := Ground.guard }], guard := some (14, true) } : Oper) (by kernel_rfl) rfl (fun K hK => ?_)
  go_simp
  (go_at_call 9; (with_reducible refine (awake_any HH.out _).mono ?_); rintro e w8 ⟨rfl, hb⟩)
  refine hK.out _ _ ?_ (fun hS1 => ?_)
  · (first | exact hS | exact ⟨hS.1.keep hb, bch hS.2 hb⟩)
  clear hK K hS; have hS := hS1; clear hS1
  (try simp only [Act.put, List.setIfInBounds_toArray, List.set_cons_zero, List.set_cons_succ])
  refine wpAnyH_take (i := 16) (oi := ({ dst := some 44, op := Op.pick (Operand.tmp 42) (Operand.tmp 43) (Operand.const (Value.bool false)), type := 4, pos := "law.go:20", after := #[{ on := 14, ground := Ground.data }, { on := 15, ground := Ground.data }], guard := none } : Oper)) (v := ?_) rfl (by kernel_rfl) (by kernel_rfl) (by kernel_rfl) (fun _ _ _ h => h) (Or.inl ⟨by rfl, ?_⟩) hS ?_
  rotate_left
  · (intro w hSw; (try dsimp only at hSw); go_simp; try with_reducible rfl)
  (try simp only [Act.put, List.setIfInBounds_toArray, List.set_cons_zero, List.set_cons_succ])
  refine wpAnyH_take (i := 17) (oi := ({ dst := some 6, op := Op.assign (Operand.tmp 44), type := 4, pos := "law.go:20", after := #[{ on := 16, ground := Ground.data }, { on := 15, ground := Ground.chain }, { on := 0, ground := Ground.phase }, { on := 1, ground := Ground.phase }, { on := 2, ground := Ground.phase }, { on := 3, ground := Ground.phase }, { on := 4, ground := Ground.phase }, { on := 5, ground := Ground.phase }, { on := 6, ground := Ground.phase }, { on := 7, ground := Ground.phase }, { on := 8, ground := Ground.phase }, { on := 9, ground := Ground.phase }, { on := 10, ground := Ground.phase }, { on := 11, ground := Ground.phase }, { on := 12, ground := Ground.phase }, { on := 13, ground := Ground.phase }, { on := 14, ground := Ground.phase }, { on := 15, ground := Ground.phase }, { on := 16, ground := Ground.phase }], guard := none } : Oper)) (v := ?_) rfl (by kernel_rfl) (by kernel_rfl) (by kernel_rfl) (fun _ _ _ h => h) (Or.inl ⟨by rfl, ?_⟩) hS ?_
  rotate_left
  · (intro w hSw; (try dsimp only at hSw); go_simp; try with_reducible rfl)
  (try simp only [Act.put, List.setIfInBounds_toArray, List.set_cons_zero, List.set_cons_succ])
  refine wpAnyH_done (by kernel_rfl) ?_ _
  have HB8 := Lib.hid hS.2
  clear hS
  go_wp2
  go_ret
  exact ⟨rfl, HB8.out⟩
set_option maxRecDepth 8000 in
set_option maxHeartbeats 4000000 in
theorem puts_right (H : OpSays) (a : Option Addr) (len cap : Nat) (zs : List Int) (k : Int) (s t : ByteArray) (a2 : Option Addr) (rl rc : Nat) (rs : List Int) (W : World) (hri : RI .u8 W (.slice a len cap) len zs) (hrs : RI .u8 W (.slice a2 rl rc) rl rs) (hrb : isB rs)
    (hlen : (len : Int) ≤ 140737488351232) (hrl : (rl : Int) ≤ 140737488351232) (hrt : opRight k s t = true) :
    Calls Try.prog 3 #[.slice a len cap, .agg (oA k s t), .slice a2 rl rc] W fun e w' => e = .returned (.bool true) ∧ Below W.heap.size W w' := by
  have HH := Lib.hid H
  have hO0 : OB (W.alloc (.cells (oA k s t) 24)) W.heap.size k s t := heap_alloc_last W _
  have hB0 := balloc W (.cells (oA k s t) 24)
  have HO0 := Lib.hid hO0
  have HB0 := Lib.hid hB0
  have hz := hri.length
  have hrz := hrs.length
  obtain ⟨m, hm⟩ : ∃ m, (opB k s t).length = m := ⟨_, rfl⟩
  have hm2 := opB_len hrt
  rw [hm] at hm2
  obtain ⟨n1, hn1⟩ : ∃ n, len + m = n := ⟨_, rfl⟩
  have hpb := opB_bytes hrt
  have hpr := right_parts hrt
  have HP : Hid (∀ w, RI .u8 w (.slice a len cap) len zs → Calls Try.prog 6 #[.slice a len cap, .agg (oA k s t)] w fun e w' => ∃ p c, e = .returned (.tuple #[.slice p n1 c, .int .i64 0]) ∧ RI .u8 w' (.slice p n1 c) n1 (zs ++ opB k s t) ∧ Below w.heap.size w w') := Lib.hid fun w h =>
    (H.put _ len zs k s t w h (by omega) hrt).mono fun _ _ ⟨v, he, ho, hb⟩ => by
      rw [show (zs ++ opB k s t).length = n1 from by simp [hm, hz, hn1]] at ho
      obtain ⟨p, c, rfl⟩ := own_form ho
      exact ⟨p, c, he, RI.own ho, hb⟩
  have H1 : Hid (∀ w, Calls Try.prog 7 #[.agg (oA k s t)] w fun e w' => e = .returned (.bool true) ∧ Below w.heap.size w w') := Lib.hid fun w => by rw [← hrt]; exact H.right k s t w
  have H2 : Hid (∀ w, Calls Try.prog 8 #[.agg (oA k s t)] w fun e w' => e = .returned (.bool true) ∧ Below w.heap.size w w') := Lib.hid fun w => by rw [← hrt]; exact roright_any k s t w
  have H3 : Hid (∀ w, Calls Try.prog 10 #[.agg (oA k s t)] w fun e w' => ∃ v, e = .returned v ∧ RI .u8 w' v m (opB k s t) ∧ Below w.heap.size w w') := Lib.hid fun w =>
    (robytes_any k s t w (by rcases hpr.2.2.2 with h | h; exact .inl h; exact .inr h.1) (by omega) (by omega)).mono fun _ _ ⟨v, he, ho, hb⟩ => ⟨v, he, by rw [hm] at ho; exact RI.own ho, hb⟩
  have H4 : Hid (∀ (v : Value) (w : World), RI .u8 w v (m + rl) (opB k s t ++ rs) → Calls Try.prog 11 #[v] w fun e w' => e = .returned (.tuple #[.agg (oA k s t), .int .i64 m, .int .i64 0]) ∧ Below w.heap.size w w') := Lib.hid fun v w h => by
    have := H.get v (m + rl) _ w h (isB.append hpb hrb) (by omega)
    rwa [op_got hrt rs, hm] at this
  obtain ⟨x, hx⟩ : ∃ x, strOfNums (zs ++ opB k s t) = x := ⟨_, rfl⟩
  obtain ⟨y, hy⟩ : ∃ y, strOfNums zs = y := ⟨_, rfl⟩
  obtain ⟨z, hzz⟩ : ∃ z, strOfNums (opB k s t) = z := ⟨_, rfl⟩
  have HADD : Hid (y ++ z = x) := Lib.hid (by rw [← hx, ← hy, ← hzz]; exact text_append _ _)
  have HYZ : Hid (y.size + z.size ≤ 9223372036854775807) := Lib.hid (by rw [← hy, ← hzz, show (strOfNums zs).size = zs.length from ls_size zs, show (strOfNums (opB k s t)).size = (opB k s t).length from ls_size _, hz, hm]; omega)
  have HX := Lib.hid hx
  have HY := Lib.hid hy
  have HZ := Lib.hid hzz
  have HM := Lib.hid hm2
  have HR0 := Lib.hid (hri.keep hB0)
  have HS0 := Lib.hid (hrs.keep hB0)
  have HLN := Lib.hid (And.intro hlen hrl)
  have HDR : Hid ((zs ++ opB k s t).drop len = opB k s t ∧ n1 - len = m ∧ len + m = n1) := Lib.hid ⟨by rw [← hz]; exact List.drop_left, by omega, hn1⟩
  have hsub : wrap64 ((n1 : Int) - (len : Int)) = (m : Int) := by rw [IntWalk.wrap64_in _ (by omega)]; omega
  have hln : (len : Int) ≤ (n1 : Int) := by omega
  have HSUB := Lib.hid hsub
  clear H hO0 hB0 hri hrs hrt hpr hpb hrb hx hy hzz hm hm2 hz hrz hlen hrl hn1 hsub
  go_enter Try.func3, Try.ntmps3
  go_wp2_with (first
    | (refine load_ob rfl (.tmp 4) rfl rfl HO0.out ?_)
    | (go_at_call 6; (with_reducible refine (HP.out _ HR0.out).mono ?_); rintro e w1 ⟨p1, c1, rfl, hr1, hb1⟩; have HO1 := Lib.hid (HO0.out.keep hb1); have HB1 := Lib.hid (bch HB0.out hb1); have HR1 := Lib.hid (And.intro hr1 (And.intro (HR0.out.keep hb1) (HS0.out.keep hb1))); clear hb1 hr1))
  refine wp_region_held_drew (S := (fun w' => OB w' W.heap.size k s t ∧ Below w1.heap.size w1 w')) (by kernel_rfl) ⟨HO1.out.keep ((Below.refl _ _).drew), (Below.refl _ _).drew⟩ (fun hS => ?_)
  refine wpAnyH_take (i := 0) (oi := ({ dst := some 18, op := Op.load 24 (Operand.tmp 4), type := 24, pos := "law.go:19", after := #[], guard := none } : Oper)) (v := .agg (oA k s t)) rfl (by kernel_rfl) (by kernel_rfl) (by kernel_rfl) (fun _ _ _ h => h) (Or.inl ⟨by rfl, ?_⟩) hS ?_
  · (intro w hSw; (try dsimp only at hSw); exact exec_load_ob (.tmp 4) rfl rfl hSw.1)
  (try simp only [Act.put, List.setIfInBounds_toArray, List.set_cons_zero, List.set_cons_succ])
  refine wpAnyH_take (i := 2) (oi := ({ dst := some 20, op := Op.load 24 (Operand.tmp 4), type := 24, pos := "law.go:19", after := #[], guard := none } : Oper)) (v := .agg (oA k s t)) rfl (by kernel_rfl) (by kernel_rfl) (by kernel_rfl) (fun _ _ _ h => h) (Or.inl ⟨by rfl, ?_⟩) hS ?_
  · (intro w hSw; (try dsimp only at hSw); exact exec_load_ob (.tmp 4) rfl rfl hSw.1)
  (try simp only [Act.put, List.setIfInBounds_toArray, List.set_cons_zero, List.set_cons_succ])
  refine rg_one 1 ({ dst := some 19, op := Op.call { callee := Callee.value (Operand.func 7), args := #[Operand.tmp 18], argTypes := #[24] }, type := 4, pos := "law.go:19", after := #[{ on := 0, ground := Ground.data }], guard := none } : Oper) (by kernel_rfl) rfl (fun K hK => ?_)
  go_simp
  (go_at_call 7; (with_reducible refine (H1.out _).mono ?_); rintro e w2 ⟨rfl, hb⟩)
  refine hK.out _ _ ?_ (fun hS1 => ?_)
  · (first | exact hS | exact ⟨hS.1.keep hb, bch hS.2 hb⟩)
  clear hK K hS; have hS := hS1; clear hS1
  (try simp only [Act.put, List.setIfInBounds_toArray, List.set_cons_zero, List.set_cons_succ])
  refine rg_one 3 ({ dst := some 21, op := Op.call { callee := Callee.value (Operand.func 8), args := #[Operand.tmp 20], argTypes := #[24] }, type := 4, pos := "law.go:19", after := #[{ on := 2, ground := Ground.data }, { on := 1, ground := Ground.chain }], guard := none } : Oper) (by kernel_rfl) rfl (fun K hK => ?_)
  go_simp
  (go_at_call 8; (with_reducible refine (H2.out _).mono ?_); rintro e w3 ⟨rfl, hb⟩)
  refine hK.out _ _ ?_ (fun hS1 => ?_)
  · (first | exact hS | exact ⟨hS.1.keep hb, bch hS.2 hb⟩)
  clear hK K hS; have hS := hS1; clear hS1
  (try simp only [Act.put, List.setIfInBounds_toArray, List.set_cons_zero, List.set_cons_succ])
  refine wpAnyH_take (i := 4) (oi := ({ dst := some 22, op := Op.binOp BinOp.neq 4 (Operand.tmp 19) (Operand.tmp 21) 4, type := 4, pos := "law.go:19", after := #[{ on := 1, ground := Ground.data }, { on := 3, ground := Ground.data }], guard := none } : Oper)) (v := ?_) rfl (by kernel_rfl) (by kernel_rfl) (by kernel_rfl) (fun _ _ _ h => h) (Or.inl ⟨by rfl, ?_⟩) hS ?_
  rotate_left
  · (intro w hSw; (try dsimp only at hSw); go_simp; try with_reducible rfl)
  (try simp only [Act.put, List.setIfInBounds_toArray, List.set_cons_zero, List.set_cons_succ])
  refine wpAnyH_take (i := 5) (oi := ({ dst := some 23, op := Op.move (Operand.tmp 22), type := 4, pos := "law.go:19", after := #[{ on := 4, ground := Ground.data }, { on := 3, ground := Ground.chain }], guard := none } : Oper)) (v := ?_) rfl (by kernel_rfl) (by kernel_rfl) (by kernel_rfl) (fun _ _ _ h => h) (Or.inl ⟨by rfl, ?_⟩) hS ?_
  rotate_left
  · (intro w hSw; (try dsimp only at hSw); go_simp; try with_reducible rfl)
  (try simp only [Act.put, List.setIfInBounds_toArray, List.set_cons_zero, List.set_cons_succ])
  refine wpAnyH_take (i := 6) (oi := ({ dst := some 24, op := Op.load 24 (Operand.tmp 4), type := 24, pos := "law.go:19", after := #[{ on := 5, ground := Ground.guard }], guard := some (5, false) } : Oper)) (v := .agg (oA k s t)) rfl (by kernel_rfl) (by kernel_rfl) (by kernel_rfl) (fun _ _ _ h => h) (Or.inl ⟨by rfl, ?_⟩) hS ?_
  · (intro w hSw; (try dsimp only at hSw); exact exec_load_ob (.tmp 4) rfl rfl hSw.1)
  (try simp only [Act.put, List.setIfInBounds_toArray, List.set_cons_zero, List.set_cons_succ])
  refine rg_one 7 ({ dst := some 25, op := Op.call { callee := Callee.value (Operand.func 8), args := #[Operand.tmp 24], argTypes := #[24] }, type := 4, pos := "law.go:19", after := #[{ on := 6, ground := Ground.data }, { on := 5, ground := Ground.chain }, { on := 5, ground := Ground.guard }], guard := some (5, false) } : Oper) (by kernel_rfl) rfl (fun K hK => ?_)
  go_simp
  (go_at_call 8; (with_reducible refine (H2.out _).mono ?_); rintro e w4 ⟨rfl, hb⟩)
  refine hK.out _ _ ?_ (fun hS1 => ?_)
  · (first | exact hS | exact ⟨hS.1.keep hb, bch hS.2 hb⟩)
  clear hK K hS; have hS := hS1; clear hS1
  (try simp only [Act.put, List.setIfInBounds_toArray, List.set_cons_zero, List.set_cons_succ])
  refine wpAnyH_take (i := 8) (oi := ({ dst := some 26, op := Op.unOp UnOp.not 4 (Operand.tmp 25), type := 4, pos := "law.go:19", after := #[{ on := 7, ground := Ground.data }, { on := 5, ground := Ground.guard }], guard := some (5, false) } : Oper)) (v := ?_) rfl (by kernel_rfl) (by kernel_rfl) (by kernel_rfl) (fun _ _ _ h => h) (Or.inl ⟨by rfl, ?_⟩) hS ?_
  rotate_left
  · (intro w hSw; (try dsimp only at hSw); go_simp; try with_reducible rfl)
  (try simp only [Act.put, List.setIfInBounds_toArray, List.set_cons_zero, List.set_cons_succ])
  refine wpAnyH_take (i := 9) (oi := ({ dst := some 27, op := Op.pick (Operand.tmp 23) (Operand.const (Value.bool true)) (Operand.tmp 26), type := 4, pos := "law.go:19", after := #[{ on := 5, ground := Ground.data }, { on := 8, ground := Ground.data }], guard := none } : Oper)) (v := ?_) rfl (by kernel_rfl) (by kernel_rfl) (by kernel_rfl) (fun _ _ _ h => h) (Or.inl ⟨by rfl, ?_⟩) hS ?_
  rotate_left
  · (intro w hSw; (try dsimp only at hSw); go_simp; try with_reducible rfl)
  (try simp only [Act.put, List.setIfInBounds_toArray, List.set_cons_zero, List.set_cons_succ])
  refine wpAnyH_done (by kernel_rfl) ?_ _
  have HO5 := Lib.hid hS.1
  have HB5 := Lib.hid (bch HB1.out hS.2)
  have HR5 := Lib.hid (And.intro (HR1.out.1.keep hS.2) (And.intro (HR1.out.2.1.keep hS.2) (HR1.out.2.2.keep hS.2)))
  clear hS
  go_wp2
  refine wp_region_held_drew (S := (fun w' => OB w' W.heap.size k s t ∧ RI .u8 w' (.slice p1 n1 c1) n1 (zs ++ opB k s t) ∧ RI .u8 w' (.slice a len cap) len zs ∧ RI .u8 w' (.slice a2 rl rc) rl rs ∧ Below W.heap.size W w')) (by kernel_rfl) ⟨HO5.out.keep ((Below.refl _ _).drew), HR5.out.1.keep ((Below.refl _ _).drew), HR5.out.2.1.keep ((Below.refl _ _).drew), HR5.out.2.2.keep ((Below.refl _ _).drew), HB5.out.trans (((Below.refl _ _).drew).mono HB5.out.size)⟩ (fun hS => ?_)
  refine wpAnyH_take (i := 0) (oi := ({ dst := some 45, op := Op.move (Operand.tmp 8), type := 25, pos := "law.go:22", after := #[], guard := none } : Oper)) (v := ?_) rfl (by kernel_rfl) (by kernel_rfl) (by kernel_rfl) (fun _ _ _ h => h) (Or.inl ⟨by rfl, ?_⟩) hS ?_
  rotate_left
  · (intro w hSw; (try dsimp only at hSw); go_simp; try with_reducible rfl)
  (try simp only [Act.put, List.setIfInBounds_toArray, List.set_cons_zero, List.set_cons_succ])
  refine wpAnyH_take (i := 1) (oi := ({ dst := some 46, op := Op.binOp BinOp.neq 25 (Operand.tmp 45) (Operand.const (Value.int IntKind.i64 0)) 25, type := 4, pos := "law.go:22", after := #[{ on := 0, ground := Ground.data }], guard := none } : Oper)) (v := ?_) rfl (by kernel_rfl) (by kernel_rfl) (by kernel_rfl) (fun _ _ _ h => h) (Or.inl ⟨by rfl, ?_⟩) hS ?_
  rotate_left
  · (intro w hSw; (try dsimp only at hSw); go_simp; try with_reducible rfl)
  (try simp only [Act.put, List.setIfInBounds_toArray, List.set_cons_zero, List.set_cons_succ])
  refine wpAnyH_take (i := 2) (oi := ({ dst := some 47, op := Op.move (Operand.tmp 46), type := 4, pos := "law.go:22", after := #[{ on := 1, ground := Ground.data }], guard := none } : Oper)) (v := ?_) rfl (by kernel_rfl) (by kernel_rfl) (by kernel_rfl) (fun _ _ _ h => h) (Or.inl ⟨by rfl, ?_⟩) hS ?_
  rotate_left
  · (intro w hSw; (try dsimp only at hSw); go_simp; try with_reducible rfl)
  (try simp only [Act.put, List.setIfInBounds_toArray, List.set_cons_zero, List.set_cons_succ])
  refine wpAnyH_take (i := 3) (oi := ({ dst := some 48, op := Op.move (Operand.tmp 7), type := 22, pos := "law.go:22", after := #[{ on := 2, ground := Ground.guard }], guard := some (2, false) } : Oper)) (v := ?_) rfl (by kernel_rfl) (by kernel_rfl) (by kernel_rfl) (fun _ _ _ h => h) (Or.inl ⟨by rfl, ?_⟩) hS ?_
  rotate_left
  · (intro w hSw; (try dsimp only at hSw); go_simp; try with_reducible rfl)
  (try simp only [Act.put, List.setIfInBounds_toArray, List.set_cons_zero, List.set_cons_succ])
  refine wpAnyH_take (i := 4) (oi := ({ dst := some 49, op := Op.convert 22 9 (Operand.tmp 48), type := 9, pos := "law.go:22", after := #[{ on := 3, ground := Ground.data }, { on := 2, ground := Ground.guard }], guard := some (2, false) } : Oper)) (v := ?_) rfl (by kernel_rfl) (by kernel_rfl) (by kernel_rfl) (fun _ _ _ h => h) (Or.inl ⟨by rfl, ?_⟩) hS ?_
  rotate_left
  · (intro w hSw; (try dsimp only at hSw); have hq := conv_ri hSw.2.1; rw [HX.out] at hq; go_simp; try with_reducible rfl)
  (try simp only [Act.put, List.setIfInBounds_toArray, List.set_cons_zero, List.set_cons_succ])
  refine wpAnyH_take (i := 5) (oi := ({ dst := some 50, op := Op.move (Operand.tmp 0), type := 22, pos := "law.go:22", after := #[{ on := 2, ground := Ground.guard }], guard := some (2, false) } : Oper)) (v := ?_) rfl (by kernel_rfl) (by kernel_rfl) (by kernel_rfl) (fun _ _ _ h => h) (Or.inl ⟨by rfl, ?_⟩) hS ?_
  rotate_left
  · (intro w hSw; (try dsimp only at hSw); go_simp; try with_reducible rfl)
  (try simp only [Act.put, List.setIfInBounds_toArray, List.set_cons_zero, List.set_cons_succ])
  refine wpAnyH_take (i := 6) (oi := ({ dst := some 51, op := Op.convert 22 9 (Operand.tmp 50), type := 9, pos := "law.go:22", after := #[{ on := 5, ground := Ground.data }, { on := 2, ground := Ground.guard }], guard := some (2, false) } : Oper)) (v := ?_) rfl (by kernel_rfl) (by kernel_rfl) (by kernel_rfl) (fun _ _ _ h => h) (Or.inl ⟨by rfl, ?_⟩) hS ?_
  rotate_left
  · (intro w hSw; (try dsimp only at hSw); have hq := conv_ri hSw.2.2.1; rw [HY.out] at hq; go_simp; try with_reducible rfl)
  (try simp only [Act.put, List.setIfInBounds_toArray, List.set_cons_zero, List.set_cons_succ])
  refine wpAnyH_take (i := 7) (oi := ({ dst := some 52, op := Op.load 24 (Operand.tmp 4), type := 24, pos := "law.go:22", after := #[{ on := 2, ground := Ground.guard }], guard := some (2, false) } : Oper)) (v := .agg (oA k s t)) rfl (by kernel_rfl) (by kernel_rfl) (by kernel_rfl) (fun _ _ _ h => h) (Or.inl ⟨by rfl, ?_⟩) hS ?_
  · (intro w hSw; (try dsimp only at hSw); exact exec_load_ob (.tmp 4) rfl rfl hSw.1)
  (try simp only [Act.put, List.setIfInBounds_toArray, List.set_cons_zero, List.set_cons_succ])
  refine rg_one 8 ({ dst := some 53, op := Op.call { callee := Callee.value (Operand.func 10), args := #[Operand.tmp 52], argTypes := #[24] }, type := 22, pos := "law.go:22", after := #[{ on := 7, ground := Ground.data }, { on := 2, ground := Ground.chain }, { on := 2, ground := Ground.guard }], guard := some (2, false) } : Oper) (by kernel_rfl) rfl (fun K hK => ?_)
  go_simp
  (go_at_call 10; (with_reducible refine (H3.out _).mono ?_); rintro e w6 ⟨v6, rfl, hr6, hb⟩; have hq6 := conv_ri hr6; rw [HZ.out] at hq6)
  refine hK.out _ _ ?_ (fun hS1 => ?_)
  · (first | exact hS | exact ⟨hS.1.keep hb, hS.2.1.keep hb, hS.2.2.1.keep hb, hS.2.2.2.1.keep hb, bch hS.2.2.2.2 hb⟩)
  clear hK K hS; have hS := hS1; clear hS1
  (try simp only [Act.put, List.setIfInBounds_toArray, List.set_cons_zero, List.set_cons_succ])
  refine rg_one 9 ({ dst := some 54, op := Op.convert 22 9 (Operand.tmp 53), type := 9, pos := "law.go:22", after := #[{ on := 8, ground := Ground.data }, { on := 2, ground := Ground.guard }], guard := some (2, false) } : Oper) (by kernel_rfl) rfl (fun K hK => ?_)
  go_simp
  refine hK.out _ _ ?_ (fun hS1 => ?_)
  · (first | exact hS | exact ⟨hS.1.keep hb, hS.2.1.keep hb, hS.2.2.1.keep hb, hS.2.2.2.1.keep hb, bch hS.2.2.2.2 hb⟩)
  clear hK K hS; have hS := hS1; clear hS1
  (try simp only [Act.put, List.setIfInBounds_toArray, List.set_cons_zero, List.set_cons_succ])
  refine wpAnyH_take (i := 10) (oi := ({ dst := some 55, op := Op.binOp BinOp.add 9 (Operand.tmp 51) (Operand.tmp 54) 9, type := 9, pos := "law.go:22", after := #[{ on := 6, ground := Ground.data }, { on := 9, ground := Ground.data }, { on := 2, ground := Ground.guard }], guard := some (2, false) } : Oper)) (v := .string x) rfl (by kernel_rfl) (by kernel_rfl) (by kernel_rfl) (fun _ _ _ h => h) (Or.inl ⟨by rfl, ?_⟩) hS ?_
  · (intro w hSw; (try dsimp only at hSw); have hq := HADD.out; have hsz := HYZ.out; go_simp; (try simp [hq]))
  (try simp only [Act.put, List.setIfInBounds_toArray, List.set_cons_zero, List.set_cons_succ])
  refine wpAnyH_take (i := 11) (oi := ({ dst := some 56, op := Op.binOp BinOp.neq 9 (Operand.tmp 49) (Operand.tmp 55) 9, type := 4, pos := "law.go:22", after := #[{ on := 4, ground := Ground.data }, { on := 10, ground := Ground.data }, { on := 2, ground := Ground.guard }], guard := some (2, false) } : Oper)) (v := ?_) rfl (by kernel_rfl) (by kernel_rfl) (by kernel_rfl) (fun _ _ _ h => h) (Or.inl ⟨by rfl, ?_⟩) hS ?_
  rotate_left
  · (intro w hSw; (try dsimp only at hSw); go_simp; try with_reducible rfl)
  (try simp only [Act.put, List.setIfInBounds_toArray, List.set_cons_zero, List.set_cons_succ])
  refine wpAnyH_take (i := 12) (oi := ({ dst := some 57, op := Op.pick (Operand.tmp 47) (Operand.const (Value.bool true)) (Operand.tmp 56), type := 4, pos := "law.go:22", after := #[{ on := 2, ground := Ground.data }, { on := 11, ground := Ground.data }], guard := none } : Oper)) (v := ?_) rfl (by kernel_rfl) (by kernel_rfl) (by kernel_rfl) (fun _ _ _ h => h) (Or.inl ⟨by rfl, ?_⟩) hS ?_
  rotate_left
  · (intro w hSw; (try dsimp only at hSw); go_simp; try with_reducible rfl)
  (try simp only [Act.put, List.setIfInBounds_toArray, List.set_cons_zero, List.set_cons_succ])
  refine wpAnyH_done (by kernel_rfl) ?_ _
  have HO7 := Lib.hid hS.1
  have HR7 := Lib.hid hS.2
  clear hS
  have hlc : n1 ≤ c1 := by
    obtain ⟨_, _, e, _, h1, _⟩ := HR7.out.1
    simp only [Value.slice.injEq, true_and] at e
    obtain ⟨_, rfl⟩ := e
    exact h1
  have hne : ¬ c1 = len := by have := HM.out; have := HDR.out.2.2; omega
  have hr8 := HR7.out.1.from' len (by omega) hne
  rw [HDR.out.1] at hr8
  have hsub := HSUB.out
  have HR8 : Hid (RI .u8 (w6.alloc (.cells #[] 5)) (.slice (Option.map (fun x => x.add len) p1) (n1 - len) (c1 - len)) (n1 - len) (opB k s t)) := Lib.hid (hr8.keep (balloc w6 _))
  clear hr8 hlc
  go_wp2_with (first
    | (at_builtin; refine wpl_appn rfl (.tmp 64) (.tmp 65) 22 rfl 5 .u8 1 Try.underlying22 Try.info_u8 w6.heap.size _ (0 + (n1 - len)) ([] ++ opB k s t) rfl HO9 _ rl rs rfl (Lib.hid (HR7.out.2.2.1.keep HB9.out)) (by have := HM.out; have := HDR.out.2.1; have := HLN.out; omega) (by have := HM.out; have := HDR.out.2.1; have := HLN.out; omega) w6.heap.size w6 HB9 (Nat.le_refl _) HB9.out.size ?_; intro v10 w10 HO10 HB10; have HR10 : Hid (RI .u8 w10 v10 (m + rl) (opB k s t ++ rs)) := Lib.hid (by have := RI.own HO10.out; rw [HDR.out.2.1] at this; simpa using this))
    | (at_builtin; refine wpl_appn rfl (.tmp 59) (.tmp 63) 22 rfl 5 .u8 1 Try.underlying22 Try.info_u8 w6.heap.size _ 0 [] rfl (own_empty rfl (by omega)) _ (n1 - len) (opB k s t) rfl HR8 (by have := HM.out; have := HDR.out.2.1; omega) (by have := HM.out; have := HDR.out.2.1; omega) w6.heap.size w6 (Lib.hid (balloc w6 _)) (Nat.le_refl _) (by simp) ?_; intro v9 w9 HO9 HB9)
    | (go_at_call 11; (with_reducible refine (H4.out _ _ HR10.out).mono ?_); rintro e w11 ⟨rfl, hb⟩; have HB11 := Lib.hid (bch HB10.out hb); clear hb)
    | (refine wpList_store_row rfl 24 _ _ rfl w11.heap.size (oA k s t) rfl rfl _ _ (heap_alloc_last w11 _) (op_info _ rfl) rfl (op_one _ _ _) ?_; have HO12 := Lib.hid (OB.new w11 (oA 0 ⟨#[]⟩ ⟨#[]⟩) k s t); have HW12 := Lib.hid (bch HB11.out (bnew w11 (.cells (oA 0 ⟨#[]⟩ ⟨#[]⟩) 24) (oA k s t))); have HO13 := Lib.hid (HO7.out.keep HW12.out); have HB13 := Lib.hid (bch HR7.out.2.2.2 HW12.out))
    | (refine load_ob rfl (.tmp 9) rfl rfl HO12.out ?_)
    | (refine load_ob rfl (.tmp 4) rfl rfl HO13.out ?_)
    | (refine wpl_eq_self rfl (.tmp 71) (.tmp 72) _ rfl rfl rfl ?_)
    | (go_at_call 9; (with_reducible refine (awake_any HH.out _).mono ?_); rintro e w14 ⟨rfl, hb⟩; have HB14 := Lib.hid (bch HB13.out hb); clear hb))
  go_ret
  exact ⟨rfl, HB14.out⟩
theorem puts_walk (H : OpSays) (a : Option Addr) (len cap : Nat) (zs : List Int) (o : AO) (a2 : Option Addr) (rl rc : Nat) (rs : List Int) (W : World) (hri : RI .u8 W (.slice a len cap) len zs) (hrs : RI .u8 W (.slice a2 rl rc) rl rs) (hrb : isB rs)
    (hlen : (len : Int) ≤ 140737488351232) (hrl : (rl : Int) ≤ 140737488351232) :
    Calls Try.prog 3 #[.slice a len cap, opV o, .slice a2 rl rc] W fun e w' => e = .returned (.bool true) ∧ Below W.heap.size W w' := by
  cases h : opRight o.kind o.key o.val with
  | true => exact puts_right H a len cap zs o.kind o.key o.val a2 rl rc rs W hri hrs hrb hlen hrl h
  | false => exact puts_wrong H a len cap zs o.kind o.key o.val (.slice a2 rl rc) W hri hlen h
end Go.Proofs.Ytnkccconkongeaa
