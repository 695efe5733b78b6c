/-
  THE WALK OF THE LAW OpGets: whatever bytes come in (within the form's own reach): the call returns true and changes nothing that was there. Over the contracts OpSays.
-/
import Derived.Test.YtnkccconkongeaaOpSays
namespace Go.Proofs.Ytnkccconkongeaa
open Go.RowKit
theorem wpl_neq_self {w : World} {ops : Array Oper} {rest : List Oper} {o : Oper} {a : Act} {Q : Exit → Act → World → Prop} {k : Int} {s t : ByteArray} (hgd : o.guard = none) (x y : Operand) (u : TypeId) (ho : o.op = .binOp .neq 24 x y u) (hx : a.eval x = .agg (oA k s t)) (hy : a.eval y = .agg (oA k s t))
    (h : wpList Try.prog ops Q rest (a.put o.dst (.bool false)) w) : wpList Try.prog ops Q (o :: rest) a w := by
  refine wpl_neq_op (c := ⟨k, s, t⟩) (d := ⟨k, s, t⟩) hgd x y u ho hx hy ?_
  rw [decide_eq_true rfl]
  exact h
theorem wpl_eq_self {w : World} {ops : Array Oper} {rest : List Oper} {o : Oper} {a : Act} {Q : Exit → Act → World → Prop} {k : Int} {s t : ByteArray} (hgd : o.guard = none) (x y : Operand) (u : TypeId) (ho : o.op = .binOp .eql 24 x y u) (hx : a.eval x = .agg (oA k s t)) (hy : a.eval y = .agg (oA k s t))
    (h : wpList Try.prog ops Q rest (a.put o.dst (.bool true)) w) : wpList Try.prog ops Q (o :: rest) a w := by
  refine wpl_eq_op (c := ⟨k, s, t⟩) (d := ⟨k, s, t⟩) hgd x y u ho hx hy ?_
  rw [decide_eq_true rfl]
  exact h
/-- a new variable and what is stored in it -/
theorem OB.new (w : World) (c : Array Value) (k : Int) (s t : ByteArray) : OB ((w.alloc (.cells c 24)).setRow w.heap.size (oA k s t)) w.heap.size k s t := setRow_heap _ _ _ _ _ _ (heap_alloc_last w _)
theorem bnew (w : World) (o : Obj) (c : Array Value) : Below w.heap.size w ((w.alloc o).setRow w.heap.size c) := brow (balloc w o) (Nat.le_refl _) (Nat.le_refl _) c
theorem load_ob {w : World} {ops : Array Oper} {rest : List Oper} {o : Oper} {a : Act} {Q : Exit → Act → World → Prop} {b : Nat} {k : Int} {s t : ByteArray} (hgd : o.guard = none) (x : Operand) (ho : o.op = .load 24 x) (hx : a.eval x = .pointer (some ⟨b, 0, none⟩)) (h : OB w b k s t)
    (hk : wpList Try.prog ops Q rest (a.put o.dst (.agg (oA k s t))) w) : wpList Try.prog ops Q (o :: rest) a w :=
  wpList_load_row hgd 24 x ho b hx _ (oA k s t) (0, 0) _ h Try.underlying24 rfl (op_info _ rfl) hk
set_option maxRecDepth 8000 in
set_option maxHeartbeats 4000000 in
theorem gets_walk (H : OpSays) (a : Option Addr) (len cap : Nat) (zs : List Int) (W : World) (hri : RI .u8 W (.slice a len cap) len zs) (hb : isB zs) (hlen : (len : Int) ≤ 140737488351232) :
    Calls Try.prog 4 #[.slice a len cap] W fun e w' => e = .returned (.bool true) ∧ Below W.heap.size W w' := by
  obtain ⟨⟨⟨k, s, t⟩, n, e3⟩, hg⟩ : ∃ g, opG zs = g := ⟨_, rfl⟩
  have HH := Lib.hid H
  have HG1 : Hid (∀ w, RI .u8 w (.slice a len cap) len zs → Calls Try.prog 11 #[.slice a len cap] w fun e w' => e = .returned (.tuple #[.agg (oA k s t), .int .i64 n, .int .i64 e3]) ∧ Below w.heap.size w w') := Lib.hid fun w h => by
    have := H.get _ len zs w h hb (by omega); rwa [hg] at this
  have HG2 : Hid (∀ w, RI .u8 w (.slice a len cap) len zs → Calls Try.prog 12 #[.slice a len cap] w fun e w' => e = .returned (.tuple #[.agg (oA k s t), .int .i64 n, .int .i64 e3]) ∧ Below w.heap.size w w') := Lib.hid fun w h => by
    have := roget_any _ len zs w h hb (by omega); rwa [hg] at this
  have hz := hri.length
  have HR := Lib.hid hri
  by_cases he : e3 = 0
  · subst he
    obtain ⟨h1, h2, h3, h4⟩ := op_back zs hb (by rw [hg])
    rw [hg] at h1 h2 h3 h4
    simp only at h1 h2 h3 h4
    have hu := hri.upto n (by omega)
    obtain ⟨a', cap', e, _, hlc, hc63, _, hc⟩ := hri
    simp only [Value.slice.injEq, true_and] at e
    obtain ⟨rfl, rfl⟩ := e
    obtain ⟨b, off, rfl, _⟩ := hc (by omega)
    have hu' : RI .u8 W (.slice (some ⟨b, off, none⟩) n cap) n (opB k s t) := by
      have hs : sliced (some ⟨b, off, none⟩) 0 n cap 1 = .slice (some ⟨b, off, none⟩) n cap := by
        unfold sliced; split <;> simp [Addr.add]
      rw [hs] at hu; rw [h2]; exact hu
    have HP : Hid (∀ w, Calls Try.prog 6 #[.slice none 0 0, .agg (oA k s t)] w fun e w' => ∃ v', e = .returned (.tuple #[v', .int .i64 0]) ∧ RI .u8 w' v' (opB k s t).length (opB k s t) ∧ Below w.heap.size w w') := Lib.hid fun w =>
      (H.put (.slice none 0 0) 0 [] k s t w (RI.nil _ _) (by omega) h1).mono fun _ _ ⟨v, he, ho, hb⟩ => ⟨v, he, RI.own ho, hb⟩
    have hcap : ¬ cap = 0 := by omega
    have hgc : (n : Int) ≤ (cap : Int) := by omega
    obtain ⟨x, hx⟩ : ∃ x, strOfNums (opB k s t) = x := ⟨_, rfl⟩
    have HX := Lib.hid hx
    have HU := Lib.hid hu'
    clear hg hb h1 h2 h3 h4 hu hu' hc hx hz H hlen
    go_enter Try.func4, Try.ntmps4
    go_wp2_with (first
      | (go_at_call 11; (with_reducible refine (HG1.out _ HR.out).mono ?_); rintro e w1 ⟨rfl, hb1⟩; have HB1 := Lib.hid hb1; clear hb1)
      | (refine wpList_store_row rfl 24 _ _ rfl w1.heap.size (oA k s t) rfl rfl _ _ (heap_alloc_last w1 _) (op_info _ rfl) rfl (op_one _ _ _) ?_; have HO1 := Lib.hid (OB.new w1 (oA 0 ⟨#[]⟩ ⟨#[]⟩) k s t); have HW1 := Lib.hid (bnew w1 (.cells (oA 0 ⟨#[]⟩ ⟨#[]⟩) 24) (oA k s t)))
      | (go_at_call 12; (with_reducible refine (HG2.out _ ((HR.out.keep HB1.out).keep HW1.out)).mono ?_); rintro e w2 ⟨rfl, hb2⟩; have HO1 := Lib.hid (HO1.out.keep hb2); have HB2 := Lib.hid (bch HB1.out (bch HW1.out hb2)); clear hb2)
      | (refine wpList_store_row rfl 24 _ _ rfl w2.heap.size (oA k s t) rfl rfl _ _ (heap_alloc_last w2 _) (op_info _ rfl) rfl (op_one _ _ _) ?_; have HO2 := Lib.hid (OB.new w2 (oA 0 ⟨#[]⟩ ⟨#[]⟩) k s t); have HW2 := Lib.hid (bnew w2 (.cells (oA 0 ⟨#[]⟩ ⟨#[]⟩) 24) (oA k s t)); have HO12 := Lib.hid (HO1.out.keep HW2.out); have HB22 := Lib.hid (bch HB2.out HW2.out))
      | (refine load_ob rfl (.tmp 6) rfl rfl HO2.out ?_)
      | (refine load_ob rfl (.tmp 3) rfl rfl HO12.out ?_)
      | (refine wpl_neq_self rfl (.tmp 23) (.tmp 24) _ rfl rfl rfl ?_)
      | (go_at_call 6; (with_reducible refine (HP.out _).mono ?_); rintro e w3 ⟨v3, rfl, hr3, hb3⟩; have HR3 := Lib.hid hr3; have HB3 := Lib.hid (bch HB22.out hb3); clear hr3 hb3))
    refine wp_region_held_drew (S := (fun w' => RI .u8 w' v3 (opB k s t).length (opB k s t) ∧ RI .u8 w' (.slice (some ⟨b, off, none⟩) n cap) n (opB k s t) ∧ Below W.heap.size W w')) (by kernel_rfl) ⟨HR3.out.keep ((Below.refl _ _).drew), HU.out.keep (HB3.out.trans (((Below.refl _ _).drew).mono HB3.out.size)), HB3.out.trans (((Below.refl _ _).drew).mono HB3.out.size)⟩ (fun hS => ?_)
    refine wpAnyH_take (i := 0) (oi := ({ dst := some 44, op := Op.move (Operand.tmp 10), type := 25, pos := "law.go:40", after := #[], guard := none } : Oper)) (v := ?_) rfl (by kernel_rfl) (by kernel_rfl) (by kernel_rfl) (fun _ _ _ h => h) (Or.inl ⟨by rfl, ?_⟩) hS ?_
    rotate_left
    · (intro w hSw; (try dsimp only at hSw); go_simp; try with_reducible rfl)
    (try simp only [Act.put, List.setIfInBounds_toArray, List.set_cons_zero, List.set_cons_succ])
    refine wpAnyH_take (i := 1) (oi := ({ dst := some 45, op := Op.binOp BinOp.eql 25 (Operand.tmp 44) (Operand.const (Value.int IntKind.i64 0)) 25, type := 4, pos := "law.go:40", after := #[{ on := 0, ground := Ground.data }], guard := none } : Oper)) (v := ?_) rfl (by kernel_rfl) (by kernel_rfl) (by kernel_rfl) (fun _ _ _ h => h) (Or.inl ⟨by rfl, ?_⟩) hS ?_
    rotate_left
    · (intro w hSw; (try dsimp only at hSw); go_simp; try with_reducible rfl)
    (try simp only [Act.put, List.setIfInBounds_toArray, List.set_cons_zero, List.set_cons_succ])
    refine wpAnyH_take (i := 2) (oi := ({ dst := some 46, op := Op.move (Operand.tmp 45), type := 4, pos := "law.go:40", after := #[{ on := 1, ground := Ground.data }], guard := none } : Oper)) (v := ?_) rfl (by kernel_rfl) (by kernel_rfl) (by kernel_rfl) (fun _ _ _ h => h) (Or.inl ⟨by rfl, ?_⟩) hS ?_
    rotate_left
    · (intro w hSw; (try dsimp only at hSw); go_simp; try with_reducible rfl)
    (try simp only [Act.put, List.setIfInBounds_toArray, List.set_cons_zero, List.set_cons_succ])
    refine wpAnyH_take (i := 3) (oi := ({ dst := some 47, op := Op.move (Operand.tmp 9), type := 22, pos := "law.go:40", after := #[{ on := 2, ground := Ground.guard }], guard := some (2, true) } : Oper)) (v := ?_) rfl (by kernel_rfl) (by kernel_rfl) (by kernel_rfl) (fun _ _ _ h => h) (Or.inl ⟨by rfl, ?_⟩) hS ?_
    rotate_left
    · (intro w hSw; (try dsimp only at hSw); go_simp; try with_reducible rfl)
    (try simp only [Act.put, List.setIfInBounds_toArray, List.set_cons_zero, List.set_cons_succ])
    refine wpAnyH_take (i := 4) (oi := ({ dst := some 48, op := Op.convert 22 9 (Operand.tmp 47), type := 9, pos := "law.go:40", after := #[{ on := 3, ground := Ground.data }, { on := 2, ground := Ground.guard }], guard := some (2, true) } : Oper)) (v := ?_) rfl (by kernel_rfl) (by kernel_rfl) (by kernel_rfl) (fun _ _ _ h => h) (Or.inl ⟨by rfl, ?_⟩) hS ?_
    rotate_left
    · (intro w hSw; (try dsimp only at hSw); have hq := conv_ri hSw.1; rw [HX.out] at hq; go_simp; try with_reducible rfl)
    (try simp only [Act.put, List.setIfInBounds_toArray, List.set_cons_zero, List.set_cons_succ])
    refine wpAnyH_take (i := 5) (oi := ({ dst := some 49, op := Op.move (Operand.tmp 0), type := 22, pos := "law.go:40", after := #[{ on := 2, ground := Ground.guard }], guard := some (2, true) } : Oper)) (v := ?_) rfl (by kernel_rfl) (by kernel_rfl) (by kernel_rfl) (fun _ _ _ h => h) (Or.inl ⟨by rfl, ?_⟩) hS ?_
    rotate_left
    · (intro w hSw; (try dsimp only at hSw); go_simp; try with_reducible rfl)
    (try simp only [Act.put, List.setIfInBounds_toArray, List.set_cons_zero, List.set_cons_succ])
    refine wpAnyH_take (i := 6) (oi := ({ dst := some 50, op := Op.move (Operand.tmp 4), type := 3, pos := "law.go:40", after := #[{ on := 2, ground := Ground.guard }], guard := some (2, true) } : Oper)) (v := ?_) rfl (by kernel_rfl) (by kernel_rfl) (by kernel_rfl) (fun _ _ _ h => h) (Or.inl ⟨by rfl, ?_⟩) hS ?_
    rotate_left
    · (intro w hSw; (try dsimp only at hSw); go_simp; try with_reducible rfl)
    (try simp only [Act.put, List.setIfInBounds_toArray, List.set_cons_zero, List.set_cons_succ])
    refine wpAnyH_take (i := 7) (oi := ({ dst := some 51, op := Op.slice 22 (Operand.tmp 49) none (some (Operand.tmp 50)) none, type := 22, pos := "law.go:40", after := #[{ on := 5, ground := Ground.data }, { on := 6, ground := Ground.data }, { on := 2, ground := Ground.guard }], guard := some (2, true) } : Oper)) (v := ?_) rfl (by kernel_rfl) (by kernel_rfl) (by kernel_rfl) (fun _ _ _ h => h) (Or.inl ⟨by rfl, ?_⟩) hS ?_
    rotate_left
    · (intro w hSw; (try dsimp only at hSw); go_simp; try with_reducible rfl)
    (try simp only [Act.put, List.setIfInBounds_toArray, List.set_cons_zero, List.set_cons_succ])
    refine wpAnyH_take (i := 8) (oi := ({ dst := some 52, op := Op.convert 22 9 (Operand.tmp 51), type := 9, pos := "law.go:40", after := #[{ on := 7, ground := Ground.data }, { on := 2, ground := Ground.guard }], guard := some (2, true) } : Oper)) (v := ?_) rfl (by kernel_rfl) (by kernel_rfl) (by kernel_rfl) (fun _ _ _ h => h) (Or.inl ⟨by rfl, ?_⟩) hS ?_
    rotate_left
    · (intro w hSw; (try dsimp only at hSw); have hq := conv_ri hSw.2.1; rw [HX.out] at hq; go_simp; try with_reducible rfl)
    (try simp only [Act.put, List.setIfInBounds_toArray, List.set_cons_zero, List.set_cons_succ])
    refine wpAnyH_take (i := 9) (oi := ({ dst := some 53, op := Op.binOp BinOp.eql 9 (Operand.tmp 48) (Operand.tmp 52) 9, type := 4, pos := "law.go:40", after := #[{ on := 4, ground := Ground.data }, { on := 8, ground := Ground.data }, { on := 2, ground := Ground.guard }], guard := some (2, true) } : Oper)) (v := ?_) rfl (by kernel_rfl) (by kernel_rfl) (by kernel_rfl) (fun _ _ _ h => h) (Or.inl ⟨by rfl, ?_⟩) hS ?_
    rotate_left
    · (intro w hSw; (try dsimp only at hSw); go_simp; try with_reducible rfl)
    (try simp only [Act.put, List.setIfInBounds_toArray, List.set_cons_zero, List.set_cons_succ])
    refine wpAnyH_take (i := 10) (oi := ({ dst := some 54, op := Op.pick (Operand.tmp 46) (Operand.tmp 53) (Operand.const (Value.bool false)), type := 4, pos := "law.go:40", after := #[{ on := 2, ground := Ground.data }, { on := 9, ground := Ground.data }], guard := none } : Oper)) (v := ?_) rfl (by kernel_rfl) (by kernel_rfl) (by kernel_rfl) (fun _ _ _ h => h) (Or.inl ⟨by rfl, ?_⟩) hS ?_
    rotate_left
    · (intro w hSw; (try dsimp only at hSw); go_simp; try with_reducible rfl)
    (try simp only [Act.put, List.setIfInBounds_toArray, List.set_cons_zero, List.set_cons_succ])
    refine wpAnyH_take (i := 11) (oi := ({ dst := some 55, op := Op.move (Operand.tmp 54), type := 4, pos := "law.go:40", after := #[{ on := 10, ground := Ground.data }, { on := 2, ground := Ground.chain }], guard := none } : Oper)) (v := ?_) rfl (by kernel_rfl) (by kernel_rfl) (by kernel_rfl) (fun _ _ _ h => h) (Or.inl ⟨by rfl, ?_⟩) hS ?_
    rotate_left
    · (intro w hSw; (try dsimp only at hSw); go_simp; try with_reducible rfl)
    (try simp only [Act.put, List.setIfInBounds_toArray, List.set_cons_zero, List.set_cons_succ])
    refine rg_one 12 ({ dst := some 56, op := Op.call { callee := Callee.value (Operand.func 9), args := #[], argTypes := #[] }, type := 4, pos := "law.go:40", after := #[{ on := 11, ground := Ground.chain }, { on := 11, ground := Ground.guard }], guard := some (11, true) } : Oper) (by kernel_rfl) rfl (fun K hK => ?_)
    go_simp
    (go_at_call 9; (with_reducible refine (awake_any HH.out _).mono ?_); rintro e w5 ⟨rfl, hb⟩)
    refine hK.out _ _ ?_ (fun hS1 => ?_)
    · (first | exact hS | exact ⟨hS.1.keep hb, hS.2.1.keep hb, bch hS.2.2 hb⟩)
    clear hK K hS; have hS := hS1; clear hS1
    (try simp only [Act.put, List.setIfInBounds_toArray, List.set_cons_zero, List.set_cons_succ])
    refine wpAnyH_take (i := 13) (oi := ({ dst := some 57, op := Op.pick (Operand.tmp 55) (Operand.tmp 56) (Operand.const (Value.bool false)), type := 4, pos := "law.go:40", after := #[{ on := 11, ground := Ground.data }, { on := 12, ground := Ground.data }], guard := none } : Oper)) (v := ?_) rfl (by kernel_rfl) (by kernel_rfl) (by kernel_rfl) (fun _ _ _ h => h) (Or.inl ⟨by rfl, ?_⟩) hS ?_
    rotate_left
    · (intro w hSw; (try dsimp only at hSw); go_simp; try with_reducible rfl)
    (try simp only [Act.put, List.setIfInBounds_toArray, List.set_cons_zero, List.set_cons_succ])
    refine wpAnyH_take (i := 14) (oi := ({ dst := some 2, op := Op.assign (Operand.tmp 57), type := 4, pos := "law.go:40", after := #[{ on := 13, ground := Ground.data }, { on := 12, ground := Ground.chain }, { on := 0, ground := Ground.phase }, { on := 1, ground := Ground.phase }, { on := 2, ground := Ground.phase }, { on := 3, ground := Ground.phase }, { on := 4, ground := Ground.phase }, { on := 5, ground := Ground.phase }, { on := 6, ground := Ground.phase }, { on := 7, ground := Ground.phase }, { on := 8, ground := Ground.phase }, { on := 9, ground := Ground.phase }, { on := 10, ground := Ground.phase }, { on := 11, ground := Ground.phase }, { on := 12, ground := Ground.phase }, { on := 13, ground := Ground.phase }], guard := none } : Oper)) (v := ?_) rfl (by kernel_rfl) (by kernel_rfl) (by kernel_rfl) (fun _ _ _ h => h) (Or.inl ⟨by rfl, ?_⟩) hS ?_
    rotate_left
    · (intro w hSw; (try dsimp only at hSw); go_simp; try with_reducible rfl)
    (try simp only [Act.put, List.setIfInBounds_toArray, List.set_cons_zero, List.set_cons_succ])
    refine wpAnyH_done (by kernel_rfl) ?_ _
    go_wp2
    go_ret
    exact ⟨rfl, hS.2.2⟩
  · have hne : (e3 != 0) = true := by simpa using he
    clear hg hb hri hz H hlen
    go_enter Try.func4, Try.ntmps4
    go_wp2_with (first
      | (go_at_call 11; (with_reducible refine (HG1.out _ HR.out).mono ?_); rintro e w1 ⟨rfl, hb1⟩; have HB1 := Lib.hid hb1; clear hb1)
      | (refine wpList_store_row rfl 24 _ _ rfl w1.heap.size (oA k s t) rfl rfl _ _ (heap_alloc_last w1 _) (op_info _ rfl) rfl (op_one _ _ _) ?_; have HO1 := Lib.hid (OB.new w1 (oA 0 ⟨#[]⟩ ⟨#[]⟩) k s t); have HW1 := Lib.hid (bnew w1 (.cells (oA 0 ⟨#[]⟩ ⟨#[]⟩) 24) (oA k s t)))
      | (go_at_call 12; (with_reducible refine (HG2.out _ ((HR.out.keep HB1.out).keep HW1.out)).mono ?_); rintro e w2 ⟨rfl, hb2⟩; have HO1 := Lib.hid (HO1.out.keep hb2); have HB2 := Lib.hid (bch HB1.out (bch HW1.out hb2)); clear hb2)
      | (refine wpList_store_row rfl 24 _ _ rfl w2.heap.size (oA k s t) rfl rfl _ _ (heap_alloc_last w2 _) (op_info _ rfl) rfl (op_one _ _ _) ?_; have HO2 := Lib.hid (OB.new w2 (oA 0 ⟨#[]⟩ ⟨#[]⟩) k s t); have HW2 := Lib.hid (bnew w2 (.cells (oA 0 ⟨#[]⟩ ⟨#[]⟩) 24) (oA k s t)); have HO12 := Lib.hid (HO1.out.keep HW2.out); have HB22 := Lib.hid (bch HB2.out HW2.out))
      | (refine load_ob rfl (.tmp 6) rfl rfl HO2.out ?_)
      | (refine load_ob rfl (.tmp 3) rfl rfl HO12.out ?_)
      | (refine wpl_neq_self rfl (.tmp 23) (.tmp 24) _ rfl rfl rfl ?_)
      | (go_at_call 9; (with_reducible refine (awake_any HH.out _).mono ?_); rintro e w4 ⟨rfl, hb⟩; have HB4 := Lib.hid (bch HB22.out hb); clear hb))
    go_ret
    exact ⟨rfl, HB4.out⟩
end Go.Proofs.Ytnkccconkongeaa
