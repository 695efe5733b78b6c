/-
  THE WALK OF THE LAW FieldPacks: whatever bytes and fields come in, the bytes at most 140737488351232 (what the form's reach lets in): the call returns true and changes nothing that was there.
-/
import Derived.Test.YtkgpbkkcpcdogaaFieldB
namespace Go.Proofs.Ytkgpbkkcpcdogaa
open Go.RowKit
theorem same_yes (va vb : Value) (n : Nat) (ls : List (List Int)) (w : World) (ha : RL .u8 w va n ls) (hb : RL .u8 w vb n ls) (h : ∀ l ∈ ls, isB l) :
    Calls Try.prog 13 #[va, vb] w fun e w' => e = .returned (.bool true) ∧ Below w.heap.size w w' :=
  (same_any va vb n n ls ls w ha hb h h).mono fun _ _ ⟨he, hb⟩ => ⟨by rw [he]; simp, hb⟩
/-- what is kept through the law: the bytes, the fields, what was packed of them, and that nothing old has changed -/
structure FP (W : World) (bv lv xv : Value) (len n m : Nat) (zs : List Int) (ls : List (List Int)) (w : World) : Prop where
  b : RI .u8 w bv len zs
  l : RL .u8 w lv n ls
  x : RI .u8 w xv m (pk ls)
  out : Below W.heap.size W w
theorem FP.keep {W : World} {bv lv xv : Value} {len n m : Nat} {zs : List Int} {ls : List (List Int)} {w w' : World} (h : FP W bv lv xv len n m zs ls w) (hb : Below w.heap.size w w') : FP W bv lv xv len n m zs ls w' :=
  ⟨h.b.keep hb, h.l.keep hb, h.x.keep hb, h.out.trans (hb.mono h.out.size)⟩
theorem FP.conv {W : World} {bv lv xv : Value} {len n m : Nat} {zs : List Int} {ls : List (List Int)} {s : ByteArray} {w : World} (hs : s = strOfNums (pk ls)) (h : FP W bv lv xv len n m zs ls w) :
    (convert 22 9 xv).run Try.prog w = .ok (.string s) w ∧ FP W bv lv xv len n m zs ls w := ⟨by rw [hs]; exact conv_ri h.x, h⟩
theorem FP.of {W : World} {bv lv xv : Value} {len n m : Nat} {zs : List Int} {ls : List (List Int)} {w : World} {p : Prop} (h : p ∧ FP W bv lv xv len n m zs ls w) : FP W bv lv xv len n m zs ls w := h.2
theorem rpack_text (v : Value) (n : Nat) (ls : List (List Int)) (w : World) (h : RL .u8 w v n ls) (hn : (n : Int) ≤ 200) (s : ByteArray) (hs : s = strOfNums (pk ls)) :
    Calls Try.prog 9 #[v] w fun e w' => ∃ v, e = .returned v ∧ (convert 22 9 v).run Try.prog w' = .ok (.string s) w' ∧ Below w.heap.size w w' :=
  (rpack_any v n ls w h (by omega)).mono fun _ _ ⟨v, he, ho, hb⟩ => ⟨v, he, by rw [hs]; exact conv_ri (RI.own ho), hb⟩
/-- a text that was put, beside a row that grows: neither lies in the other's block -/
structure R9 (W w : World) (pv : Value) (pn : Nat) (ps : List Int) (r : Value) (m : Nat) (ys : List Int) : Prop where
  below : Below W.heap.size W w
  put : RI .u8 w pv pn ps
  row : w.ownsRow W.heap.size 5 1 r m (il .u8 ys)
  apart : 0 < pn → ∀ q, pv.ownBlock = some q → some q ≠ r.ownBlock
theorem RI.block {k : IntKind} {w : World} {v : Value} {n : Nat} {zs : List Int} (h : RI k w v n zs) (h0 : 0 < n) : ∀ q, v.ownBlock = some q → q < w.heap.size := by
  obtain ⟨a, cap, rfl, _, _, _, _, hc⟩ := h
  obtain ⟨b, off, rfl, hcell⟩ := hc h0
  intro q hq
  simp only [Value.ownBlock, Option.some.injEq] at hq
  have := block_lt_of_cell (hcell 0 h0)
  simp at this; omega
/-- the text first, then the row -/
theorem R9.first {W w : World} {pv : Value} {pn : Nat} {ps : List Int} (hb : Below W.heap.size W w) (hp : RI .u8 w pv pn ps) :
    R9 W (w.alloc (.cells #[] 5)) pv pn ps (.slice (some ⟨w.heap.size, 0, none⟩) 0 0) 0 [] :=
  ⟨hb.alloc hb.size _, hp.keep ((Below.refl _ _).alloc (Nat.le_refl _) _), own_empty rfl hb.size, fun h0 q hq e => by
    have := hp.block h0 q hq
    simp only [Value.ownBlock, Option.some.injEq] at e
    omega⟩
/-- the row first, then the text -/
theorem R9.second {W w w' : World} {pv : Value} {pn : Nat} {ps : List Int} {r : Value} {m : Nat} {ys : List Int} (hb : Below W.heap.size W w) (hr : w.ownsRow W.heap.size 5 1 r m (il .u8 ys))
    (hp : w'.ownsRow w.heap.size 5 1 pv pn (il .u8 ps)) (hb' : Below w.heap.size w w') : R9 W w' pv pn ps r m ys :=
  ⟨hb.trans (hb'.mono hb.size), RI.own hp, own_keep hr hb', fun _ q hq e => by
    have h1 := (hp.lt q hq).1
    have h2 := (hr.lt q e.symm).2
    omega⟩
theorem R9.keep {W w w' : World} {pv : Value} {pn : Nat} {ps : List Int} {r : Value} {m : Nat} {ys : List Int} (h : R9 W w pv pn ps r m ys) (hb : Below w.heap.size w w') : R9 W w' pv pn ps r m ys :=
  ⟨h.below.trans (hb.mono h.below.size), h.put.keep hb, own_keep h.row hb, h.apart⟩
theorem R9.app {W w w' : World} {pv : Value} {pn : Nat} {ps : List Int} {r r' : Value} {m m' : Nat} {ys ys' : List Int} (h : R9 W w pv pn ps r m ys) (ho : w'.ownsRow W.heap.size 5 1 r' m' (il .u8 ys')) (hg : w.grownBy w' r.ownBlock)
    (hw : r'.ownBlock = r.ownBlock ∨ r'.ownBlock = some w.heap.size) : R9 W w' pv pn ps r' m' ys' :=
  ⟨h.below.grown hg h.below.size (fun q hq => (h.row.lt q hq).1), h.put.over _ hg h.apart, ho, fun h0 q hq e => by
    rcases hw with hw | hw
    · exact h.apart h0 q hq (by rw [e, hw])
    · have := h.put.block h0 q hq
      rw [hw] at e
      simp only [Option.some.injEq] at e
      omega⟩
/-- what the region keeps behind the text -/
theorem R9.conv {W w : World} {pv : Value} {pn : Nat} {ps : List Int} {r : Value} {m : Nat} {ys : List Int} {s : ByteArray} {c : Addr} {u : Value} (hs : s = strOfNums ps) (hc : W.cell? c = some u) (h : R9 W w pv pn ps r m ys) :
    (convert 22 9 pv).run Try.prog w = .ok (.string s) w ∧ w.cell? c = some u ∧ Below W.heap.size W w := ⟨by rw [hs]; exact conv_ri h.put, cell_keep h.below hc, h.below⟩
set_option maxRecDepth 8000 in
set_option maxHeartbeats 4000000 in
theorem packs_walk (a : Option Addr) (len cap : Nat) (zs : List Int) (la : Option Addr) (n lc : Nat) (ls : List (List Int)) (W : World) (hri : RI .u8 W (.slice a len cap) len zs) (hrl : RL .u8 W (.slice la n lc) n ls) (hb : ∀ l ∈ ls, isB l) (hlen : (len : Int) ≤ 140737488351232) :
    Calls Try.prog 3 #[.slice a len cap, .slice la n lc] W fun e w' => e = .returned (.bool true) ∧ Below W.heap.size W w' := by
  have HR := Lib.hid hri
  have HRL := Lib.hid hrl
  have HB := Lib.hid hb
  clear hri hrl hb
  by_cases hn : (n : Int) ≤ 200
  · obtain ⟨m, hm⟩ : ∃ m, (pk ls).length = m := ⟨_, rfl⟩
    obtain ⟨s, hs⟩ : ∃ s, s = strOfNums (pk ls) := ⟨_, rfl⟩
    have HM := Lib.hid hm
    have HS := Lib.hid hs
    have HN := Lib.hid hn
    clear hm hs hn
    go_enter Try.func3, Try.ntmps3
    go_wp2_with (first
      | (go_at_call 6; (with_reducible refine (few_yes _ _ _ _ HRL.out HN.out).mono ?_); rintro e w' ⟨rfl, rfl⟩)
      | (go_at_call 8; (with_reducible refine (fpack_any _ _ _ _ HRL.out (by have := HN.out; omega) m HM.out).mono ?_); rintro e w1 ⟨xv, rfl, hx1, hb1⟩; have HS0 := Lib.hid (show FP W (.slice a len cap) (.slice la n lc) xv len n m zs ls w1 from ⟨HR.out.keep hb1, HRL.out.keep hb1, hx1, hb1⟩); clear hx1 hb1))
    refine wp_region_held_drew (S := (fun w' => (convert 22 9 xv).run Try.prog w' = .ok (.string s) w' ∧ FP W (.slice a len cap) (.slice la n lc) xv len n m zs ls w')) (by kernel_rfl) (FP.conv HS.out (HS0.out.keep ((Below.refl _ _).drew))) (fun hS => ?_)
    refine wpAnyH_take (i := 0) (oi := ({ dst := some 17, op := Op.move (Operand.tmp 5), type := 22, pos := "law.go:25", after := #[], guard := none } : Oper)) (v := ?_) rfl (by kernel_rfl) (by kernel_rfl) (by kernel_rfl) (fun _ _ _ h => h) (Or.inl ⟨by rfl, ?_⟩) hS ?_
    rotate_left
    · (intro w hSw; (try dsimp only at hSw); go_simp; try with_reducible rfl)
    (try simp only [Act.put, List.setIfInBounds_toArray, List.set_cons_zero, List.set_cons_succ])
    refine wpAnyH_take (i := 1) (oi := ({ dst := some 18, op := Op.convert 22 9 (Operand.tmp 17), type := 9, pos := "law.go:25", after := #[{ on := 0, ground := Ground.data }], guard := none } : Oper)) (v := ?_) rfl (by kernel_rfl) (by kernel_rfl) (by kernel_rfl) (fun _ _ _ h => h) (Or.inl ⟨by rfl, ?_⟩) hS ?_
    rotate_left
    · (intro w hSw; (try dsimp only at hSw); go_simp; try with_reducible rfl)
    (try simp only [Act.put, List.setIfInBounds_toArray, List.set_cons_zero, List.set_cons_succ])
    refine wpAnyH_take (i := 2) (oi := ({ dst := some 19, op := Op.move (Operand.tmp 1), type := 23, pos := "law.go:25", after := #[], guard := none } : Oper)) (v := ?_) rfl (by kernel_rfl) (by kernel_rfl) (by kernel_rfl) (fun _ _ _ h => h) (Or.inl ⟨by rfl, ?_⟩) hS ?_
    rotate_left
    · (intro w hSw; (try dsimp only at hSw); go_simp; try with_reducible rfl)
    (try simp only [Act.put, List.setIfInBounds_toArray, List.set_cons_zero, List.set_cons_succ])
    refine rg_one 3 ({ dst := some 20, op := Op.call { callee := Callee.value (Operand.func 9), args := #[Operand.tmp 19], argTypes := #[23] }, type := 22, pos := "law.go:25", after := #[{ on := 2, ground := Ground.data }], guard := none } : Oper) (by kernel_rfl) rfl (fun K hK => ?_)
    go_simp
    (go_at_call 9; (with_reducible refine (rpack_text _ _ _ _ (FP.of hS).l HN.out s HS.out).mono ?_); rintro e w2 ⟨v, rfl, hcv, hb⟩)
    refine hK.out _ _ ?_ (fun hS1 => ?_)
    · (first | exact hS | exact FP.conv HS.out ((FP.of hS).keep hb))
    clear hK K hS; have hS := hS1; clear hS1
    (try simp only [Act.put, List.setIfInBounds_toArray, List.set_cons_zero, List.set_cons_succ])
    refine rg_one 4 ({ dst := some 21, op := Op.convert 22 9 (Operand.tmp 20), type := 9, pos := "law.go:25", after := #[{ on := 3, ground := Ground.data }], guard := none } : Oper) (by kernel_rfl) rfl (fun K hK => ?_)
    go_simp
    refine hK.out _ _ ?_ (fun hS1 => ?_)
    · (first | exact hS | exact FP.conv HS.out ((FP.of hS).keep hb))
    clear hK K hS; have hS := hS1; clear hS1
    (try simp only [Act.put, List.setIfInBounds_toArray, List.set_cons_zero, List.set_cons_succ])
    refine wpAnyH_take (i := 5) (oi := ({ dst := some 22, op := Op.binOp BinOp.neq 9 (Operand.tmp 18) (Operand.tmp 21) 9, type := 4, pos := "law.go:25", after := #[{ on := 1, ground := Ground.data }, { on := 4, ground := Ground.data }], guard := none } : Oper)) (v := ?_) rfl (by kernel_rfl) (by kernel_rfl) (by kernel_rfl) (fun _ _ _ h => h) (Or.inl ⟨by rfl, ?_⟩) hS ?_
    rotate_left
    · (intro w hSw; (try dsimp only at hSw); go_simp; try with_reducible rfl)
    (try simp only [Act.put, List.setIfInBounds_toArray, List.set_cons_zero, List.set_cons_succ])
    refine wpAnyH_done (by kernel_rfl) ?_ _
    have HS1 := Lib.hid (FP.of hS)
    clear hS hcv HS0
    go_wp2_with fail
    go_loopw [6] (fun iv wr => ∃ i : Nat, iv = .int .i64 i ∧ i ≤ n ∧ Hid (FP W (.slice a len cap) (.slice la n lc) xv len n m zs ls wr)) (fun iv _ => n - (intOf iv).toNat)
    case atStart => exact ⟨0, rfl, by omega, HS1⟩
    case round =>
      obtain ⟨i, rfl, hi, HF⟩ := hrel
      by_cases hlt : (i : Int) < (n : Int)
      · obtain ⟨b2, off2, rfl, hat⟩ := HF.out.l.at_ (by omega)
        obtain ⟨x1, c1, hcell, hrf⟩ := hat i (by omega)
        obtain ⟨lca, hlca⟩ : ∃ c, lc = c := ⟨_, rfl⟩
        have hlc : (i : Int) < (lc : Int) := by obtain ⟨_, _, e, h1, _⟩ := HF.out.l.form; simp only [Value.slice.injEq, true_and] at e; omega
        have hlc2 : ¬ lc = i := by omega
        have hmid := HF.out.l.mid' i 1 (by omega) hlc2
        have hone : (ls.drop i).take 1 = [ls.getD i []] := by
          have := HF.out.l.length
          rw [List.drop_eq_getElem_cons (show i < ls.length by omega)]; show [ls[i]'(by omega)] = _; simp [List.getD, show i < ls.length by omega]
        obtain ⟨j, hj⟩ : ∃ j, i + 1 = j := ⟨_, rfl⟩
        have hw : IntKind.i64.wrap ((i : Int) + 1) = (j : Int) := by
          have := HN.out
          rw [show ((i : Int) + 1) = (j : Int) from by omega]; rw [IntKind.wrap_i64]; omega
        have hjc : (j : Int) ≤ (lc : Int) := by omega
        have hij : i ≤ j := by omega
        have HJ := Lib.hid hj
        rw [hone, hj] at hmid
        rw [Option.map_some, show (⟨b2, off2, none⟩ : Addr).add i = ⟨b2, off2 + i, none⟩ from by unfold Addr.add; split <;> simp_all] at hmid
        clear hj
        generalize ls.getD i [] = f at hcell hrf hmid
        obtain ⟨s9, hs9⟩ : ∃ s, s = strOfNums (zs ++ fo f) := ⟨_, rfl⟩
        have HS9 := Lib.hid hs9
        have HS9' := Lib.hid (show strOfNums ([] ++ zs ++ pk [f]) = s9 from by rw [hs9, pk_one, List.nil_append])
        have HRF := Lib.hid hrf
        have HMID := Lib.hid hmid
        have HCELL := Lib.hid hcell
        have HPL := Lib.hid (show (pk [f]).length ≤ 65539 from by rw [pk_one]; exact fo_len f)
        have HC0 := Lib.hid (show wr.drew.cell? ⟨b2, off2 + i, none⟩ = some (.slice x1 f.length c1) ∧ Below wr.heap.size wr wr.drew from ⟨hcell, (Below.refl _ _).drew⟩)
        clear hs9 hrf hmid hcell hone hat hlca
        go_wp2_with fail
        refine wp_region_held_drew (S := (fun w' => w'.cell? ⟨b2, off2 + i, none⟩ = some (.slice x1 f.length c1) ∧ Below wr.heap.size wr w')) (by kernel_rfl) HC0.out (fun hS => ?_)
        refine wpAnyH_take (i := 0) (oi := ({ dst := some 29, op := Op.move (Operand.tmp 0), type := 22, pos := "law.go:29", after := #[], guard := none } : Oper)) (v := ?_) rfl (by kernel_rfl) (by kernel_rfl) (by kernel_rfl) (fun _ _ _ h => h) (Or.inl ⟨by rfl, ?_⟩) hS ?_
        rotate_left
        · (intro w hSw; (try dsimp only at hSw); go_simp; try with_reducible rfl)
        (try simp only [Act.put, List.setIfInBounds_toArray, List.set_cons_zero, List.set_cons_succ])
        refine wpAnyH_take (i := 1) (oi := ({ dst := some 30, op := Op.move (Operand.tmp 1), type := 23, pos := "law.go:29", after := #[], guard := none } : Oper)) (v := ?_) rfl (by kernel_rfl) (by kernel_rfl) (by kernel_rfl) (fun _ _ _ h => h) (Or.inl ⟨by rfl, ?_⟩) hS ?_
        rotate_left
        · (intro w hSw; (try dsimp only at hSw); go_simp; try with_reducible rfl)
        (try simp only [Act.put, List.setIfInBounds_toArray, List.set_cons_zero, List.set_cons_succ])
        refine wpAnyH_take (i := 2) (oi := ({ dst := some 31, op := Op.move (Operand.tmp 6), type := 3, pos := "law.go:29", after := #[], guard := none } : Oper)) (v := ?_) rfl (by kernel_rfl) (by kernel_rfl) (by kernel_rfl) (fun _ _ _ h => h) (Or.inl ⟨by rfl, ?_⟩) hS ?_
        rotate_left
        · (intro w hSw; (try dsimp only at hSw); go_simp; try with_reducible rfl)
        (try simp only [Act.put, List.setIfInBounds_toArray, List.set_cons_zero, List.set_cons_succ])
        refine wpAnyH_take (i := 3) (oi := ({ dst := some 32, op := Op.indexAddr 23 (Operand.tmp 30) (Operand.tmp 31), type := 0, pos := "law.go:29", after := #[{ on := 1, ground := Ground.data }, { on := 2, ground := Ground.data }], guard := none } : Oper)) (v := ?_) rfl (by kernel_rfl) (by kernel_rfl) (by kernel_rfl) (fun _ _ _ h => h) (Or.inl ⟨by rfl, ?_⟩) hS ?_
        rotate_left
        · (intro w hSw; (try dsimp only at hSw); go_simp; try with_reducible rfl)
        (try simp only [Act.put, List.setIfInBounds_toArray, List.set_cons_zero, List.set_cons_succ])
        refine wpAnyH_take (i := 4) (oi := ({ dst := some 33, op := Op.load 22 (Operand.tmp 32), type := 22, pos := "law.go:29", after := #[{ on := 3, ground := Ground.data }], guard := none } : Oper)) (v := ?_) rfl (by kernel_rfl) (by kernel_rfl) (by kernel_rfl) (fun _ _ _ h => h) (Or.inl ⟨by rfl, ?_⟩) hS ?_
        rotate_left
        · (intro w hSw; (try dsimp only at hSw); go_simp; try with_reducible rfl)
        (try simp only [Act.put, List.setIfInBounds_toArray, List.set_cons_zero, List.set_cons_succ])
        refine wpAnyH_take (i := 8) (oi := ({ dst := some 37, op := Op.move (Operand.tmp 0), type := 22, pos := "law.go:29", after := #[], guard := none } : Oper)) (v := ?_) rfl (by kernel_rfl) (by kernel_rfl) (by kernel_rfl) (fun _ _ _ h => h) (Or.inl ⟨by rfl, ?_⟩) hS ?_
        rotate_left
        · (intro w hSw; (try dsimp only at hSw); go_simp; try with_reducible rfl)
        (try simp only [Act.put, List.setIfInBounds_toArray, List.set_cons_zero, List.set_cons_succ])
        refine wpAnyH_take (i := 10) (oi := ({ dst := some 39, op := Op.move (Operand.tmp 1), type := 23, pos := "law.go:29", after := #[], guard := none } : Oper)) (v := ?_) rfl (by kernel_rfl) (by kernel_rfl) (by kernel_rfl) (fun _ _ _ h => h) (Or.inl ⟨by rfl, ?_⟩) hS ?_
        rotate_left
        · (intro w hSw; (try dsimp only at hSw); go_simp; try with_reducible rfl)
        (try simp only [Act.put, List.setIfInBounds_toArray, List.set_cons_zero, List.set_cons_succ])
        refine wpAnyH_take (i := 11) (oi := ({ dst := some 40, op := Op.move (Operand.tmp 6), type := 3, pos := "law.go:29", after := #[], guard := none } : Oper)) (v := ?_) rfl (by kernel_rfl) (by kernel_rfl) (by kernel_rfl) (fun _ _ _ h => h) (Or.inl ⟨by rfl, ?_⟩) hS ?_
        rotate_left
        · (intro w hSw; (try dsimp only at hSw); go_simp; try with_reducible rfl)
        (try simp only [Act.put, List.setIfInBounds_toArray, List.set_cons_zero, List.set_cons_succ])
        refine wpAnyH_take (i := 12) (oi := ({ dst := some 41, op := Op.move (Operand.tmp 6), type := 3, pos := "law.go:29", after := #[], guard := none } : Oper)) (v := ?_) rfl (by kernel_rfl) (by kernel_rfl) (by kernel_rfl) (fun _ _ _ h => h) (Or.inl ⟨by rfl, ?_⟩) hS ?_
        rotate_left
        · (intro w hSw; (try dsimp only at hSw); go_simp; try with_reducible rfl)
        (try simp only [Act.put, List.setIfInBounds_toArray, List.set_cons_zero, List.set_cons_succ])
        refine wpAnyH_take (i := 13) (oi := ({ dst := some 42, op := Op.binOp BinOp.add 3 (Operand.tmp 41) (Operand.const (Value.int IntKind.i64 1)) 3, type := 3, pos := "law.go:29", after := #[{ on := 12, ground := Ground.data }], guard := none } : Oper)) (v := ?_) rfl (by kernel_rfl) (by kernel_rfl) (by kernel_rfl) (fun _ _ _ h => h) (Or.inl ⟨by rfl, ?_⟩) hS ?_
        rotate_left
        · (intro w hSw; (try dsimp only at hSw); go_simp; try with_reducible rfl)
        (try simp only [Act.put, List.setIfInBounds_toArray, List.set_cons_zero, List.set_cons_succ])
        refine wpAnyH_take (i := 14) (oi := ({ dst := some 43, op := Op.slice 23 (Operand.tmp 39) (some (Operand.tmp 40)) (some (Operand.tmp 42)) none, type := 23, pos := "law.go:29", after := #[{ on := 10, ground := Ground.data }, { on := 11, ground := Ground.data }, { on := 13, ground := Ground.data }], guard := none } : Oper)) (v := ?_) rfl (by kernel_rfl) (by kernel_rfl) (by kernel_rfl) (fun _ _ _ h => h) (Or.inl ⟨by rfl, ?_⟩) hS ?_
        rotate_left
        · (intro w hSw; (try dsimp only at hSw); go_simp; try with_reducible rfl)
        (try simp only [Act.put, List.setIfInBounds_toArray, List.set_cons_zero, List.set_cons_succ])
        refine rg_both 5 7 ({ dst := some 34, op := Op.call { callee := Callee.value (Operand.func 10), args := #[Operand.tmp 29, Operand.tmp 33], argTypes := #[22, 22] }, type := 22, pos := "law.go:29", after := #[{ on := 0, ground := Ground.data }, { on := 4, ground := Ground.data }], guard := none } : Oper) ({ dst := some 36, op := Op.buildSlice 22 0 #[], type := 22, pos := "law.go:29", after := #[], guard := none } : Oper) (by kernel_rfl) rfl rfl (fun K hK => ?_) (fun K hK => ?_)
        · skip
          go_simp
          (go_at_call 10; (with_reducible refine (fput_any _ _ _ _ zs f _ (HF.out.b.keep hS.2) (HRF.out.keep hS.2) (by omega) _ rfl).mono ?_); rintro e w2 ⟨v34, rfl, hp, hb⟩; have hN : w2.cell? ⟨b2, off2 + i, none⟩ = some (.slice x1 f.length c1) ∧ Below wr.heap.size wr w2 := ⟨cell_keep hb hS.1, hS.2.trans (hb.mono hS.2.size)⟩)
          refine hK.out _ _ ?_ (fun hS1 => ?_)
          · (first | exact hN | exact hS)
          clear hK K hS; have hS := hS1; clear hS1
          (try simp only [Act.put, List.setIfInBounds_toArray, List.set_cons_zero, List.set_cons_succ])
          (apply rg_strong (S' := fun w' => (convert 22 9 v34).run Try.prog w' = .ok (.string s9) w' ∧ w'.cell? ⟨b2, off2 + i, none⟩ = some (.slice x1 f.length c1) ∧ Below wr.heap.size wr w') (fun _ h => h.2); have hS2 := hS; clear hS hN; have hS := And.intro (show (convert 22 9 v34).run Try.prog w2 = .ok (.string s9) w2 from by rw [HS9.out]; exact conv_ri (RI.own hp)) hS2; clear hS2)
          refine wpAnyH_take (i := 6) (oi := ({ dst := some 35, op := Op.convert 22 9 (Operand.tmp 34), type := 9, pos := "law.go:29", after := #[{ on := 5, ground := Ground.data }], guard := none } : Oper)) (v := ?_) rfl (by kernel_rfl) (by kernel_rfl) (by kernel_rfl) (fun _ _ _ h => h) (Or.inl ⟨by rfl, ?_⟩) hS ?_
          rotate_left
          · (intro w hSw; (try dsimp only at hSw); go_simp; try with_reducible rfl)
          (try simp only [Act.put, List.setIfInBounds_toArray, List.set_cons_zero, List.set_cons_succ])
          refine rg_one 7 ({ dst := some 36, op := Op.buildSlice 22 0 #[], type := 22, pos := "law.go:29", after := #[], guard := none } : Oper) (by kernel_rfl) rfl (fun K hK => ?_)
          go_simp
          (have HR9 := R9.first (W := wr) hS.2.2 (RI.own hp); have hN := R9.conv HS9.out HCELL.out HR9)
          refine hK.out _ _ ?_ (fun hS1 => ?_)
          · (first | exact hN | exact hS)
          clear hK K hS; have hS := hS1; clear hS1
          (try simp only [Act.put, List.setIfInBounds_toArray, List.set_cons_zero, List.set_cons_succ])
          refine rg_one 9 ({ dst := some 38, op := Op.call { callee := Callee.builtin Builtin.append, args := #[Operand.tmp 36, Operand.tmp 37], argTypes := #[22, 22] }, type := 22, pos := "law.go:29", after := #[{ on := 7, ground := Ground.data }, { on := 8, ground := Ground.data }, { on := 5, ground := Ground.chain }], guard := none } : Oper) (by kernel_rfl) rfl (fun K hK => ?_)
          rw [if_pos (by rfl)]; refine wp_appn (.tmp 36) (.tmp 37) 22 rfl 5 .u8 1 Try.underlying22 Try.info_u8 wr.heap.size _ 0 [] rfl HR9.row _ len zs rfl (HF.out.b.keep HR9.below) (by omega) (by omega) HR9.below.size (fun v38 w4 ho4 hg4 hw4 => ?_); have HR94 := HR9.app ho4 hg4 hw4; (try clear hN); have hN := R9.conv HS9.out HCELL.out HR94
          refine hK.out _ _ ?_ (fun hS1 => ?_)
          · (first | exact hN | exact hS)
          clear hK K hS; have hS := hS1; clear hS1
          (try simp only [Act.put, List.setIfInBounds_toArray, List.set_cons_zero, List.set_cons_succ])
          refine rg_one 15 ({ dst := some 44, op := Op.call { callee := Callee.value (Operand.func 9), args := #[Operand.tmp 43], argTypes := #[23] }, type := 22, pos := "law.go:29", after := #[{ on := 14, ground := Ground.data }, { on := 9, ground := Ground.chain }], guard := none } : Oper) (by kernel_rfl) rfl (fun K hK => ?_)
          go_simp
          (go_at_call 9; (with_reducible refine (rpack_any _ 1 [f] _ (HMID.out.keep HR94.below) (by omega)).mono ?_); rintro e w5 ⟨v44, rfl, ho5, hb5⟩; have HR95 := HR94.keep hb5; clear hN; have hN := R9.conv HS9.out HCELL.out HR95)
          refine hK.out _ _ ?_ (fun hS1 => ?_)
          · (first | exact hN | exact hS)
          clear hK K hS; have hS := hS1; clear hS1
          (try simp only [Act.put, List.setIfInBounds_toArray, List.set_cons_zero, List.set_cons_succ])
          refine rg_one 16 ({ dst := some 45, op := Op.call { callee := Callee.builtin Builtin.append, args := #[Operand.tmp 38, Operand.tmp 44], argTypes := #[22, 22] }, type := 22, pos := "law.go:29", after := #[{ on := 9, ground := Ground.data }, { on := 15, ground := Ground.data }, { on := 15, ground := Ground.chain }], guard := none } : Oper) (by kernel_rfl) rfl (fun K hK => ?_)
          rw [if_pos (by rfl)]; refine wp_appn (.tmp 38) (.tmp 44) 22 rfl 5 .u8 1 Try.underlying22 Try.info_u8 wr.heap.size _ (0 + len) ([] ++ zs) rfl HR95.row _ (pk [f]).length (pk [f]) rfl (RI.own ho5) (by have := HPL.out; omega) (by have := HPL.out; omega) HR95.below.size (fun v45 w6 ho6 hg6 hw6 => ?_); have HR96 := HR95.app ho6 hg6 hw6; clear hN; have hN := R9.conv HS9.out HCELL.out HR96; have hcv := conv_ri (RI.own ho6); rw [HS9'.out] at hcv
          refine hK.out _ _ ?_ (fun hS1 => ?_)
          · (first | exact hN | exact hS)
          clear hK K hS; have hS := hS1; clear hS1
          (try simp only [Act.put, List.setIfInBounds_toArray, List.set_cons_zero, List.set_cons_succ])
          refine rg_one 17 ({ dst := some 46, op := Op.convert 22 9 (Operand.tmp 45), type := 9, pos := "law.go:29", after := #[{ on := 16, ground := Ground.data }], guard := none } : Oper) (by kernel_rfl) rfl (fun K hK => ?_)
          go_simp
          refine hK.out _ _ ?_ (fun hS1 => ?_)
          · (first | exact hN | exact hS)
          clear hK K hS; have hS := hS1; clear hS1
          (try simp only [Act.put, List.setIfInBounds_toArray, List.set_cons_zero, List.set_cons_succ])
          refine wpAnyH_take (i := 18) (oi := ({ dst := some 47, op := Op.binOp BinOp.neq 9 (Operand.tmp 35) (Operand.tmp 46) 9, type := 4, pos := "law.go:29", after := #[{ on := 6, ground := Ground.data }, { on := 17, ground := Ground.data }], guard := none } : Oper)) (v := ?_) rfl (by kernel_rfl) (by kernel_rfl) (by kernel_rfl) (fun _ _ _ h => h) (Or.inl ⟨by rfl, ?_⟩) hS ?_
          rotate_left
          · (intro w hSw; (try dsimp only at hSw); go_simp; try with_reducible rfl)
          (try simp only [Act.put, List.setIfInBounds_toArray, List.set_cons_zero, List.set_cons_succ])
          refine wpAnyH_done (by kernel_rfl) ?_ _
          go_wp2
          go_roundw
          case rel => exact ⟨j, rfl, by have := HJ.out; omega, Lib.hid (HF.out.keep hS.2.2)⟩
          case measure => (have := HJ.out; simp [intOf]; omega)
        · skip
          go_simp
          (have ho7 := own_empty (e := 5) (k := .u8) (w := wr.drew) (base := wr.heap.size) rfl (by exact hS.2.size); have hN : (wr.drew.alloc (.cells #[] 5)).cell? ⟨b2, off2 + i, none⟩ = some (.slice x1 f.length c1) ∧ Below wr.heap.size wr (wr.drew.alloc (.cells #[] 5)) := ⟨cell_keep ((Below.refl _ _).alloc (Nat.le_refl _) _) hS.1, hS.2.alloc hS.2.size _⟩)
          refine hK.out _ _ ?_ (fun hS1 => ?_)
          · (first | exact hN | exact hS)
          clear hK K hS; have hS := hS1; clear hS1
          (try simp only [Act.put, List.setIfInBounds_toArray, List.set_cons_zero, List.set_cons_succ])
          refine rg_one 5 ({ dst := some 34, op := Op.call { callee := Callee.value (Operand.func 10), args := #[Operand.tmp 29, Operand.tmp 33], argTypes := #[22, 22] }, type := 22, pos := "law.go:29", after := #[{ on := 0, ground := Ground.data }, { on := 4, ground := Ground.data }], guard := none } : Oper) (by kernel_rfl) rfl (fun K hK => ?_)
          go_simp
          (go_at_call 10; (with_reducible refine (fput_any _ _ _ _ zs f _ (HF.out.b.keep hS.2) (HRF.out.keep hS.2) (by omega) _ rfl).mono ?_); rintro e w3 ⟨v34, rfl, hp, hb⟩; have HR9 := R9.second hS.2 ho7.out hp hb; clear hN; have hN := (R9.conv HS9.out HCELL.out HR9).2)
          refine hK.out _ _ ?_ (fun hS1 => ?_)
          · (first | exact hN | exact hS)
          clear hK K hS; have hS := hS1; clear hS1
          (try simp only [Act.put, List.setIfInBounds_toArray, List.set_cons_zero, List.set_cons_succ])
          (apply rg_strong (S' := fun w' => (convert 22 9 v34).run Try.prog w' = .ok (.string s9) w' ∧ w'.cell? ⟨b2, off2 + i, none⟩ = some (.slice x1 f.length c1) ∧ Below wr.heap.size wr w') (fun _ h => h.2); clear hS hN; have hS := R9.conv HS9.out HCELL.out HR9)
          refine wpAnyH_take (i := 6) (oi := ({ dst := some 35, op := Op.convert 22 9 (Operand.tmp 34), type := 9, pos := "law.go:29", after := #[{ on := 5, ground := Ground.data }], guard := none } : Oper)) (v := ?_) rfl (by kernel_rfl) (by kernel_rfl) (by kernel_rfl) (fun _ _ _ h => h) (Or.inl ⟨by rfl, ?_⟩) hS ?_
          rotate_left
          · (intro w hSw; (try dsimp only at hSw); go_simp; try with_reducible rfl)
          (try simp only [Act.put, List.setIfInBounds_toArray, List.set_cons_zero, List.set_cons_succ])
          refine rg_one 9 ({ dst := some 38, op := Op.call { callee := Callee.builtin Builtin.append, args := #[Operand.tmp 36, Operand.tmp 37], argTypes := #[22, 22] }, type := 22, pos := "law.go:29", after := #[{ on := 7, ground := Ground.data }, { on := 8, ground := Ground.data }, { on := 5, ground := Ground.chain }], guard := none } : Oper) (by kernel_rfl) rfl (fun K hK => ?_)
          rw [if_pos (by rfl)]; refine wp_appn (.tmp 36) (.tmp 37) 22 rfl 5 .u8 1 Try.underlying22 Try.info_u8 wr.heap.size _ 0 [] rfl HR9.row _ len zs rfl (HF.out.b.keep HR9.below) (by omega) (by omega) HR9.below.size (fun v38 w4 ho4 hg4 hw4 => ?_); have HR94 := HR9.app ho4 hg4 hw4; (try clear hN); have hN := R9.conv HS9.out HCELL.out HR94
          refine hK.out _ _ ?_ (fun hS1 => ?_)
          · (first | exact hN | exact hS)
          clear hK K hS; have hS := hS1; clear hS1
          (try simp only [Act.put, List.setIfInBounds_toArray, List.set_cons_zero, List.set_cons_succ])
          refine rg_one 15 ({ dst := some 44, op := Op.call { callee := Callee.value (Operand.func 9), args := #[Operand.tmp 43], argTypes := #[23] }, type := 22, pos := "law.go:29", after := #[{ on := 14, ground := Ground.data }, { on := 9, ground := Ground.chain }], guard := none } : Oper) (by kernel_rfl) rfl (fun K hK => ?_)
          go_simp
          (go_at_call 9; (with_reducible refine (rpack_any _ 1 [f] _ (HMID.out.keep HR94.below) (by omega)).mono ?_); rintro e w5 ⟨v44, rfl, ho5, hb5⟩; have HR95 := HR94.keep hb5; clear hN; have hN := R9.conv HS9.out HCELL.out HR95)
          refine hK.out _ _ ?_ (fun hS1 => ?_)
          · (first | exact hN | exact hS)
          clear hK K hS; have hS := hS1; clear hS1
          (try simp only [Act.put, List.setIfInBounds_toArray, List.set_cons_zero, List.set_cons_succ])
          refine rg_one 16 ({ dst := some 45, op := Op.call { callee := Callee.builtin Builtin.append, args := #[Operand.tmp 38, Operand.tmp 44], argTypes := #[22, 22] }, type := 22, pos := "law.go:29", after := #[{ on := 9, ground := Ground.data }, { on := 15, ground := Ground.data }, { on := 15, ground := Ground.chain }], guard := none } : Oper) (by kernel_rfl) rfl (fun K hK => ?_)
          rw [if_pos (by rfl)]; refine wp_appn (.tmp 38) (.tmp 44) 22 rfl 5 .u8 1 Try.underlying22 Try.info_u8 wr.heap.size _ (0 + len) ([] ++ zs) rfl HR95.row _ (pk [f]).length (pk [f]) rfl (RI.own ho5) (by have := HPL.out; omega) (by have := HPL.out; omega) HR95.below.size (fun v45 w6 ho6 hg6 hw6 => ?_); have HR96 := HR95.app ho6 hg6 hw6; clear hN; have hN := R9.conv HS9.out HCELL.out HR96; have hcv := conv_ri (RI.own ho6); rw [HS9'.out] at hcv
          refine hK.out _ _ ?_ (fun hS1 => ?_)
          · (first | exact hN | exact hS)
          clear hK K hS; have hS := hS1; clear hS1
          (try simp only [Act.put, List.setIfInBounds_toArray, List.set_cons_zero, List.set_cons_succ])
          refine rg_one 17 ({ dst := some 46, op := Op.convert 22 9 (Operand.tmp 45), type := 9, pos := "law.go:29", after := #[{ on := 16, ground := Ground.data }], guard := none } : Oper) (by kernel_rfl) rfl (fun K hK => ?_)
          go_simp
          refine hK.out _ _ ?_ (fun hS1 => ?_)
          · (first | exact hN | exact hS)
          clear hK K hS; have hS := hS1; clear hS1
          (try simp only [Act.put, List.setIfInBounds_toArray, List.set_cons_zero, List.set_cons_succ])
          refine wpAnyH_take (i := 18) (oi := ({ dst := some 47, op := Op.binOp BinOp.neq 9 (Operand.tmp 35) (Operand.tmp 46) 9, type := 4, pos := "law.go:29", after := #[{ on := 6, ground := Ground.data }, { on := 17, ground := Ground.data }], guard := none } : Oper)) (v := ?_) rfl (by kernel_rfl) (by kernel_rfl) (by kernel_rfl) (fun _ _ _ h => h) (Or.inl ⟨by rfl, ?_⟩) hS ?_
          rotate_left
          · (intro w hSw; (try dsimp only at hSw); go_simp; try with_reducible rfl)
          (try simp only [Act.put, List.setIfInBounds_toArray, List.set_cons_zero, List.set_cons_succ])
          refine wpAnyH_done (by kernel_rfl) ?_ _
          go_wp2
          go_roundw
          case rel => exact ⟨j, rfl, by have := HJ.out; omega, Lib.hid (HF.out.keep hS.2.2)⟩
          case measure => (have := HJ.out; simp [intOf]; omega)
      · obtain ⟨ns, hns⟩ : ∃ l, ur (pk ls) = l := ⟨_, rfl⟩
        obtain ⟨k, hk⟩ : ∃ k, ns.length = k := ⟨_, rfl⟩
        have HE := Lib.hid (uf_pk ls HB.out)
        have HIP := Lib.hid (show isB (pk ls) from pk_bytes ls HB.out)
        have HIN := Lib.hid (show ∀ l ∈ ns, isB l from fun l hl => (ur_bytes (pk ls) HIP.out l (by rw [hns]; exact hl)).1)
        have HML := Lib.hid (show (m : Int) * 24 ≤ 140737488355328 from by have := pk_len ls; have h1 := HN.out; have h2 := HF.out.l.length; rw [HM.out] at this; omega)
        have HNS := Lib.hid hns
        have HK := Lib.hid hk
        clear hns hk
        go_wp2_with (first
          | (go_at_call 11; (with_reducible refine (funpack_any _ _ _ _ HF.out.x HIP.out HML.out k ns 0 HNS.out HK.out HE.out).mono ?_); rintro e w2 ⟨v1, rfl, hf1, hb1⟩; have HF1 := Lib.hid hf1; have HF2 := Lib.hid (HF.out.keep hb1); clear hf1 hb1)
          | (go_at_call 9; (with_reducible refine (rpack_any _ _ _ _ HF2.out.l (by have := HN.out; omega)).mono ?_); rintro e w3 ⟨v2, rfl, hf2, hb2⟩; rw [HM.out] at hf2; have HF3 := Lib.hid (RI.own hf2); have HF4 := Lib.hid (HF1.out.keep hb2); have HF5 := Lib.hid (HF2.out.keep hb2); clear hf2 hb2)
          | (go_at_call 12; (with_reducible refine (runpack_any _ _ _ _ HF3.out HIP.out HML.out k ns 0 HNS.out HK.out HE.out).mono ?_); rintro e w4 ⟨v3, rfl, hf3, hb3⟩; have HF6 := Lib.hid hf3; have HF7 := Lib.hid (HF4.out.keep hb3); have HF8 := Lib.hid (HF5.out.keep hb3); clear hf3 hb3)
          | (go_at_call 13; (with_reducible refine (same_yes _ _ _ _ _ HF7.out HF6.out HIN.out).mono ?_); rintro e w5 ⟨rfl, hb4⟩; have HB4 := Lib.hid (HF8.out.out.trans (hb4.mono HF8.out.out.size)); clear hb4)
          | (go_at_call 7; (with_reducible refine (awake_any _).mono ?_); rintro e w6 ⟨rfl, hb5⟩; have HB5 := Lib.hid (HB4.out.trans (hb5.mono HB4.out.size)); clear hb5))
        go_ret
        exact ⟨rfl, HB5.out⟩
  · have HN := Lib.hid hn
    clear hn
    go_enter Try.func3, Try.ntmps3
    go_wp2_with (first
      | (go_at_call 6; (with_reducible refine (few_no _ _ _ _ HRL.out HN.out).mono ?_); rintro e w' ⟨rfl, rfl⟩)
      | (go_at_call 7; (with_reducible refine (awake_any _).mono ?_); rintro e w6 ⟨rfl, hb5⟩; have HB5 := Lib.hid hb5; clear hb5))
    go_ret
    exact ⟨rfl, HB5.out⟩
end Go.Proofs.Ytkgpbkkcpcdogaa
