/-
  awake OF LAYER 17: it answers true and changes nothing that was there; few.
-/
import Derived.Test.YtjlnceldnbpapaaDoorImgPlaces
import Derived.Test.YtjlnceldnbpapaaDoorRegion
namespace Go.Proofs.YtjlnceldnbpapaaDoor
open Go.RowKit
/-- a record that fits into what is left of its block -/
theorem end_one {x : Int} {n : Nat} (hb : beginN (nr x) ≠ 832) (hn : n ≤ leftN (beginN (nr x)) - 11) : fitI x n = true ∧ endI x n = beginN (nr x) + 11 + n := by
  have h0 : Run (nr x) n 0 := Run.zero (nr_le x)
  have h1 := h0.next (.inl rfl) hb
  have hf : fS (nr x) n (0 + 1) = n := by
    rw [fS_next, fS_zero]
    show 0 + min (n - 0) (leftN (beginN (nr x)) - 11) = n
    omega
  obtain ⟨hfit, hc⟩ := h1.end_ (nr_le x) (by omega) hf
  have hcut := cuts_cnt (nr_le x) hfit
  rw [hc] at hcut
  obtain ⟨q1, _, q3⟩ := told_yes hcut hfit
  refine ⟨q1, q3.trans ?_⟩
  rw [pS_next, fS_zero]
  show beginN (nr x) + 11 + min (n - 0) (leftN (beginN (nr x)) - 11) = _
  omega
def z10 : List Int := List.replicate 10 0
theorem z10_len : z10.length = 10 := List.length_replicate
theorem two_places : fitsF [z10, z10] = true ∧ placesF [z10, z10] = [0, 21] := by
  have e1 : endF [z10] = 21 := by
    have h := endF_snoc [] z10
    rw [List.nil_append, endF_nil] at h
    rw [h]
    exact (end_one (x := ((0 : Nat) : Int)) (n := 10) (by decide) (by decide)).2
  have f0 : fitI ((0 : Nat) : Int) (10 : Nat) = true := by decide
  have f1 : fitI ((21 : Nat) : Int) (10 : Nat) = true := by decide
  have g1 : fitsF [z10] = true := by
    have h := fitsF_snoc [] z10
    rw [List.nil_append] at h
    rw [h]
    have : fitsF [] = true := rfl
    rw [this, endF_nil]
    exact f0
  have p1 : placesF [z10] = [0] := by
    have h := placesF_snoc [] z10
    rw [List.nil_append] at h
    rw [h]
    rfl
  constructor
  · have h := fitsF_snoc [z10] z10
    rw [show [z10] ++ [z10] = [z10, z10] from rfl] at h
    rw [h, g1, e1]
    exact f1
  · have h := placesF_snoc [z10] z10
    rw [show [z10] ++ [z10] = [z10, z10] from rfl] at h
    rw [h, p1, e1]
    rfl
theorem wp_make_yb' {w : World} {o : Oper} {a : Act} {K : Act → World → Prop} {Q : Exit → Act → World → Prop} (x y : Operand) (ho : o.op = Op.makeSlice 26 x y) (n : Nat) (hx : a.eval x = .int .i64 (n : Int)) (hy : a.eval y = .int .i64 (n : Int)) (hn : n ≤ 1000000)
    (h : ∀ g w', Hid (YB w' g (List.replicate n 0)) → Hid (w.heap.size ≤ g) → Hid (Below w.heap.size w w') → K (a.put o.dst (.slice (some ⟨g, 0, none⟩) n n)) w') : o.wp Tryd.prog a w K Q := by
  have hrun := make_bytes_run n (by omega) w
  unfold Oper.wp
  simp [execOp, ho, hx, hy, hrun, Result.andThen]
  exact h _ _ (heap_alloc_last w _) (Nat.le_refl _) (below_alloc w _)
/-- a list of two slices, just built -/
theorem rl_two {w : World} {g1 g2 : Nat} {n : Nat} {z1 z2 : List Int} (h1 : YB w g1 z1) (h2 : YB w g2 z2) (l1 : z1.length = n) (l2 : z2.length = n) (hn : n ≤ 1000000) :
    RL .u8 (w.alloc (.cells #[.slice (some ⟨g1, 0, none⟩) n n, .slice (some ⟨g2, 0, none⟩) n n] 26)) (.slice (some ⟨w.heap.size, 0, none⟩) 2 2) 2 [z1, z2] := by
  have hb := balloc w (.cells #[.slice (some ⟨g1, 0, none⟩) n n, .slice (some ⟨g2, 0, none⟩) n n] 26)
  have hg := heap_alloc_last w (.cells #[.slice (some ⟨g1, 0, none⟩) n n, .slice (some ⟨g2, 0, none⟩) n n] 26)
  refine ⟨[.slice (some ⟨g1, 0, none⟩) n n, .slice (some ⟨g2, 0, none⟩) n n], ⟨_, 2, rfl, rfl, Nat.le_refl _, by omega, fun h => by simp at h, fun _ => ⟨w.heap.size, 0, rfl, fun j hj => ?_⟩⟩, rfl, fun j e l he hl => ?_⟩
  · rw [Nat.zero_add, cell_of_row _ w.heap.size j _ _ _ hg]; simp
  · match j, he, hl with
    | 0, he, hl =>
      simp at he hl
      subst he hl
      rw [l1]
      exact (h1.ri l1 hn).keep hb
    | 1, he, hl =>
      simp at he hl
      subst he hl
      rw [l2]
      exact (h2.ri l2 hn).keep hb
set_option maxRecDepth 8000 in
set_option maxHeartbeats 1000000 in
theorem few_any (a : Option Addr) (n c : Nat) (w : World) : Calls Tryd.prog 6 #[.slice a n c] w fun e w' => e = .returned (.bool (decide (n ≤ 100))) ∧ w = w' := by
  go_enter Tryd.func6, Tryd.ntmps6
  go_wp2
  go_ret
  exact ⟨ret_bool (by rw [decide_eq_decide]; omega), rfl⟩
set_option maxRecDepth 8000 in
set_option maxHeartbeats 2000000 in
theorem awake_any (w : World) : Calls Tryd.prog 7 #[] w fun e w' => e = .returned (.bool true) ∧ Below w.heap.size w w' := by
  have HP : Hid (∀ (v : Value) (w : World), RL .u8 w v 2 [z10, z10] → Calls Tryd.prog 10 #[v] w fun e w' => ∃ g c, e = .returned (.tuple #[.slice (some ⟨g, 0, none⟩) 2 c, .bool true]) ∧ w'.cell? ⟨g, 1, none⟩ = some (.int .i64 21) ∧ Below w.heap.size w w') := Lib.hid fun v w h => by
    refine (places_any v 2 _ (by omega) w h).mono ?_
    rintro e w' (⟨_, a, c, rfl, ho, hb⟩ | ⟨hf, _⟩)
    · rcases id ho.2 with ⟨_, h0⟩ | ⟨g, cp, cur, hv, _⟩
      · cases h0
      cases hv
      refine ⟨g, c, rfl, ?_, hb⟩
      rw [ho.cellAt 1 (by omega), two_places.2]
      rfl
    · rw [two_places.1] at hf; cases hf
  go_enter Tryd.func7, Tryd.ntmps7
  go_wp2_with fail
  refine wp_region_held_drew (S := (fun w' => Below w.heap.size w w')) (by kernel_rfl) ((Below.refl _ _).drew) (fun hS => ?_)
  refine rg_both 0 1 ({ dst := some 4, op := Op.makeSlice 26 (Operand.const (Value.int IntKind.i64 10)) (Operand.const (Value.int IntKind.i64 10)), type := 26, pos := "law.go:12", after := #[], guard := none } : Oper) ({ dst := some 5, op := Op.makeSlice 26 (Operand.const (Value.int IntKind.i64 10)) (Operand.const (Value.int IntKind.i64 10)), type := 26, pos := "law.go:12", after := #[], guard := none } : Oper) (by kernel_rfl) rfl rfl (fun K hK => ?_) (fun K hK => ?_)
  · skip
    rw [if_pos (by rfl)]; refine wp_make_yb' _ _ rfl 10 rfl rfl (by omega) ?_; intro g1 wa HY1 HG1 hb; have hN := hS.trans (hb.out.mono hS.size)
    refine hK.out _ _ ?_ (fun hS1 => ?_)
    · (exact hN)
    clear hK K hS; have hS := hS1; clear hS1
    (try simp only [Act.put, List.setIfInBounds_toArray, List.set_cons_zero, List.set_cons_succ])
    refine rg_one 1 ({ dst := some 5, op := Op.makeSlice 26 (Operand.const (Value.int IntKind.i64 10)) (Operand.const (Value.int IntKind.i64 10)), type := 26, pos := "law.go:12", after := #[], guard := none } : Oper) (by kernel_rfl) rfl (fun K hK => ?_)
    rw [if_pos (by rfl)]; refine wp_make_yb' _ _ rfl 10 rfl rfl (by omega) ?_; intro g2 wb HY2 HG2 hb; have hN := hS.trans (hb.out.mono hS.size); have HY1 := Lib.hid (HY1.out.keep hb.out)
    refine hK.out _ _ ?_ (fun hS1 => ?_)
    · (exact hN)
    clear hK K hS; have hS := hS1; clear hS1
    (try simp only [Act.put, List.setIfInBounds_toArray, List.set_cons_zero, List.set_cons_succ])
    refine rg_one 2 ({ dst := some 6, op := Op.buildSlice 23 2 #[(0, Operand.tmp 4), (1, Operand.tmp 5)], type := 23, pos := "law.go:12", after := #[{ on := 0, ground := Ground.data }, { on := 1, ground := Ground.data }], guard := none } : Oper) (by kernel_rfl) rfl (fun K hK => ?_)
    go_simp
    (have hN := hS.trans ((balloc wb (.cells #[.slice (some ⟨g1, 0, none⟩) 10 10, .slice (some ⟨g2, 0, none⟩) 10 10] 26)).mono hS.size))
    refine hK.out _ _ ?_ (fun hS1 => ?_)
    · (exact hN)
    clear hK K hS; have hS := hS1; clear hS1
    (try simp only [Act.put, List.setIfInBounds_toArray, List.set_cons_zero, List.set_cons_succ])
    refine rg_one 3 ({ dst := some 7, op := Op.call { callee := Callee.value (Operand.func 10), args := #[Operand.tmp 6], argTypes := #[23] }, type := 32, pos := "law.go:12", after := #[{ on := 2, ground := Ground.data }], guard := none } : Oper) (by kernel_rfl) rfl (fun K hK => ?_)
    go_simp
    (go_at_call 10; (with_reducible refine (HP.out _ _ (rl_two (z1 := z10) (z2 := z10) HY1.out HY2.out z10_len z10_len (by omega))).mono ?_); rintro e w3 ⟨g3, c3, rfl, hc, hb3⟩; have hN := hS.trans (hb3.mono hS.size))
    refine hK.out _ _ ?_ (fun hS1 => ?_)
    · (exact hN)
    clear hK K hS; have hS := hS1; clear hS1
    (try simp only [Act.put, List.setIfInBounds_toArray, List.set_cons_zero, List.set_cons_succ])
    refine wpAnyH_take (i := 4) (oi := ({ dst := some 3, op := Op.move (Operand.tmp 7), type := 32, pos := "law.go:12", after := #[{ on := 3, ground := Ground.data }], guard := none } : Oper)) (v := ?_) rfl (by kernel_rfl) (by kernel_rfl) (by kernel_rfl) (fun _ _ _ h => h) (Or.inl ⟨by rfl, ?_⟩) hS ?_
    rotate_left
    · (intro w hSw; (try dsimp only at hSw); go_simp; try with_reducible rfl)
    (try simp only [Act.put, List.setIfInBounds_toArray, List.set_cons_zero, List.set_cons_succ])
    refine wpAnyH_take (i := 5) (oi := ({ dst := some 8, op := Op.extract (Operand.tmp 3) 0, type := 29, pos := "law.go:12", after := #[{ on := 4, ground := Ground.data }], guard := none } : Oper)) (v := ?_) rfl (by kernel_rfl) (by kernel_rfl) (by kernel_rfl) (fun _ _ _ h => h) (Or.inl ⟨by rfl, ?_⟩) hS ?_
    rotate_left
    · (intro w hSw; (try dsimp only at hSw); go_simp; try with_reducible rfl)
    (try simp only [Act.put, List.setIfInBounds_toArray, List.set_cons_zero, List.set_cons_succ])
    refine wpAnyH_take (i := 6) (oi := ({ dst := some 9, op := Op.extract (Operand.tmp 3) 1, type := 4, pos := "law.go:12", after := #[{ on := 4, ground := Ground.data }, { on := 7, ground := Ground.gcOnly Departure.lateStores }], guard := none } : Oper)) (v := ?_) rfl (by kernel_rfl) (by kernel_rfl) (by kernel_rfl) (fun _ _ _ h => h) (Or.inl ⟨by rfl, ?_⟩) hS ?_
    rotate_left
    · (intro w hSw; (try dsimp only at hSw); go_simp; try with_reducible rfl)
    (try simp only [Act.put, List.setIfInBounds_toArray, List.set_cons_zero, List.set_cons_succ])
    refine wpAnyH_take (i := 7) (oi := ({ dst := some 1, op := Op.assign (Operand.tmp 8), type := 29, pos := "law.go:12", after := #[{ on := 5, ground := Ground.data }, { on := 3, ground := Ground.chain }, { on := 0, ground := Ground.phase }, { on := 1, ground := Ground.phase }, { on := 2, ground := Ground.phase }, { on := 3, ground := Ground.phase }, { on := 4, ground := Ground.phase }, { on := 5, ground := Ground.phase }, { on := 6, ground := Ground.textOnly Departure.lateStores }], guard := none } : Oper)) (v := ?_) rfl (by kernel_rfl) (by kernel_rfl) (by kernel_rfl) (fun _ _ _ h => h) (Or.inl ⟨by rfl, ?_⟩) hS ?_
    rotate_left
    · (intro w hSw; (try dsimp only at hSw); go_simp; try with_reducible rfl)
    (try simp only [Act.put, List.setIfInBounds_toArray, List.set_cons_zero, List.set_cons_succ])
    refine wpAnyH_take (i := 8) (oi := ({ dst := some 2, op := Op.assign (Operand.tmp 9), type := 4, pos := "law.go:12", after := #[{ on := 6, ground := Ground.data }, { on := 7, ground := Ground.chain }, { on := 0, ground := Ground.phase }, { on := 1, ground := Ground.phase }, { on := 2, ground := Ground.phase }, { on := 3, ground := Ground.phase }, { on := 4, ground := Ground.phase }, { on := 5, ground := Ground.phase }, { on := 6, ground := Ground.phase }, { on := 7, ground := Ground.phase }], guard := none } : Oper)) (v := ?_) rfl (by kernel_rfl) (by kernel_rfl) (by kernel_rfl) (fun _ _ _ h => h) (Or.inl ⟨by rfl, ?_⟩) hS ?_
    rotate_left
    · (intro w hSw; (try dsimp only at hSw); go_simp; try with_reducible rfl)
    (try simp only [Act.put, List.setIfInBounds_toArray, List.set_cons_zero, List.set_cons_succ])
    refine wpAnyH_done (by kernel_rfl) ?_ _
    have HN := Lib.hid hN
    go_wp2
    go_ret
    exact ⟨rfl, HN.out⟩
  · skip
    rw [if_pos (by rfl)]; refine wp_make_yb' _ _ rfl 10 rfl rfl (by omega) ?_; intro g2 wa HY2 HG2 hb; have hN := hS.trans (hb.out.mono hS.size)
    refine hK.out _ _ ?_ (fun hS1 => ?_)
    · (exact hN)
    clear hK K hS; have hS := hS1; clear hS1
    (try simp only [Act.put, List.setIfInBounds_toArray, List.set_cons_zero, List.set_cons_succ])
    refine rg_one 0 ({ dst := some 4, op := Op.makeSlice 26 (Operand.const (Value.int IntKind.i64 10)) (Operand.const (Value.int IntKind.i64 10)), type := 26, pos := "law.go:12", after := #[], guard := none } : Oper) (by kernel_rfl) rfl (fun K hK => ?_)
    rw [if_pos (by rfl)]; refine wp_make_yb' _ _ rfl 10 rfl rfl (by omega) ?_; intro g1 wb HY1 HG1 hb; have hN := hS.trans (hb.out.mono hS.size); have HY2 := Lib.hid (HY2.out.keep hb.out)
    refine hK.out _ _ ?_ (fun hS1 => ?_)
    · (exact hN)
    clear hK K hS; have hS := hS1; clear hS1
    (try simp only [Act.put, List.setIfInBounds_toArray, List.set_cons_zero, List.set_cons_succ])
    refine rg_one 2 ({ dst := some 6, op := Op.buildSlice 23 2 #[(0, Operand.tmp 4), (1, Operand.tmp 5)], type := 23, pos := "law.go:12", after := #[{ on := 0, ground := Ground.data }, { on := 1, ground := Ground.data }], guard := none } : Oper) (by kernel_rfl) rfl (fun K hK => ?_)
    go_simp
    (have hN := hS.trans ((balloc wb (.cells #[.slice (some ⟨g1, 0, none⟩) 10 10, .slice (some ⟨g2, 0, none⟩) 10 10] 26)).mono hS.size))
    refine hK.out _ _ ?_ (fun hS1 => ?_)
    · (exact hN)
    clear hK K hS; have hS := hS1; clear hS1
    (try simp only [Act.put, List.setIfInBounds_toArray, List.set_cons_zero, List.set_cons_succ])
    refine rg_one 3 ({ dst := some 7, op := Op.call { callee := Callee.value (Operand.func 10), args := #[Operand.tmp 6], argTypes := #[23] }, type := 32, pos := "law.go:12", after := #[{ on := 2, ground := Ground.data }], guard := none } : Oper) (by kernel_rfl) rfl (fun K hK => ?_)
    go_simp
    (go_at_call 10; (with_reducible refine (HP.out _ _ (rl_two (z1 := z10) (z2 := z10) HY1.out HY2.out z10_len z10_len (by omega))).mono ?_); rintro e w3 ⟨g3, c3, rfl, hc, hb3⟩; have hN := hS.trans (hb3.mono hS.size))
    refine hK.out _ _ ?_ (fun hS1 => ?_)
    · (exact hN)
    clear hK K hS; have hS := hS1; clear hS1
    (try simp only [Act.put, List.setIfInBounds_toArray, List.set_cons_zero, List.set_cons_succ])
    refine wpAnyH_take (i := 4) (oi := ({ dst := some 3, op := Op.move (Operand.tmp 7), type := 32, pos := "law.go:12", after := #[{ on := 3, ground := Ground.data }], guard := none } : Oper)) (v := ?_) rfl (by kernel_rfl) (by kernel_rfl) (by kernel_rfl) (fun _ _ _ h => h) (Or.inl ⟨by rfl, ?_⟩) hS ?_
    rotate_left
    · (intro w hSw; (try dsimp only at hSw); go_simp; try with_reducible rfl)
    (try simp only [Act.put, List.setIfInBounds_toArray, List.set_cons_zero, List.set_cons_succ])
    refine wpAnyH_take (i := 5) (oi := ({ dst := some 8, op := Op.extract (Operand.tmp 3) 0, type := 29, pos := "law.go:12", after := #[{ on := 4, ground := Ground.data }], guard := none } : Oper)) (v := ?_) rfl (by kernel_rfl) (by kernel_rfl) (by kernel_rfl) (fun _ _ _ h => h) (Or.inl ⟨by rfl, ?_⟩) hS ?_
    rotate_left
    · (intro w hSw; (try dsimp only at hSw); go_simp; try with_reducible rfl)
    (try simp only [Act.put, List.setIfInBounds_toArray, List.set_cons_zero, List.set_cons_succ])
    refine wpAnyH_take (i := 6) (oi := ({ dst := some 9, op := Op.extract (Operand.tmp 3) 1, type := 4, pos := "law.go:12", after := #[{ on := 4, ground := Ground.data }, { on := 7, ground := Ground.gcOnly Departure.lateStores }], guard := none } : Oper)) (v := ?_) rfl (by kernel_rfl) (by kernel_rfl) (by kernel_rfl) (fun _ _ _ h => h) (Or.inl ⟨by rfl, ?_⟩) hS ?_
    rotate_left
    · (intro w hSw; (try dsimp only at hSw); go_simp; try with_reducible rfl)
    (try simp only [Act.put, List.setIfInBounds_toArray, List.set_cons_zero, List.set_cons_succ])
    refine wpAnyH_take (i := 7) (oi := ({ dst := some 1, op := Op.assign (Operand.tmp 8), type := 29, pos := "law.go:12", after := #[{ on := 5, ground := Ground.data }, { on := 3, ground := Ground.chain }, { on := 0, ground := Ground.phase }, { on := 1, ground := Ground.phase }, { on := 2, ground := Ground.phase }, { on := 3, ground := Ground.phase }, { on := 4, ground := Ground.phase }, { on := 5, ground := Ground.phase }, { on := 6, ground := Ground.textOnly Departure.lateStores }], guard := none } : Oper)) (v := ?_) rfl (by kernel_rfl) (by kernel_rfl) (by kernel_rfl) (fun _ _ _ h => h) (Or.inl ⟨by rfl, ?_⟩) hS ?_
    rotate_left
    · (intro w hSw; (try dsimp only at hSw); go_simp; try with_reducible rfl)
    (try simp only [Act.put, List.setIfInBounds_toArray, List.set_cons_zero, List.set_cons_succ])
    refine wpAnyH_take (i := 8) (oi := ({ dst := some 2, op := Op.assign (Operand.tmp 9), type := 4, pos := "law.go:12", after := #[{ on := 6, ground := Ground.data }, { on := 7, ground := Ground.chain }, { on := 0, ground := Ground.phase }, { on := 1, ground := Ground.phase }, { on := 2, ground := Ground.phase }, { on := 3, ground := Ground.phase }, { on := 4, ground := Ground.phase }, { on := 5, ground := Ground.phase }, { on := 6, ground := Ground.phase }, { on := 7, ground := Ground.phase }], guard := none } : Oper)) (v := ?_) rfl (by kernel_rfl) (by kernel_rfl) (by kernel_rfl) (fun _ _ _ h => h) (Or.inl ⟨by rfl, ?_⟩) hS ?_
    rotate_left
    · (intro w hSw; (try dsimp only at hSw); go_simp; try with_reducible rfl)
    (try simp only [Act.put, List.setIfInBounds_toArray, List.set_cons_zero, List.set_cons_succ])
    refine wpAnyH_done (by kernel_rfl) ?_ _
    have HN := Lib.hid hN
    go_wp2
    go_ret
    exact ⟨rfl, HN.out⟩
end Go.Proofs.YtjlnceldnbpapaaDoor
