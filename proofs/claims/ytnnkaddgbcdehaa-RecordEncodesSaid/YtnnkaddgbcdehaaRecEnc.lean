/-
  WHAT THE PROGRAM'S OWN FUNCTIONS OF LAYER 11 (record) ANSWER: Size, Same, Encode. No condition of ours but a bound on the data's length.
-/
import Derived.Test.YtnnkaddgbcdehaaRecCode
namespace Go.Proofs.Ytnnkaddgbcdehaa
open Go.RowKit
set_option maxRecDepth 8000 in
set_option maxHeartbeats 2000000 in
theorem prsame_any (k c l p : Int) (v : Value) (n : Nat) (d : List Int) (k' c' l' p' : Int) (v' : Value) (n' : Nat) (d' : List Int) (w : World) (h1 : RI .u8 w v n d) (h2 : RI .u8 w v' n' d') (hb1 : isB d) (hb2 : isB d') :
    Calls Try.prog 10 #[.agg (rA k c l p v), .agg (rA k' c' l' p' v')] w fun e w' => e = .returned (.bool (decide ((⟨k, c, l, p, d⟩ : RC) = ⟨k', c', l', p', d'⟩))) ∧ Below w.heap.size w w' := by
  rw [rec_same]
  by_cases hk : k = k'
  · subst hk
    by_cases hc : c = c'
    · subst hc
      by_cases hl : l = l'
      · subst hl
        by_cases hp : p = p'
        · subst hp
          obtain ⟨y, hy⟩ : ∃ y, decide (d = d') = y := ⟨_, rfl⟩
          rw [show (decide (k = k) && (decide (c = c) && (decide (l = l) && (decide (p = p) && decide (d = d'))))) = y from by simp [← hy]]
          have HE : Hid (∀ w, RI .u8 w v n d → RI .u8 w v' n' d' → Calls Try.prog 20 #[v, v'] w fun e w' => e = .returned (.bool y) ∧ w = w') := Lib.hid fun w a b => by rw [← hy]; exact bequal_any v v' n n' d d' w a b hb1 hb2
          have H1 := Lib.hid (h1.keep (below2 w (.cells (rA k c l p v) 24) (.cells (rA k c l p v') 24)))
          have H2 := Lib.hid (h2.keep (below2 w (.cells (rA k c l p v) 24) (.cells (rA k c l p v') 24)))
          clear h1 h2 hb1 hb2 hy
          go_enter Try.func10, Try.ntmps10
          go_wp2_with (first
            | (go_at_call 20; (with_reducible refine (HE.out _ H1.out H2.out).mono ?_); rintro e w' ⟨rfl, rfl⟩))
          go_ret
          exact ⟨rfl, below2 _ _ _⟩
        · rw [show (decide (k = k) && (decide (c = c) && (decide (l = l) && (decide (p = p') && decide (d = d'))))) = false from by simp [hp]]
          have hq : (p == p') = false := by simpa using hp
          clear h1 h2 hb1 hb2
          go_enter Try.func10, Try.ntmps10
          go_wp2
          go_ret
          exact ⟨rfl, below2 _ _ _⟩
      · rw [show (decide (k = k) && (decide (c = c) && (decide (l = l') && (decide (p = p') && decide (d = d'))))) = false from by simp [hl]]
        have hq : (l == l') = false := by simpa using hl
        clear h1 h2 hb1 hb2
        go_enter Try.func10, Try.ntmps10
        go_wp2
        go_ret
        exact ⟨rfl, below2 _ _ _⟩
    · rw [show (decide (k = k) && (decide (c = c') && (decide (l = l') && (decide (p = p') && decide (d = d'))))) = false from by simp [hc]]
      have hq : (c == c') = false := by simpa using hc
      clear h1 h2 hb1 hb2
      go_enter Try.func10, Try.ntmps10
      go_wp2
      go_ret
      exact ⟨rfl, below2 _ _ _⟩
  · rw [show (decide (k = k') && (decide (c = c') && (decide (l = l') && (decide (p = p') && decide (d = d'))))) = false from by simp [hk]]
    have hq : (k == k') = false := by simpa using hk
    clear h1 h2 hb1 hb2
    go_enter Try.func10, Try.ntmps10
    go_wp2
    go_ret
    exact ⟨rfl, below2 _ _ _⟩
/-- the numbers that a right record's bytes have -/
theorem nums_of {k c l p : Int} (h : recOk k c l p = true) (d : List Int) : ∃ ln m : Nat, l = ln ∧ l - p = m ∧ ln < 18446744073709551616 ∧ m < 18446744073709551616 ∧ (vb ln).length ≤ 10 ∧ (vb m).length ≤ 10 ∧ 2 + (vb ln).length + (vb m).length + d.length = (recH k c l p ++ d).length ∧ [k, c] ++ vb ln ++ vb m ++ d = recH k c l p ++ d := by
  have hp := ok_parts h
  refine ⟨l.toNat, (l - p).toNat, by omega, by omega, by omega, by omega, vb_len _ (by omega), vb_len _ (by omega), ?_, ?_⟩
  · unfold recH; simp; omega
  · unfold recH; simp
set_option maxRecDepth 8000 in
set_option maxHeartbeats 2000000 in
theorem prsize_wrong (k c l p : Int) (v : Value) (w : World) (hr : recOk k c l p = false) :
    Calls Try.prog 12 #[.agg (rA k c l p v)] w fun e w' => e = .returned (.int .i64 0) ∧ Below w.heap.size w w' := by
  have HO : Hid (∀ w, Calls Try.prog 8 #[.agg (rA k c l p v)] w fun e w' => e = .returned (.bool false) ∧ Below w.heap.size w w') := Lib.hid fun w => by rw [← hr]; exact prright_any k c l p v w
  have HA := Lib.hid (RO.alloc (k := k) (c := c) (l := l) (p := p) (v := v) w)
  have HB := Lib.hid (balloc w (.cells (rA k c l p v) 24))
  clear hr
  go_enter Try.func12, Try.ntmps12
  go_wp2_with (first
    | (go_at_call 8; (with_reducible refine (HO.out _).mono ?_); rintro e w1 ⟨rfl, hb1⟩; have HB1 := Lib.hid (bch HB.out hb1); clear hb1)
    | (refine wpl_load_rec rfl (.tmp 1) rfl rfl HA.out ?_))
  go_ret
  exact ⟨rfl, HB1.out⟩
set_option maxRecDepth 8000 in
set_option maxHeartbeats 4000000 in
theorem prsize_right (k c l p : Int) (a : Option Addr) (n cap : Nat) (d : List Int) (w : World) (hr : recOk k c l p = true) (hd : d.length = n) (hn : (n : Int) ≤ 150000000000000) :
    Calls Try.prog 12 #[.agg (rA k c l p (.slice a n cap))] w fun e w' => e = .returned (.int .i64 ((recH k c l p ++ d).length : Nat)) ∧ Below w.heap.size w w' := by
  obtain ⟨ln, m, hl, hm, hl9, hm9, hvl, hvm, hlen, _⟩ := nums_of hr d
  obtain ⟨q, hq⟩ : ∃ q, (recH k c l p ++ d).length = q := ⟨_, rfl⟩
  obtain ⟨x, hx⟩ : ∃ x, (vb ln).length = x := ⟨_, rfl⟩
  obtain ⟨y, hy⟩ : ∃ y, (vb m).length = y := ⟨_, rfl⟩
  rw [hx] at hlen hvl
  rw [hy] at hlen hvm
  rw [hq, hd] at hlen
  rw [hq]
  have HO : Hid (∀ w, Calls Try.prog 8 #[.agg (rA k c l p (.slice a n cap))] w fun e w' => e = .returned (.bool true) ∧ Below w.heap.size w w') := Lib.hid fun w => by rw [← hr]; exact prright_any k c l p _ w
  have HW : Hid (∀ w, Calls Try.prog 17 #[.agg (rA k c l p (.slice a n cap))] w fun e w' => e = .returned (.tuple #[.int .u64 ln, .int .u64 m]) ∧ Below w.heap.size w w') := Lib.hid fun w => wide_any k c l p ln m _ w hl hm hr
  have HX := Lib.hid (size_at ln x hl9 hx)
  have HY := Lib.hid (size_at m y hm9 hy)
  have HA := Lib.hid (RO.alloc (k := k) (c := c) (l := l) (p := p) (v := .slice a n cap) w)
  have HB := Lib.hid (balloc w (.cells (rA k c l p (.slice a n cap)) 24))
  have HV2 : Hid (IntKind.i64.wrap (2 + (x : Int)) = ((2 + x : Nat) : Int)) := Lib.hid (by rw [IntKind.wrap_i64]; omega)
  have HV5 : Hid (IntKind.i64.wrap (((2 + x : Nat) : Int) + (y : Int)) = ((2 + x + y : Nat) : Int)) := Lib.hid (by rw [IntKind.wrap_i64]; omega)
  have HV9 : Hid (IntKind.i64.wrap (((2 + x + y : Nat) : Int) + (n : Int)) = (q : Int)) := Lib.hid (by rw [IntKind.wrap_i64]; omega)
  clear hr hq hx hy hl hm hl9 hm9 hd
  go_enter Try.func12, Try.ntmps12
  go_wp2_with (first
    | (go_at_call 8; (with_reducible refine (HO.out _).mono ?_); rintro e w1 ⟨rfl, hb1⟩; have HA1 := Lib.hid (HA.out.keep hb1); have HB1 := Lib.hid (bch HB.out hb1); clear hb1)
    | (go_at_call 17; (with_reducible refine (HW.out _).mono ?_); rintro e w2 ⟨rfl, hb2⟩; have HA2 := Lib.hid (HA1.out.keep hb2); have HB2 := Lib.hid (bch HB1.out hb2); clear hb2)
    | (refine wpl_load_rec rfl (.tmp 1) rfl rfl HA1.out ?_)
    | (refine wpl_load_rec rfl (.tmp 1) rfl rfl HA.out ?_))
  refine wp_region_held_drew (S := (fun W' => Below w2.heap.size w2 W')) (by kernel_rfl) ((Below.refl _ _).drew) (fun hS => ?_)
  refine wpAnyH_take (i := 0) (oi := ({ dst := some 13, op := Op.move (Operand.tmp 3), type := 36, pos := "record.go:73", after := #[], guard := none } : Oper)) (v := ?_) rfl (by kernel_rfl) (by kernel_rfl) (by kernel_rfl) (fun _ _ _ h => h) (Or.inl ⟨by rfl, ?_⟩) hS ?_
  rotate_left
  · (intro w hSw; (try dsimp only at hSw); go_simp; try with_reducible rfl)
  (try simp only [Act.put, List.setIfInBounds_toArray, List.set_cons_zero, List.set_cons_succ])
  refine wpAnyH_take (i := 3) (oi := ({ dst := some 16, op := Op.move (Operand.tmp 4), type := 36, pos := "record.go:73", after := #[], guard := none } : Oper)) (v := ?_) rfl (by kernel_rfl) (by kernel_rfl) (by kernel_rfl) (fun _ _ _ h => h) (Or.inl ⟨by rfl, ?_⟩) hS ?_
  rotate_left
  · (intro w hSw; (try dsimp only at hSw); go_simp; try with_reducible rfl)
  (try simp only [Act.put, List.setIfInBounds_toArray, List.set_cons_zero, List.set_cons_succ])
  refine wpAnyH_take (i := 6) (oi := ({ dst := some 19, op := Op.fieldAddr 24 (Operand.tmp 1) 4, type := 0, pos := "record.go:73", after := #[], guard := none } : Oper)) (v := ?_) rfl (by kernel_rfl) (by kernel_rfl) (by kernel_rfl) (fun _ _ _ h => h) (Or.inl ⟨by rfl, ?_⟩) hS ?_
  rotate_left
  · (intro w hSw; (try dsimp only at hSw); go_simp; try with_reducible rfl)
  (try simp only [Act.put, List.setIfInBounds_toArray, List.set_cons_zero, List.set_cons_succ])
  refine wpAnyH_take (i := 7) (oi := ({ dst := some 20, op := Op.load 22 (Operand.tmp 19), type := 22, pos := "record.go:73", after := #[{ on := 6, ground := Ground.data }], guard := none } : Oper)) (v := ?_) rfl (by kernel_rfl) (by kernel_rfl) (by kernel_rfl) (fun _ _ _ h => h) (Or.inl ⟨by rfl, ?_⟩) hS ?_
  rotate_left
  · (intro w hSw; (try dsimp only at hSw); have z := cell_keep hSw HA2.out.cells.2.2.2.2; go_simp; try with_reducible rfl)
  (try simp only [Act.put, List.setIfInBounds_toArray, List.set_cons_zero, List.set_cons_succ])
  refine wpAnyH_take (i := 8) (oi := ({ dst := some 21, op := Op.call { callee := Callee.builtin Builtin.len, args := #[Operand.tmp 20], argTypes := #[22] }, type := 3, pos := "record.go:73", after := #[{ on := 7, ground := Ground.data }], guard := none } : Oper)) (v := ?_) rfl (by kernel_rfl) (by kernel_rfl) (by kernel_rfl) (fun _ _ _ h => h) (Or.inl ⟨by rfl, ?_⟩) hS ?_
  rotate_left
  · (intro w hSw; (try dsimp only at hSw); go_simp; try with_reducible rfl)
  (try simp only [Act.put, List.setIfInBounds_toArray, List.set_cons_zero, List.set_cons_succ])
  refine rg_one 1 ({ dst := some 14, op := Op.call { callee := Callee.value (Operand.func 22), args := #[Operand.tmp 13], argTypes := #[36] }, type := 3, pos := "record.go:73", after := #[{ on := 0, ground := Ground.data }], guard := none } : Oper) (by kernel_rfl) rfl (fun K hK => ?_)
  go_simp
  (go_at_call 22; (with_reducible refine (HX.out _).mono ?_); rintro e w' ⟨rfl, rfl⟩)
  refine hK.out _ _ ?_ (fun hS1 => ?_)
  · (exact hS)
  clear hK K hS; have hS := hS1; clear hS1
  (try simp only [Act.put, List.setIfInBounds_toArray, List.set_cons_zero, List.set_cons_succ])
  refine wpAnyH_take (i := 2) (oi := ({ dst := some 15, op := Op.binOp BinOp.add 3 (Operand.const (Value.int IntKind.i64 2)) (Operand.tmp 14) 3, type := 3, pos := "record.go:73", after := #[{ on := 1, ground := Ground.data }], guard := none } : Oper)) (v := .int .i64 ((2 + x : Nat) : Int)) rfl (by kernel_rfl) (by kernel_rfl) (by kernel_rfl) (fun _ _ _ h => h) (Or.inl ⟨by rfl, ?_⟩) hS ?_
  · (intro w hSw; (try dsimp only at hSw); have z := HV2.out; go_simp; (try exact z))
  (try simp only [Act.put, List.setIfInBounds_toArray, List.set_cons_zero, List.set_cons_succ])
  refine rg_one 4 ({ dst := some 17, op := Op.call { callee := Callee.value (Operand.func 22), args := #[Operand.tmp 16], argTypes := #[36] }, type := 3, pos := "record.go:73", after := #[{ on := 3, ground := Ground.data }, { on := 1, ground := Ground.chain }], guard := none } : Oper) (by kernel_rfl) rfl (fun K hK => ?_)
  go_simp
  (go_at_call 22; (with_reducible refine (HY.out _).mono ?_); rintro e w' ⟨rfl, rfl⟩)
  refine hK.out _ _ ?_ (fun hS1 => ?_)
  · (exact hS)
  clear hK K hS; have hS := hS1; clear hS1
  (try simp only [Act.put, List.setIfInBounds_toArray, List.set_cons_zero, List.set_cons_succ])
  refine wpAnyH_take (i := 5) (oi := ({ dst := some 18, op := Op.binOp BinOp.add 3 (Operand.tmp 15) (Operand.tmp 17) 3, type := 3, pos := "record.go:73", after := #[{ on := 2, ground := Ground.data }, { on := 4, ground := Ground.data }], guard := none } : Oper)) (v := .int .i64 ((2 + x + y : Nat) : Int)) rfl (by kernel_rfl) (by kernel_rfl) (by kernel_rfl) (fun _ _ _ h => h) (Or.inl ⟨by rfl, ?_⟩) hS ?_
  · (intro w hSw; (try dsimp only at hSw); have z := HV5.out; go_simp; (try exact z))
  (try simp only [Act.put, List.setIfInBounds_toArray, List.set_cons_zero, List.set_cons_succ])
  refine wpAnyH_take (i := 9) (oi := ({ dst := some 22, op := Op.binOp BinOp.add 3 (Operand.tmp 18) (Operand.tmp 21) 3, type := 3, pos := "record.go:73", after := #[{ on := 5, ground := Ground.data }, { on := 8, ground := Ground.data }], guard := none } : Oper)) (v := .int .i64 (q : Int)) rfl (by kernel_rfl) (by kernel_rfl) (by kernel_rfl) (fun _ _ _ h => h) (Or.inl ⟨by rfl, ?_⟩) hS ?_
  · (intro w hSw; (try dsimp only at hSw); have z := HV9.out; go_simp; (try exact z))
  (try simp only [Act.put, List.setIfInBounds_toArray, List.set_cons_zero, List.set_cons_succ])
  refine wpAnyH_take (i := 10) (oi := ({ dst := some 2, op := Op.assign (Operand.tmp 22), type := 3, pos := "record.go:73", after := #[{ on := 9, ground := Ground.data }, { on := 4, ground := Ground.chain }, { on := 0, ground := Ground.phase }, { on := 1, ground := Ground.phase }, { on := 2, ground := Ground.phase }, { on := 3, ground := Ground.phase }, { on := 4, ground := Ground.phase }, { on := 5, ground := Ground.phase }, { on := 6, ground := Ground.phase }, { on := 7, ground := Ground.phase }, { on := 8, ground := Ground.phase }, { on := 9, ground := Ground.phase }], guard := none } : Oper)) (v := ?_) rfl (by kernel_rfl) (by kernel_rfl) (by kernel_rfl) (fun _ _ _ h => h) (Or.inl ⟨by rfl, ?_⟩) hS ?_
  rotate_left
  · (intro w hSw; (try dsimp only at hSw); go_simp; try with_reducible rfl)
  (try simp only [Act.put, List.setIfInBounds_toArray, List.set_cons_zero, List.set_cons_succ])
  refine wpAnyH_done (by kernel_rfl) ?_ _
  go_wp2
  go_ret
  exact ⟨rfl, bch HB2.out hS⟩
set_option maxRecDepth 8000 in
set_option maxHeartbeats 2000000 in
theorem prenc_wrong (k c l p : Int) (v : Value) (w : World) (hr : recOk k c l p = false) :
    Calls Try.prog 6 #[.agg (rA k c l p v)] w fun e w' => e = .returned (.tuple #[.slice none 0 0, .int .i64 13]) ∧ Below w.heap.size w w' := by
  have HO : Hid (∀ w, Calls Try.prog 8 #[.agg (rA k c l p v)] w fun e w' => e = .returned (.bool false) ∧ Below w.heap.size w w') := Lib.hid fun w => by rw [← hr]; exact prright_any k c l p v w
  have HA := Lib.hid (RO.alloc (k := k) (c := c) (l := l) (p := p) (v := v) w)
  have HB := Lib.hid (balloc w (.cells (rA k c l p v) 24))
  clear hr
  go_enter Try.func6, Try.ntmps6
  go_wp2_with (first
    | (go_at_call 8; (with_reducible refine (HO.out _).mono ?_); rintro e w1 ⟨rfl, hb1⟩; have HB1 := Lib.hid (bch HB.out hb1); clear hb1)
    | (refine wpl_load_rec rfl (.tmp 1) rfl rfl HA.out ?_))
  go_ret2
  exact ⟨rfl, HB1.out⟩
set_option maxRecDepth 8000 in
set_option maxHeartbeats 2000000 in
theorem prenc_long (k c l p : Int) (a : Option Addr) (n cap : Nat) (d : List Int) (w : World) (hr : recOk k c l p = true) (hd : d.length = n) (hn : (n : Int) ≤ 150000000000000) (hs : 512 < (recH k c l p ++ d).length) :
    Calls Try.prog 6 #[.agg (rA k c l p (.slice a n cap))] w fun e w' => e = .returned (.tuple #[.slice none 0 0, .int .i64 5]) ∧ Below w.heap.size w w' := by
  obtain ⟨q, hq⟩ : ∃ q, (recH k c l p ++ d).length = q := ⟨_, rfl⟩
  have HO : Hid (∀ w, Calls Try.prog 8 #[.agg (rA k c l p (.slice a n cap))] w fun e w' => e = .returned (.bool true) ∧ Below w.heap.size w w') := Lib.hid fun w => by rw [← hr]; exact prright_any k c l p _ w
  have HS : Hid (∀ w, Calls Try.prog 12 #[.agg (rA k c l p (.slice a n cap))] w fun e w' => e = .returned (.int .i64 q) ∧ Below w.heap.size w w') := Lib.hid fun w => by rw [← hq]; exact prsize_right k c l p a n cap d w hr hd hn
  have hs2 : (512 : Int) < (q : Int) := by omega
  have HA := Lib.hid (RO.alloc (k := k) (c := c) (l := l) (p := p) (v := .slice a n cap) w)
  have HB := Lib.hid (balloc w (.cells (rA k c l p (.slice a n cap)) 24))
  clear hr hs hq hd hn
  go_enter Try.func6, Try.ntmps6
  go_wp2_with (first
    | (go_at_call 8; (with_reducible refine (HO.out _).mono ?_); rintro e w1 ⟨rfl, hb1⟩; have HA1 := Lib.hid (HA.out.keep hb1); have HB1 := Lib.hid (bch HB.out hb1); clear hb1)
    | (go_at_call 12; (with_reducible refine (HS.out _).mono ?_); rintro e w2 ⟨rfl, hb2⟩; have HB2 := Lib.hid (bch HB1.out hb2); clear hb2)
    | (refine wpl_load_rec rfl (.tmp 1) rfl rfl HA1.out ?_)
    | (refine wpl_load_rec rfl (.tmp 1) rfl rfl HA.out ?_))
  go_ret2
  exact ⟨rfl, HB2.out⟩
/-- a block of two bytes -/
def TB (w : World) (g : Nat) (x y : Int) : Prop := w.heap[g]? = some (.cells #[.int .u8 x, .int .u8 y] 5 (0, 0))
theorem TB.lt {w : World} {g : Nat} {x y : Int} (h : TB w g x y) : g < w.heap.size := (Array.getElem?_eq_some_iff.1 h).1
theorem TB.cell0 {w : World} {g : Nat} {x y : Int} (h : TB w g x y) : w.cell? ⟨g, 0, none⟩ = some (.int .u8 x) := cell_of_row w g 0 _ _ _ h
theorem TB.cell1 {w : World} {g : Nat} {x y : Int} (h : TB w g x y) : w.cell? ⟨g, 1, none⟩ = some (.int .u8 y) := cell_of_row w g 1 _ _ _ h
theorem TB.frozen {w : World} {g : Nat} {x y : Int} (h : TB w g x y) (j : Nat) : w.frozen? ⟨g, j, none⟩ = false := Joins.unfrozen_of_block h j
theorem TB.set0 {w : World} {g : Nat} {x y : Int} (h : TB w g x y) (z : Int) : TB (w.setCell ⟨g, 0, none⟩ (.int .u8 z)) g z y := Joins.block_setCell h _
theorem TB.set1 {w : World} {g : Nat} {x y : Int} (h : TB w g x y) (z : Int) : TB (w.setCell ⟨g, 1, none⟩ (.int .u8 z)) g x z := Joins.block_setCell h _
theorem TB.own {w : World} {g base : Nat} {x y : Int} (h : TB w g x y) (hb : base ≤ g) : w.ownsRow base 5 1 (.slice (some ⟨g, 0, none⟩) 2 2) 2 (il .u8 [x, y]) :=
  ⟨rfl, .inr ⟨g, 2, _, rfl, hb, h, by omega, by unfold maxLen; omega, by simp, by simp [il]⟩⟩
set_option maxRecDepth 8000 in
set_option maxHeartbeats 4000000 in
theorem prenc_right (k c l p : Int) (v : Value) (n : Nat) (d : List Int) (w : World) (hr : recOk k c l p = true) (hri : RI .u8 w v n d) (hs : (recH k c l p ++ d).length ≤ 512) :
    Calls Try.prog 6 #[.agg (rA k c l p v)] w fun e w' => ∃ v', e = .returned (.tuple #[v', .int .i64 0]) ∧ w'.ownsRow w.heap.size 5 1 v' (recH k c l p ++ d).length (il .u8 (recH k c l p ++ d)) ∧ Below w.heap.size w w' := by
  obtain ⟨ln, m, hl, hm, hl9, hm9, hvl, hvm, hlen, heq⟩ := nums_of hr d
  have hp := ok_parts hr
  have hd := hri.length
  obtain ⟨a, cap, rfl⟩ : ∃ a cap, v = .slice a n cap := by obtain ⟨a, c, e, _⟩ := hri; exact ⟨a, c, e⟩
  obtain ⟨q, hq⟩ : ∃ q, (recH k c l p ++ d).length = q := ⟨_, rfl⟩
  have HO : Hid (∀ w, Calls Try.prog 8 #[.agg (rA k c l p (.slice a n cap))] w fun e w' => e = .returned (.bool true) ∧ Below w.heap.size w w') := Lib.hid fun w => by rw [← hr]; exact prright_any k c l p _ w
  have HS : Hid (∀ w, Calls Try.prog 12 #[.agg (rA k c l p (.slice a n cap))] w fun e w' => e = .returned (.int .i64 q) ∧ Below w.heap.size w w') := Lib.hid fun w => by rw [← hq]; exact prsize_right k c l p a n cap d w hr hd (by omega)
  have HW : Hid (∀ w, Calls Try.prog 17 #[.agg (rA k c l p (.slice a n cap))] w fun e w' => e = .returned (.tuple #[.int .u64 ln, .int .u64 m]) ∧ Below w.heap.size w w') := Lib.hid fun w => wide_any k c l p ln m _ w hl hm hr
  have hs2 : ¬ (512 : Int) < (q : Int) := by omega
  have HN : Hid (ln < 18446744073709551616 ∧ m < 18446744073709551616 ∧ (vb ln).length ≤ 10 ∧ (vb m).length ≤ 10 ∧ n ≤ 512) := Lib.hid ⟨hl9, hm9, hvl, hvm, by omega⟩
  have HWK : Hid (IntKind.u8.wrap k = k) := Lib.hid (u8_in (by omega) (by omega))
  have HWC : Hid (IntKind.u8.wrap c = c) := Lib.hid (u8_in (by omega) (by omega))
  have HEQ : Hid ([k, c] ++ vb ln ++ vb m ++ d = recH k c l p ++ d ∧ (recH k c l p ++ d).length = q) := Lib.hid ⟨heq, hq⟩
  have HA := Lib.hid (RO.alloc (k := k) (c := c) (l := l) (p := p) (v := .slice a n cap) w)
  have HB := Lib.hid (balloc w (.cells (rA k c l p (.slice a n cap)) 24))
  have HR := Lib.hid (hri.keep HB.out)
  rw [hq]
  clear hr hs hq hd hri hl hm hl9 hm9 hvl hvm hlen heq hp
  go_enter Try.func6, Try.ntmps6
  go_wp2_with (first
    | (go_at_call 8; (with_reducible refine (HO.out _).mono ?_); rintro e w1 ⟨rfl, hb1⟩; have HA1 := Lib.hid (HA.out.keep hb1); have HR1 := Lib.hid (HR.out.keep hb1); have HB1 := Lib.hid (bch HB.out hb1); clear hb1)
    | (go_at_call 12; (with_reducible refine (HS.out _).mono ?_); rintro e w2 ⟨rfl, hb2⟩; have HA2 := Lib.hid (HA1.out.keep hb2); have HR2 := Lib.hid (HR1.out.keep hb2); have HB2 := Lib.hid (bch HB1.out hb2); clear hb2)
    | (go_at_call 17; (with_reducible refine (HW.out _).mono ?_); rintro e w3 ⟨rfl, hb3⟩; have HA3 := Lib.hid (HA2.out.keep hb3); have HR3 := Lib.hid (HR2.out.keep hb3); have HB3 := Lib.hid (bch HB2.out hb3); clear hb3)
    | (at_make; refine wpl_make rfl (.const (.int .i64 2)) (.const (.int .i64 2)) 22 rfl 5 .u8 1 Try.underlying22 Try.info_u8 .i64 .i64 2 2 2 2 rfl rfl rfl rfl (by omega) (by omega) (by omega) w3.heap.size w3 (Below.refl _ _) (Nat.le_refl _) ?_; intro w4 HG4 HB4)
    | (refine wpl_load_rec rfl (.tmp 1) rfl rfl HA2.out ?_)
    | (refine wpl_load_rec rfl (.tmp 1) rfl rfl HA1.out ?_)
    | (refine wpl_load_rec rfl (.tmp 1) rfl rfl HA.out ?_))
  have HT4 : Hid (TB w4 w3.heap.size 0 0) := Lib.hid HG4.out
  have HA4 := Lib.hid (HA3.out.keep HB4.out)
  have hlt : w.heap.size < w3.heap.size := HA3.out.lt
  have f0 := HT4.out.frozen 0
  have f1 := HT4.out.frozen 1
  have e0 := HT4.out.cell0
  have e1 := HT4.out.cell1
  have h5 : TB (w4.setCell ⟨w3.heap.size, 0, none⟩ (.int .u8 k)) w3.heap.size k 0 := HT4.out.set0 k
  have g1 := h5.frozen 1
  have HT6 : Hid (TB ((w4.setCell ⟨w3.heap.size, 0, none⟩ (.int .u8 k)).setCell ⟨w3.heap.size, 1, none⟩ (.int .u8 c)).drew w3.heap.size k c) := Lib.hid (h5.set1 c)
  have HB6 : Hid (Below w3.heap.size w3 ((w4.setCell ⟨w3.heap.size, 0, none⟩ (.int .u8 k)).setCell ⟨w3.heap.size, 1, none⟩ (.int .u8 c)).drew) := Lib.hid (bset (bset (b := w3.heap.size) HB4.out (Nat.le_refl _) (Nat.le_refl _) 0 _) (b := w3.heap.size) (Nat.le_refl _) (Nat.le_refl _) 1 _).drew
  clear h5
  refine wp_region_held_drew (S := (fun W' => RO W' w.heap.size k c l p (.slice a n cap))) (by kernel_rfl) (HA4.out.keep ((Below.refl _ _).drew)) (fun hS => ?_)
  refine wpAnyH_take (i := 0) (oi := ({ dst := some 21, op := Op.move (Operand.tmp 6), type := 22, pos := "record.go:36", after := #[], guard := none } : Oper)) (v := ?_) rfl (by kernel_rfl) (by kernel_rfl) (by kernel_rfl) (fun _ _ _ h => h) (Or.inl ⟨by rfl, ?_⟩) hS ?_
  rotate_left
  · (intro w hSw; (try dsimp only at hSw); go_simp; try with_reducible rfl)
  (try simp only [Act.put, List.setIfInBounds_toArray, List.set_cons_zero, List.set_cons_succ])
  refine wpAnyH_take (i := 1) (oi := ({ dst := some 22, op := Op.move (Operand.tmp 6), type := 22, pos := "record.go:36", after := #[{ on := 9, ground := Ground.gcOnly Departure.lateStores }], guard := none } : Oper)) (v := ?_) rfl (by kernel_rfl) (by kernel_rfl) (by kernel_rfl) (fun _ _ _ h => h) (Or.inl ⟨by rfl, ?_⟩) hS ?_
  rotate_left
  · (intro w hSw; (try dsimp only at hSw); go_simp; try with_reducible rfl)
  (try simp only [Act.put, List.setIfInBounds_toArray, List.set_cons_zero, List.set_cons_succ])
  refine wpAnyH_take (i := 2) (oi := ({ dst := some 23, op := Op.fieldAddr 24 (Operand.tmp 1) 0, type := 0, pos := "record.go:36", after := #[], guard := none } : Oper)) (v := ?_) rfl (by kernel_rfl) (by kernel_rfl) (by kernel_rfl) (fun _ _ _ h => h) (Or.inl ⟨by rfl, ?_⟩) hS ?_
  rotate_left
  · (intro w hSw; (try dsimp only at hSw); go_simp; try with_reducible rfl)
  (try simp only [Act.put, List.setIfInBounds_toArray, List.set_cons_zero, List.set_cons_succ])
  refine wpAnyH_take (i := 3) (oi := ({ dst := some 24, op := Op.load 3 (Operand.tmp 23), type := 3, pos := "record.go:36", after := #[{ on := 2, ground := Ground.data }], guard := none } : Oper)) (v := ?_) rfl (by kernel_rfl) (by kernel_rfl) (by kernel_rfl) (fun _ _ _ h => h) (Or.inl ⟨by rfl, ?_⟩) hS ?_
  rotate_left
  · (intro w hSw; (try dsimp only at hSw); have z := hSw.cells.1; go_simp; try with_reducible rfl)
  (try simp only [Act.put, List.setIfInBounds_toArray, List.set_cons_zero, List.set_cons_succ])
  refine wpAnyH_take (i := 4) (oi := ({ dst := some 25, op := Op.convert 3 5 (Operand.tmp 24), type := 5, pos := "record.go:36", after := #[{ on := 3, ground := Ground.data }], guard := none } : Oper)) (v := .int .u8 k) rfl (by kernel_rfl) (by kernel_rfl) (by kernel_rfl) (fun _ _ _ h => h) (Or.inl ⟨by rfl, ?_⟩) hS ?_
  · (intro w hSw; (try dsimp only at hSw); have z := HWK.out; go_simp; (try exact z))
  (try simp only [Act.put, List.setIfInBounds_toArray, List.set_cons_zero, List.set_cons_succ])
  refine wpAnyH_take (i := 5) (oi := ({ dst := some 26, op := Op.fieldAddr 24 (Operand.tmp 1) 1, type := 0, pos := "record.go:36", after := #[{ on := 9, ground := Ground.gcOnly Departure.lateStores }], guard := none } : Oper)) (v := ?_) rfl (by kernel_rfl) (by kernel_rfl) (by kernel_rfl) (fun _ _ _ h => h) (Or.inl ⟨by rfl, ?_⟩) hS ?_
  rotate_left
  · (intro w hSw; (try dsimp only at hSw); go_simp; try with_reducible rfl)
  (try simp only [Act.put, List.setIfInBounds_toArray, List.set_cons_zero, List.set_cons_succ])
  refine wpAnyH_take (i := 6) (oi := ({ dst := some 27, op := Op.load 3 (Operand.tmp 26), type := 3, pos := "record.go:36", after := #[{ on := 5, ground := Ground.data }, { on := 9, ground := Ground.gcOnly Departure.lateStores }], guard := none } : Oper)) (v := ?_) rfl (by kernel_rfl) (by kernel_rfl) (by kernel_rfl) (fun _ _ _ h => h) (Or.inl ⟨by rfl, ?_⟩) hS ?_
  rotate_left
  · (intro w hSw; (try dsimp only at hSw); have z := hSw.cells.2.1; go_simp; try with_reducible rfl)
  (try simp only [Act.put, List.setIfInBounds_toArray, List.set_cons_zero, List.set_cons_succ])
  refine wpAnyH_take (i := 7) (oi := ({ dst := some 28, op := Op.convert 3 5 (Operand.tmp 27), type := 5, pos := "record.go:36", after := #[{ on := 6, ground := Ground.data }, { on := 9, ground := Ground.gcOnly Departure.lateStores }], guard := none } : Oper)) (v := .int .u8 c) rfl (by kernel_rfl) (by kernel_rfl) (by kernel_rfl) (fun _ _ _ h => h) (Or.inl ⟨by rfl, ?_⟩) hS ?_
  · (intro w hSw; (try dsimp only at hSw); have z := HWC.out; go_simp; (try exact z))
  (try simp only [Act.put, List.setIfInBounds_toArray, List.set_cons_zero, List.set_cons_succ])
  refine wpAnyH_take (i := 8) (oi := ({ dst := some 29, op := Op.indexAddr 22 (Operand.tmp 21) (Operand.const (Value.int IntKind.i64 0)), type := 0, pos := "record.go:36", after := #[{ on := 0, ground := Ground.data }, { on := 0, ground := Ground.phase }, { on := 1, ground := Ground.textOnly Departure.lateStores }, { on := 2, ground := Ground.phase }, { on := 3, ground := Ground.phase }, { on := 4, ground := Ground.phase }, { on := 5, ground := Ground.textOnly Departure.lateStores }, { on := 6, ground := Ground.textOnly Departure.lateStores }, { on := 7, ground := Ground.textOnly Departure.lateStores }], guard := none } : Oper)) (v := ?_) rfl (by kernel_rfl) (by kernel_rfl) (by kernel_rfl) (fun _ _ _ h => h) (Or.inl ⟨by rfl, ?_⟩) hS ?_
  rotate_left
  · (intro w hSw; (try dsimp only at hSw); go_simp; try with_reducible rfl)
  (try simp only [Act.put, List.setIfInBounds_toArray, List.set_cons_zero, List.set_cons_succ])
  refine rg_one 9 ({ dst := none, op := Op.store 5 (Operand.tmp 29) (Operand.tmp 25), type := 0, pos := "record.go:36", after := #[{ on := 8, ground := Ground.data }, { on := 4, ground := Ground.data }, { on := 0, ground := Ground.phase }, { on := 1, ground := Ground.textOnly Departure.lateStores }, { on := 2, ground := Ground.phase }, { on := 3, ground := Ground.phase }, { on := 4, ground := Ground.phase }, { on := 5, ground := Ground.textOnly Departure.lateStores }, { on := 6, ground := Ground.textOnly Departure.lateStores }, { on := 7, ground := Ground.textOnly Departure.lateStores }], guard := none } : Oper) (by kernel_rfl) rfl (fun K hK => ?_)
  go_simp
  have hN := hS.set_apart (b' := w3.heap.size) (Nat.ne_of_lt hlt) 0 (.int .u8 k)
  refine hK.out _ _ ?_ (fun hS1 => ?_)
  · (first | exact hN | exact hS)
  clear hK K hS; have hS := hS1; clear hS1
  (try simp only [Act.put])
  refine wpAnyH_take (i := 10) (oi := ({ dst := some 30, op := Op.indexAddr 22 (Operand.tmp 22) (Operand.const (Value.int IntKind.i64 1)), type := 0, pos := "record.go:36", after := #[{ on := 1, ground := Ground.data }, { on := 0, ground := Ground.phase }, { on := 1, ground := Ground.phase }, { on := 2, ground := Ground.phase }, { on := 3, ground := Ground.phase }, { on := 4, ground := Ground.phase }, { on := 5, ground := Ground.phase }, { on := 6, ground := Ground.phase }, { on := 7, ground := Ground.phase }, { on := 8, ground := Ground.phase }, { on := 9, ground := Ground.phase }], guard := none } : Oper)) (v := ?_) rfl (by kernel_rfl) (by kernel_rfl) (by kernel_rfl) (fun _ _ _ h => h) (Or.inl ⟨by rfl, ?_⟩) hS ?_
  rotate_left
  · (intro w hSw; (try dsimp only at hSw); go_simp; try with_reducible rfl)
  (try simp only [Act.put, List.setIfInBounds_toArray, List.set_cons_zero, List.set_cons_succ])
  refine rg_one 11 ({ dst := none, op := Op.store 5 (Operand.tmp 30) (Operand.tmp 28), type := 0, pos := "record.go:36", after := #[{ on := 10, ground := Ground.data }, { on := 7, ground := Ground.data }, { on := 9, ground := Ground.chain }, { on := 0, ground := Ground.phase }, { on := 1, ground := Ground.phase }, { on := 2, ground := Ground.phase }, { on := 3, ground := Ground.phase }, { on := 4, ground := Ground.phase }, { on := 5, ground := Ground.phase }, { on := 6, ground := Ground.phase }, { on := 7, ground := Ground.phase }, { on := 8, ground := Ground.phase }, { on := 9, ground := Ground.phase }], guard := none } : Oper) (by kernel_rfl) rfl (fun K hK => ?_)
  go_simp
  have hN := hN.set_apart (b' := w3.heap.size) (Nat.ne_of_lt hlt) 1 (.int .u8 c)
  refine hK.out _ _ ?_ (fun hS1 => ?_)
  · (first | exact hN | exact hS)
  clear hK K hS; have hS := hS1; clear hS1
  (try simp only [Act.put])
  refine wpAnyH_done (by kernel_rfl) ?_ _
  obtain ⟨w6, hw6⟩ : ∃ q, ((w4.setCell ⟨w3.heap.size, 0, none⟩ (.int .u8 k)).setCell ⟨w3.heap.size, 1, none⟩ (.int .u8 c)).drew = q := ⟨_, rfl⟩
  rw [hw6] at HT6 HB6 ⊢
  have HA6 := Lib.hid (HA3.out.keep HB6.out)
  have HR6 := Lib.hid (HR3.out.keep HB6.out)
  have HB7 := Lib.hid (bch HB3.out HB6.out)
  clear hS hN f0 f1 e0 g1 e1 hw6 HB4 HG4 HT4
  go_wp2_with fail
  refine wp_region_held_drew (S := (fun W' => Below w6.heap.size w6 W')) (by kernel_rfl) ((Below.refl _ _).drew) (fun hS => ?_)
  refine wpAnyH_take (i := 0) (oi := ({ dst := some 31, op := Op.move (Operand.tmp 6), type := 22, pos := "record.go:37", after := #[], guard := none } : Oper)) (v := ?_) rfl (by kernel_rfl) (by kernel_rfl) (by kernel_rfl) (fun _ _ _ h => h) (Or.inl ⟨by rfl, ?_⟩) hS ?_
  rotate_left
  · (intro w hSw; (try dsimp only at hSw); go_simp; try with_reducible rfl)
  (try simp only [Act.put, List.setIfInBounds_toArray, List.set_cons_zero, List.set_cons_succ])
  refine wpAnyH_take (i := 1) (oi := ({ dst := some 32, op := Op.move (Operand.tmp 4), type := 36, pos := "record.go:37", after := #[], guard := none } : Oper)) (v := ?_) rfl (by kernel_rfl) (by kernel_rfl) (by kernel_rfl) (fun _ _ _ h => h) (Or.inl ⟨by rfl, ?_⟩) hS ?_
  rotate_left
  · (intro w hSw; (try dsimp only at hSw); go_simp; try with_reducible rfl)
  (try simp only [Act.put, List.setIfInBounds_toArray, List.set_cons_zero, List.set_cons_succ])
  refine wpAnyH_take (i := 3) (oi := ({ dst := some 34, op := Op.move (Operand.tmp 5), type := 36, pos := "record.go:37", after := #[], guard := none } : Oper)) (v := ?_) rfl (by kernel_rfl) (by kernel_rfl) (by kernel_rfl) (fun _ _ _ h => h) (Or.inl ⟨by rfl, ?_⟩) hS ?_
  rotate_left
  · (intro w hSw; (try dsimp only at hSw); go_simp; try with_reducible rfl)
  (try simp only [Act.put, List.setIfInBounds_toArray, List.set_cons_zero, List.set_cons_succ])
  refine wpAnyH_take (i := 5) (oi := ({ dst := some 36, op := Op.fieldAddr 24 (Operand.tmp 1) 4, type := 0, pos := "record.go:37", after := #[], guard := none } : Oper)) (v := ?_) rfl (by kernel_rfl) (by kernel_rfl) (by kernel_rfl) (fun _ _ _ h => h) (Or.inl ⟨by rfl, ?_⟩) hS ?_
  rotate_left
  · (intro w hSw; (try dsimp only at hSw); go_simp; try with_reducible rfl)
  (try simp only [Act.put, List.setIfInBounds_toArray, List.set_cons_zero, List.set_cons_succ])
  refine wpAnyH_take (i := 6) (oi := ({ dst := some 37, op := Op.load 22 (Operand.tmp 36), type := 22, pos := "record.go:37", after := #[{ on := 5, ground := Ground.data }], guard := none } : Oper)) (v := ?_) rfl (by kernel_rfl) (by kernel_rfl) (by kernel_rfl) (fun _ _ _ h => h) (Or.inl ⟨by rfl, ?_⟩) hS ?_
  rotate_left
  · (intro w hSw; (try dsimp only at hSw); have z := cell_keep hSw HA6.out.cells.2.2.2.2; go_simp; try with_reducible rfl)
  (try simp only [Act.put, List.setIfInBounds_toArray, List.set_cons_zero, List.set_cons_succ])
  refine rg_one 2 ({ dst := some 33, op := Op.call { callee := Callee.value (Operand.func 18), args := #[Operand.tmp 31, Operand.tmp 32], argTypes := #[22, 36] }, type := 22, pos := "record.go:37", after := #[{ on := 0, ground := Ground.data }, { on := 1, ground := Ground.data }], guard := none } : Oper) (by kernel_rfl) rfl (fun K hK => ?_)
  go_simp
  (go_at_call 18; (with_reducible refine (put_any ln HN.out.1 _ 2 [k, c] _ ((RI.own (HT6.out.own (Nat.le_refl _))).keep hS) (by omega)).mono ?_); rintro e w7 ⟨v7, rfl, ho7, hb7⟩; have HO7 := Lib.hid ho7; clear ho7; have hN := hS.trans (hb7.mono hS.size))
  refine hK.out _ _ ?_ (fun hS1 => ?_)
  · (first | exact hN | exact hS)
  clear hK K hS; have hS := hS1; clear hS1
  (try simp only [Act.put, List.setIfInBounds_toArray, List.set_cons_zero, List.set_cons_succ])
  refine rg_one 4 ({ dst := some 35, op := Op.call { callee := Callee.value (Operand.func 18), args := #[Operand.tmp 33, Operand.tmp 34], argTypes := #[22, 36] }, type := 22, pos := "record.go:37", after := #[{ on := 2, ground := Ground.data }, { on := 3, ground := Ground.data }, { on := 2, ground := Ground.chain }], guard := none } : Oper) (by kernel_rfl) rfl (fun K hK => ?_)
  go_simp
  (go_at_call 18; (with_reducible refine (put_any m HN.out.2.1 _ (2 + (vb ln).length) ([k, c] ++ vb ln) _ (RI.own HO7.out) (by have := HN.out; omega)).mono ?_); rintro e w8 ⟨v8, rfl, ho8, hb8⟩; have HO8 := Lib.hid (own_mono ho8 hS.size); clear ho8; (try clear hN); have hN := hS.trans (hb8.mono hS.size))
  refine hK.out _ _ ?_ (fun hS1 => ?_)
  · (first | exact hN | exact hS)
  clear hK K hS; have hS := hS1; clear hS1
  (try simp only [Act.put, List.setIfInBounds_toArray, List.set_cons_zero, List.set_cons_succ])
  refine rg_one 7 ({ dst := some 38, op := Op.call { callee := Callee.builtin Builtin.append, args := #[Operand.tmp 35, Operand.tmp 37], argTypes := #[22, 22] }, type := 22, pos := "record.go:37", after := #[{ on := 4, ground := Ground.data }, { on := 6, ground := Ground.data }, { on := 4, ground := Ground.chain }], guard := none } : Oper) (by kernel_rfl) rfl (fun K hK => ?_)
  rw [if_pos (by rfl)]; refine wp_appn (.tmp 35) (.tmp 37) 22 rfl 5 .u8 1 Try.underlying22 Try.info_u8 w6.heap.size _ (2 + (vb ln).length + (vb m).length) ([k, c] ++ vb ln ++ vb m) rfl HO8.out _ n d rfl (HR6.out.keep hS) (by have := HN.out; omega) (by have := HN.out; omega) hS.size ?_; intro v9 w9 ho9 hg9 _; have HO9 := Lib.hid ho9; clear ho9; (try clear hN); have hN := hS.grown hg9 hS.size (fun k e => (HO8.out.lt k e).1)
  refine hK.out _ _ ?_ (fun hS1 => ?_)
  · (first | exact hN | exact hS)
  clear hK K hS; have hS := hS1; clear hS1
  (try simp only [Act.put, List.setIfInBounds_toArray, List.set_cons_zero, List.set_cons_succ])
  refine wpAnyH_take (i := 8) (oi := ({ dst := some 2, op := Op.assign (Operand.tmp 38), type := 22, pos := "record.go:37", after := #[{ on := 7, ground := Ground.data }, { on := 7, ground := Ground.chain }, { on := 0, ground := Ground.phase }, { on := 1, ground := Ground.phase }, { on := 2, ground := Ground.phase }, { on := 3, ground := Ground.phase }, { on := 4, ground := Ground.phase }, { on := 5, ground := Ground.phase }, { on := 6, ground := Ground.phase }, { on := 7, ground := Ground.phase }], guard := none } : Oper)) (v := ?_) rfl (by kernel_rfl) (by kernel_rfl) (by kernel_rfl) (fun _ _ _ h => h) (Or.inl ⟨by rfl, ?_⟩) hS ?_
  rotate_left
  · (intro w hSw; (try dsimp only at hSw); go_simp; try with_reducible rfl)
  (try simp only [Act.put, List.setIfInBounds_toArray, List.set_cons_zero, List.set_cons_succ])
  refine wpAnyH_take (i := 9) (oi := ({ dst := some 3, op := Op.assign (Operand.const (Value.int IntKind.i64 0)), type := 25, pos := "record.go:37", after := #[{ on := 8, ground := Ground.chain }, { on := 0, ground := Ground.phase }, { on := 1, ground := Ground.phase }, { on := 2, ground := Ground.phase }, { on := 3, ground := Ground.phase }, { on := 4, ground := Ground.phase }, { on := 5, ground := Ground.phase }, { on := 6, ground := Ground.phase }, { on := 7, ground := Ground.phase }, { on := 8, ground := Ground.phase }], guard := none } : Oper)) (v := ?_) rfl (by kernel_rfl) (by kernel_rfl) (by kernel_rfl) (fun _ _ _ h => h) (Or.inl ⟨by rfl, ?_⟩) hS ?_
  rotate_left
  · (intro w hSw; (try dsimp only at hSw); go_simp; try with_reducible rfl)
  (try simp only [Act.put, List.setIfInBounds_toArray, List.set_cons_zero, List.set_cons_succ])
  refine wpAnyH_done (by kernel_rfl) ?_ _
  go_wp2
  go_ret2
  exact ⟨_, rfl, own_len (own_mono HO9.out HB7.out.size) HEQ.out.1 HEQ.out.2, bch HB7.out hS⟩
end Go.Proofs.Ytnnkaddgbcdehaa
