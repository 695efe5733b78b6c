/-
  WHAT THE PROGRAM'S OWN FUNCTIONS OF LAYER 11 (record) ANSWER: within, Right, wide, narrow, Size, Same (and bytes.Equal). No condition of ours but a bound on the data's length.
-/
import Derived.Test.YtnnkaddgbcdehaaRecRefB
import Derived.Test.YtnnkaddgbcdehaaClone
namespace Go.Proofs.Ytnnkaddgbcdehaa
open Go.RowKit
theorem within_any (n a b : Int) (w : World) : Calls Try.prog 19 #[.int .i64 n, .int .i64 a, .int .i64 b] w fun e w' => e = .returned (.bool (decide (a ≤ n ∧ n ≤ b))) ∧ w = w' := by
  by_cases h1 : a ≤ n
  · by_cases h2 : n ≤ b
    · rw [show decide (a ≤ n ∧ n ≤ b) = true from decide_eq_true ⟨h1, h2⟩]
      go_enter Try.func19, Try.ntmps19
      go_wp2
      go_ret
      first
        | exact ⟨rfl, rfl⟩
        | exact ⟨ret_bool (decide_eq_true (by omega)), rfl⟩
    · rw [show decide (a ≤ n ∧ n ≤ b) = false from decide_eq_false (fun h => h2 h.2)]
      go_enter Try.func19, Try.ntmps19
      go_wp2
      go_ret
      first
        | exact ⟨rfl, rfl⟩
        | exact ⟨ret_bool (decide_eq_false (by omega)), rfl⟩
  · rw [show decide (a ≤ n ∧ n ≤ b) = false from decide_eq_false (fun h => h1 h.1)]
    go_enter Try.func19, Try.ntmps19
    go_wp2
    go_ret
    exact ⟨rfl, rfl⟩
theorem within_y (n a b : Int) (y : Bool) (h : decide (a ≤ n ∧ n ≤ b) = y) (w : World) : Calls Try.prog 19 #[.int .i64 n, .int .i64 a, .int .i64 b] w fun e w' => e = .returned (.bool y) ∧ w = w' := by
  rw [← h]; exact within_any n a b w
set_option maxRecDepth 8000 in
set_option maxHeartbeats 2000000 in
theorem prright_any (k c l p : Int) (v : Value) (w : World) :
    Calls Try.prog 8 #[.agg (rA k c l p v)] w fun e w' => e = .returned (.bool (recOk k c l p)) ∧ Below w.heap.size w w' := by
  obtain ⟨y1, h1⟩ : ∃ y, decide (1 ≤ k ∧ k ≤ 9) = y := ⟨_, rfl⟩
  obtain ⟨y2, h2⟩ : ∃ y, decide (0 ≤ c ∧ c ≤ 3) = y := ⟨_, rfl⟩
  obtain ⟨y3, h3⟩ : ∃ y, decide (1 ≤ l ∧ l ≤ 2147483647) = y := ⟨_, rfl⟩
  obtain ⟨y4, h4⟩ : ∃ y, decide (0 ≤ p ∧ p ≤ l - 1) = y := ⟨_, rfl⟩
  have hall : recOk k c l p = (y1 && (y2 && (y3 && y4))) := by
    rw [← h1, ← h2, ← h3, ← h4, Bool.eq_iff_iff]; unfold recOk; simp; omega
  have W1 := Lib.hid (within_y k 1 9 y1 h1)
  have W2 := Lib.hid (within_y c 0 3 y2 h2)
  have W3 := Lib.hid (within_y l 1 2147483647 y3 h3)
  have W4 := Lib.hid (within_y p 0 (l - 1) y4 h4)
  have HA := Lib.hid (RO.alloc (k := k) (c := c) (l := l) (p := p) (v := v) w)
  rw [hall]
  cases y1 with
  | false =>
    clear h1 h2 h3 h4 hall
    go_enter Try.func8, Try.ntmps8
    go_wp2_with (first
      | (go_at_call 19; (with_reducible refine (W1.out _).mono ?_); rintro e w' ⟨rfl, rfl⟩))
    go_ret
    exact ⟨rfl, balloc _ _⟩
  | true =>
    cases y2 with
    | false =>
      clear h1 h2 h3 h4 hall
      go_enter Try.func8, Try.ntmps8
      go_wp2_with (first
        | (go_at_call 19; (with_reducible refine (W1.out _).mono ?_); rintro e w' ⟨rfl, rfl⟩)
        | (go_at_call 19; (with_reducible refine (W2.out _).mono ?_); rintro e w' ⟨rfl, rfl⟩))
      go_ret
      exact ⟨rfl, balloc _ _⟩
    | true =>
      cases y3 with
      | false =>
        clear h1 h2 h3 h4 hall
        go_enter Try.func8, Try.ntmps8
        go_wp2_with (first
          | (go_at_call 19; (with_reducible refine (W1.out _).mono ?_); rintro e w' ⟨rfl, rfl⟩)
          | (go_at_call 19; (with_reducible refine (W2.out _).mono ?_); rintro e w' ⟨rfl, rfl⟩)
          | (go_at_call 19; (with_reducible refine (W3.out _).mono ?_); rintro e w' ⟨rfl, rfl⟩))
        go_ret
        exact ⟨rfl, balloc _ _⟩
      | true =>
        obtain ⟨hl1, hl2⟩ := of_decide_eq_true h3
        clear h1 h2 h3 h4 hall
        go_enter Try.func8, Try.ntmps8
        go_wp2_with (first
          | (go_at_call 19; (with_reducible refine (W1.out _).mono ?_); rintro e w' ⟨rfl, rfl⟩)
          | (go_at_call 19; (with_reducible refine (W2.out _).mono ?_); rintro e w' ⟨rfl, rfl⟩)
          | (go_at_call 19; (with_reducible refine (W3.out _).mono ?_); rintro e w' ⟨rfl, rfl⟩)
          | (go_at_call 19; (with_reducible refine (W4.out _).mono ?_); rintro e w' ⟨rfl, rfl⟩))
        go_ret
        exact ⟨rfl, balloc _ _⟩
set_option maxRecDepth 8000 in
theorem wide_any (k c l p : Int) (ln m : Nat) (v : Value) (w : World) (hl : l = ln) (hm : l - p = m) (h : recOk k c l p = true) :
    Calls Try.prog 17 #[.agg (rA k c l p v)] w fun e w' => e = .returned (.tuple #[.int .u64 ln, .int .u64 m]) ∧ Below w.heap.size w w' := by
  have hp := ok_parts h
  subst hl
  have hsub : wrap64 ((ln : Int) - p) = (m : Int) := by rw [IntWalk.wrap64_in _ (by omega)]; exact hm
  have hln : (ln : Int) ≤ 2147483647 := by omega
  have hmn : (m : Int) ≤ 2147483647 := by omega
  obtain ⟨w1, hw1⟩ : ∃ q, w.alloc (.cells (rA k c ln p v) 24) = q := ⟨_, rfl⟩
  have HA : Hid (RO w1 w.heap.size k c ln p v) := Lib.hid (by rw [← hw1]; exact RO.alloc w)
  have HB : Hid (Below w.heap.size w w1) := Lib.hid (by rw [← hw1]; exact balloc w _)
  have HZ := Lib.hid HA.out.cells
  have hlw : IntKind.u64.wrap (ln : Int) = ln := by rw [IntKind.wrap_u64]; omega
  have hmw : IntKind.u64.wrap (m : Int) = m := by rw [IntKind.wrap_u64]; omega
  have HLW := Lib.hid hlw
  have HMW := Lib.hid hmw
  have HSB : Hid (IntKind.i64.wrap ((ln : Int) - p) = (m : Int)) := Lib.hid (by rw [IntKind.wrap_i64]; omega)
  clear h hp hm hsub hlw hmw
  go_enter Try.func17, Try.ntmps17
  go_wp2_with fail
  clear hw1
  refine wp_region_held_drew (S := (fun W' => Below w1.heap.size w1 W')) (by kernel_rfl) ((Below.refl _ _).drew) (fun hS => ?_)
  refine wpAnyH_take (i := 0) (oi := ({ dst := some 4, op := Op.fieldAddr 24 (Operand.tmp 1) 2, type := 0, pos := "record.go:87", after := #[], guard := none } : Oper)) (v := ?_) rfl (by kernel_rfl) (by kernel_rfl) (by kernel_rfl) (fun _ _ _ h => h) (Or.inl ⟨by rfl, ?_⟩) hS ?_
  rotate_left
  · (intro w hSw; (try dsimp only at hSw); go_simp; try with_reducible rfl)
  (try simp only [Act.put, List.setIfInBounds_toArray, List.set_cons_zero, List.set_cons_succ])
  refine wpAnyH_take (i := 1) (oi := ({ dst := some 5, op := Op.load 3 (Operand.tmp 4), type := 3, pos := "record.go:87", after := #[{ on := 0, ground := Ground.data }], guard := none } : Oper)) (v := ?_) rfl (by kernel_rfl) (by kernel_rfl) (by kernel_rfl) (fun _ _ _ h => h) (Or.inl ⟨by rfl, ?_⟩) hS ?_
  rotate_left
  · (intro w hSw; (try dsimp only at hSw); have z := cell_keep hSw HZ.out.2.2.1; go_simp; try with_reducible rfl)
  (try simp only [Act.put, List.setIfInBounds_toArray, List.set_cons_zero, List.set_cons_succ])
  refine wpAnyH_take (i := 2) (oi := ({ dst := some 6, op := Op.convert 3 36 (Operand.tmp 5), type := 36, pos := "record.go:87", after := #[{ on := 1, ground := Ground.data }], guard := none } : Oper)) (v := .int .u64 ln) rfl (by kernel_rfl) (by kernel_rfl) (by kernel_rfl) (fun _ _ _ h => h) (Or.inl ⟨by rfl, ?_⟩) hS ?_
  · (intro w hSw; (try dsimp only at hSw); have z := HLW.out; go_simp; (try exact z))
  (try simp only [Act.put, List.setIfInBounds_toArray, List.set_cons_zero, List.set_cons_succ])
  refine wpAnyH_take (i := 3) (oi := ({ dst := some 7, op := Op.fieldAddr 24 (Operand.tmp 1) 2, type := 0, pos := "record.go:87", after := #[{ on := 9, ground := Ground.gcOnly Departure.lateStores }], guard := none } : Oper)) (v := ?_) rfl (by kernel_rfl) (by kernel_rfl) (by kernel_rfl) (fun _ _ _ h => h) (Or.inl ⟨by rfl, ?_⟩) hS ?_
  rotate_left
  · (intro w hSw; (try dsimp only at hSw); go_simp; try with_reducible rfl)
  (try simp only [Act.put, List.setIfInBounds_toArray, List.set_cons_zero, List.set_cons_succ])
  refine wpAnyH_take (i := 4) (oi := ({ dst := some 8, op := Op.load 3 (Operand.tmp 7), type := 3, pos := "record.go:87", after := #[{ on := 3, ground := Ground.data }, { on := 9, ground := Ground.gcOnly Departure.lateStores }], guard := none } : Oper)) (v := ?_) rfl (by kernel_rfl) (by kernel_rfl) (by kernel_rfl) (fun _ _ _ h => h) (Or.inl ⟨by rfl, ?_⟩) hS ?_
  rotate_left
  · (intro w hSw; (try dsimp only at hSw); have z := cell_keep hSw HZ.out.2.2.1; go_simp; try with_reducible rfl)
  (try simp only [Act.put, List.setIfInBounds_toArray, List.set_cons_zero, List.set_cons_succ])
  refine wpAnyH_take (i := 5) (oi := ({ dst := some 9, op := Op.fieldAddr 24 (Operand.tmp 1) 3, type := 0, pos := "record.go:87", after := #[{ on := 9, ground := Ground.gcOnly Departure.lateStores }], guard := none } : Oper)) (v := ?_) rfl (by kernel_rfl) (by kernel_rfl) (by kernel_rfl) (fun _ _ _ h => h) (Or.inl ⟨by rfl, ?_⟩) hS ?_
  rotate_left
  · (intro w hSw; (try dsimp only at hSw); go_simp; try with_reducible rfl)
  (try simp only [Act.put, List.setIfInBounds_toArray, List.set_cons_zero, List.set_cons_succ])
  refine wpAnyH_take (i := 6) (oi := ({ dst := some 10, op := Op.load 3 (Operand.tmp 9), type := 3, pos := "record.go:87", after := #[{ on := 5, ground := Ground.data }, { on := 9, ground := Ground.gcOnly Departure.lateStores }], guard := none } : Oper)) (v := ?_) rfl (by kernel_rfl) (by kernel_rfl) (by kernel_rfl) (fun _ _ _ h => h) (Or.inl ⟨by rfl, ?_⟩) hS ?_
  rotate_left
  · (intro w hSw; (try dsimp only at hSw); have z := cell_keep hSw HZ.out.2.2.2.1; go_simp; try with_reducible rfl)
  (try simp only [Act.put, List.setIfInBounds_toArray, List.set_cons_zero, List.set_cons_succ])
  refine wpAnyH_take (i := 7) (oi := ({ dst := some 11, op := Op.binOp BinOp.sub 3 (Operand.tmp 8) (Operand.tmp 10) 3, type := 3, pos := "record.go:87", after := #[{ on := 4, ground := Ground.data }, { on := 6, ground := Ground.data }, { on := 9, ground := Ground.gcOnly Departure.lateStores }], guard := none } : Oper)) (v := .int .i64 (m : Int)) rfl (by kernel_rfl) (by kernel_rfl) (by kernel_rfl) (fun _ _ _ h => h) (Or.inl ⟨by rfl, ?_⟩) hS ?_
  · (intro w hSw; (try dsimp only at hSw); have z := HSB.out; go_simp; (try exact z))
  (try simp only [Act.put, List.setIfInBounds_toArray, List.set_cons_zero, List.set_cons_succ])
  refine wpAnyH_take (i := 8) (oi := ({ dst := some 12, op := Op.convert 3 36 (Operand.tmp 11), type := 36, pos := "record.go:87", after := #[{ on := 7, ground := Ground.data }, { on := 9, ground := Ground.gcOnly Departure.lateStores }], guard := none } : Oper)) (v := .int .u64 m) rfl (by kernel_rfl) (by kernel_rfl) (by kernel_rfl) (fun _ _ _ h => h) (Or.inl ⟨by rfl, ?_⟩) hS ?_
  · (intro w hSw; (try dsimp only at hSw); have z := HMW.out; go_simp; (try exact z))
  (try simp only [Act.put, List.setIfInBounds_toArray, List.set_cons_zero, List.set_cons_succ])
  refine wpAnyH_take (i := 9) (oi := ({ dst := some 2, op := Op.assign (Operand.tmp 6), type := 36, pos := "record.go:87", after := #[{ on := 2, ground := Ground.data }, { on := 0, ground := Ground.phase }, { on := 1, ground := Ground.phase }, { on := 2, ground := Ground.phase }, { on := 3, ground := Ground.textOnly Departure.lateStores }, { on := 4, ground := Ground.textOnly Departure.lateStores }, { on := 5, ground := Ground.textOnly Departure.lateStores }, { on := 6, ground := Ground.textOnly Departure.lateStores }, { on := 7, ground := Ground.textOnly Departure.lateStores }, { on := 8, ground := Ground.textOnly Departure.lateStores }], guard := none } : Oper)) (v := ?_) rfl (by kernel_rfl) (by kernel_rfl) (by kernel_rfl) (fun _ _ _ h => h) (Or.inl ⟨by rfl, ?_⟩) hS ?_
  rotate_left
  · (intro w hSw; (try dsimp only at hSw); go_simp; try with_reducible rfl)
  (try simp only [Act.put, List.setIfInBounds_toArray, List.set_cons_zero, List.set_cons_succ])
  refine wpAnyH_take (i := 10) (oi := ({ dst := some 3, op := Op.assign (Operand.tmp 12), type := 36, pos := "record.go:87", after := #[{ on := 8, ground := Ground.data }, { on := 9, ground := Ground.chain }, { on := 0, ground := Ground.phase }, { on := 1, ground := Ground.phase }, { on := 2, ground := Ground.phase }, { on := 3, ground := Ground.phase }, { on := 4, ground := Ground.phase }, { on := 5, ground := Ground.phase }, { on := 6, ground := Ground.phase }, { on := 7, ground := Ground.phase }, { on := 8, ground := Ground.phase }, { on := 9, ground := Ground.phase }], guard := none } : Oper)) (v := ?_) rfl (by kernel_rfl) (by kernel_rfl) (by kernel_rfl) (fun _ _ _ h => h) (Or.inl ⟨by rfl, ?_⟩) hS ?_
  rotate_left
  · (intro w hSw; (try dsimp only at hSw); go_simp; try with_reducible rfl)
  (try simp only [Act.put, List.setIfInBounds_toArray, List.set_cons_zero, List.set_cons_succ])
  refine wpAnyH_done (by kernel_rfl) ?_ _
  go_wp2
  go_ret2
  exact ⟨rfl, bch HB.out hS⟩
/-- a number that no record has counts as 0 -/
def nar (n : Int) : Int := if 2147483647 < n then 0 else n
theorem narrow_any (n : Int) (h0 : 0 ≤ n) (w : World) : Calls Try.prog 24 #[.int .u64 n] w fun e w' => e = .returned (.int .i64 (nar n)) ∧ w = w' := by
  unfold nar
  by_cases h : 2147483647 < n
  · rw [if_pos h]
    go_enter Try.func24, Try.ntmps24
    go_wp2
    go_ret
    exact ⟨rfl, rfl⟩
  · rw [if_neg h]
    have h9 : n ≤ 2147483647 := by omega
    go_enter Try.func24, Try.ntmps24
    go_wp2
    go_ret
    exact ⟨rfl, rfl⟩
theorem nar_bd (n : Int) (h : 0 ≤ n) : 0 ≤ nar n ∧ nar n ≤ 2147483647 := by unfold nar; split <;> omega
theorem nar_ok (k c l b : Int) (hl : 0 ≤ l) (hb : 0 ≤ b) : recOk k c (nar l) (nar l - nar b) = recOk k c l (l - b) := by
  unfold recOk nar
  rw [Bool.eq_iff_iff]
  simp only [decide_eq_true_eq]
  split <;> split <;> omega
theorem nar_eq (k c l b : Int) (h : recOk k c l (l - b) = true) : nar l = l ∧ nar b = b := by
  have hp := ok_parts h
  unfold nar
  rw [if_neg (by omega), if_neg (by omega)]
  exact ⟨rfl, rfl⟩
theorem bequal_any (v v' : Value) (n n' : Nat) (d d' : List Int) (w : World) (h1 : RI .u8 w v n d) (h2 : RI .u8 w v' n' d') (hb1 : isB d) (hb2 : isB d') :
    Calls Try.prog 20 #[v, v'] w fun e w' => e = .returned (.bool (decide (d = d'))) ∧ w = w' := by
  have q1 := conv_ri h1
  have q2 := conv_ri h2
  by_cases hd : d = d'
  · subst hd
    rw [show decide (d = d) = true from by simp]
    clear h1 h2 hb1 hb2
    go_enter Try.func20, Try.ntmps20
    go_wp2
    go_ret
    exact ⟨rfl, rfl⟩
  · rw [show decide (d = d') = false from by simp [hd]]
    have hs2 := str_ne (fun e => hd (strOfNums_inj hb1 hb2 e))
    clear h1 h2 hb1 hb2
    go_enter Try.func20, Try.ntmps20
    go_wp2
    go_ret
    exact ⟨rfl, rfl⟩
end Go.Proofs.Ytnnkaddgbcdehaa
