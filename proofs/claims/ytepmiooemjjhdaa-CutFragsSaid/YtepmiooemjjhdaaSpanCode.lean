/-
  WHAT THE PROGRAM'S OWN FUNCTIONS OF LAYER 7 (span) ANSWER. A Spot is the value .agg of its two numbers. No condition.
-/
import Derived.Test.YtepmiooemjjhdaaSpanRef
import Derived.Test.YtepmiooemjjhdaaRegion
import Derived.Laws.StructEq
import Derived.Deep.WholeRow
namespace Go.Proofs.Ytepmiooemjjhdaa
open Go.RowKit
theorem spot_info : (Try.prog.info? 44).map (·.size) = some 2 := by kernel_rfl
theorem nearer_any (n m : Int) (h : I63 n) (h2 : 0 ≤ m ∧ m ≤ 832) (w : World) : Calls Try.prog 26 #[.int .i64 n, .int .i64 m] w fun e w' => e = .returned (.int .i64 (min (max n 0) m)) ∧ w' = w := by
  unfold I63 at h
  go_enter Try.func26, Try.ntmps26
  go_wp2
  all_goals
    go_ret
    exact ⟨ret_int (by omega), rfl⟩
theorem place_any (n : Int) (h : I63 n) (w : World) : Calls Try.prog 25 #[.int .i64 n] w fun e w' => e = .returned (.int .i64 (nr n : Int)) ∧ w' = w := by
  have HN : Hid (∀ w, Calls Try.prog 26 #[.int .i64 n, .int .i64 832] w fun e w' => e = .returned (.int .i64 (nr n : Int)) ∧ w' = w) := fun w =>
    (nearer_any n 832 h (by omega) w).mono fun e w' ⟨he, hw⟩ => ⟨by rw [he]; unfold nr; congr 2; omega, hw⟩
  go_enter Try.func25, Try.ntmps25
  go_wp2_with (first
    | (go_at_call 26; (with_reducible refine (HN.out _).mono ?_); rintro e w' ⟨rfl, rfl⟩))
  go_ret
  exact ⟨rfl, rfl⟩
theorem where_any (n : Int) (h : I63 n) (w : World) : Calls Try.prog 22 #[.int .i64 n] w fun e w' => e = .returned (.agg #[.int .i64 ((nr n / 52 : Nat) : Int), .int .i64 ((nr n % 52 : Nat) : Int)]) ∧ Below w.heap.size w w' := by
  have hle := nr_le n
  have HP : Hid (∀ w, Calls Try.prog 25 #[.int .i64 n] w fun e w' => e = .returned (.int .i64 (nr n : Int)) ∧ w' = w) := fun w => place_any n h w
  generalize nr n = a at *
  have hq : (a : Int).tdiv 52 = ((a / 52 : Nat) : Int) := by rw [Int.tdiv_eq_ediv_of_nonneg (by omega)]; omega
  have hm : (a : Int).tmod 52 = ((a % 52 : Nat) : Int) := by rw [Int.tmod_eq_emod_of_nonneg (by omega)]; omega
  obtain ⟨q, hq2⟩ : ∃ q, a / 52 = q := ⟨_, rfl⟩
  obtain ⟨r, hr2⟩ : ∃ r, a % 52 = r := ⟨_, rfl⟩
  rw [hq2] at hq ⊢
  rw [hr2] at hm ⊢
  have hq3 : (q : Int) ≤ 16 := by omega
  have hr3 : (r : Int) ≤ 51 := by omega
  clear hq2 hr2
  go_enter Try.func22, Try.ntmps22
  go_wp2_with (first
    | (go_at_call 25; (with_reducible refine (HP.out _).mono ?_); rintro e w' ⟨rfl, rfl⟩))
  exact bodyPost_ret_by (v := .agg #[.int .i64 q, .int .i64 r]) (results_cell_row rfl _ _ w.heap.size _ #[.int .i64 q, .int .i64 r] (0, 0) _ rfl (heap_alloc_last w _) Try.underlying44 rfl spot_info) rfl ⟨rfl, (Below.refl _ _).alloc (Nat.le_refl _) _⟩
theorem wrap_id (x : Int) (h : -1000 ≤ x ∧ x ≤ 10000) : IntKind.i64.wrap x = x := by
  exact IntWalk.i64_in _ (by omega)
/-- the place of a spot -/
def atN (s o : Int) : Nat := min ((min (max s 0) 16).toNat * 52 + (min (max o 0) 52).toNat) 832
set_option maxRecDepth 8000 in
theorem at_any (s o : Int) (h : I63 s) (h2 : I63 o) (w : World) : Calls Try.prog 23 #[.agg #[.int .i64 s, .int .i64 o]] w fun e w' => e = .returned (.int .i64 (atN s o : Int)) ∧ Below w.heap.size w w' := by
  obtain ⟨x, hx⟩ : ∃ x, min (max s 0) 16 = x := ⟨_, rfl⟩
  obtain ⟨y, hy⟩ : ∃ y, min (max o 0) 52 = y := ⟨_, rfl⟩
  have hx0 : 0 ≤ x := by omega
  have hx1 : x ≤ 16 := by omega
  have hy0 : 0 ≤ y := by omega
  have hy1 : y ≤ 52 := by omega
  have H1 : Hid (∀ w, Calls Try.prog 26 #[.int .i64 s, .int .i64 16] w fun e w' => e = .returned (.int .i64 x) ∧ w' = w) := fun w => hx ▸ nearer_any s 16 h (by omega) w
  have H2 : Hid (∀ w, Calls Try.prog 26 #[.int .i64 o, .int .i64 52] w fun e w' => e = .returned (.int .i64 y) ∧ w' = w) := fun w => hy ▸ nearer_any o 52 h2 (by omega) w
  have hwr : IntKind.i64.wrap (IntKind.i64.wrap (52 * x) + y) = 52 * x + y := by rw [wrap_id (52 * x) (by omega), wrap_id (52 * x + y) (by omega)]
  have H3 : Hid (∀ w, Calls Try.prog 25 #[.int .i64 (52 * x + y)] w fun e w' => e = .returned (.int .i64 (atN s o : Int)) ∧ w' = w) := fun w =>
    (place_any (52 * x + y) (by unfold I63; omega) w).mono fun e w' ⟨he, hw⟩ => ⟨by rw [he]; unfold nr atN; rw [hx, hy]; congr 2; omega, hw⟩
  generalize atN s o = at' at *
  clear hx hy
  unfold I63 at h h2
  go_enter Try.func23, Try.ntmps23
  go_wp2
  refine wp_region_held_drew (S := (fun w' => w' = (w.alloc (.cells #[.int .i64 s, .int .i64 o] 44)).drew)) (by kernel_rfl) rfl (fun hS => ?_)
  refine wpAnyH_take (i := 0) (oi := ({ dst := some 3, op := Op.fieldAddr 44 (Operand.tmp 1) 0, type := 0, pos := "span.go:18", after := #[], guard := none } : Oper)) (v := ?_) rfl (by kernel_rfl) (by kernel_rfl) (by kernel_rfl) (fun _ _ _ h => h) (Or.inl ⟨by rfl, ?_⟩) hS ?_
  rotate_left
  · (intro w hSw; (try dsimp only at hSw); go_simp; try with_reducible rfl)
  (try simp only [Act.put, List.setIfInBounds_toArray, List.set_cons_zero, List.set_cons_succ])
  refine wpAnyH_take (i := 1) (oi := ({ dst := some 4, op := Op.load 3 (Operand.tmp 3), type := 3, pos := "span.go:18", after := #[{ on := 0, ground := Ground.data }], guard := none } : Oper)) (v := ?_) rfl (by kernel_rfl) (by kernel_rfl) (by kernel_rfl) (fun _ _ _ h => h) (Or.inl ⟨by rfl, ?_⟩) hS ?_
  rotate_left
  · (intro w hSw; (try dsimp only at hSw); go_simp; try with_reducible rfl)
  (try simp only [Act.put, List.setIfInBounds_toArray, List.set_cons_zero, List.set_cons_succ])
  refine wpAnyH_take (i := 4) (oi := ({ dst := some 7, op := Op.fieldAddr 44 (Operand.tmp 1) 1, type := 0, pos := "span.go:18", after := #[], guard := none } : Oper)) (v := ?_) rfl (by kernel_rfl) (by kernel_rfl) (by kernel_rfl) (fun _ _ _ h => h) (Or.inl ⟨by rfl, ?_⟩) hS ?_
  rotate_left
  · (intro w hSw; (try dsimp only at hSw); go_simp; try with_reducible rfl)
  (try simp only [Act.put, List.setIfInBounds_toArray, List.set_cons_zero, List.set_cons_succ])
  refine wpAnyH_take (i := 5) (oi := ({ dst := some 8, op := Op.load 3 (Operand.tmp 7), type := 3, pos := "span.go:18", after := #[{ on := 4, ground := Ground.data }], guard := none } : Oper)) (v := ?_) rfl (by kernel_rfl) (by kernel_rfl) (by kernel_rfl) (fun _ _ _ h => h) (Or.inl ⟨by rfl, ?_⟩) hS ?_
  rotate_left
  · (intro w hSw; (try dsimp only at hSw); go_simp; try with_reducible rfl)
  (try simp only [Act.put, List.setIfInBounds_toArray, List.set_cons_zero, List.set_cons_succ])
  refine rg_one 2 ({ dst := some 5, op := Op.call { callee := Callee.value (Operand.func 26), args := #[Operand.tmp 4, Operand.const (Value.int IntKind.i64 16)], argTypes := #[3, 3] }, type := 3, pos := "span.go:18", after := #[{ on := 1, ground := Ground.data }], guard := none } : Oper) (by kernel_rfl) rfl (fun K hK => ?_)
  go_simp
  (go_at_call 26; (with_reducible refine (H1.out _).mono ?_); rintro e w2 ⟨rfl, rfl⟩)
  refine hK.out _ _ ?_ (fun hS1 => ?_)
  · (exact hS)
  clear hK K hS; have hS := hS1; clear hS1
  (try simp only [Act.put, List.setIfInBounds_toArray, List.set_cons_zero, List.set_cons_succ])
  refine wpAnyH_take (i := 3) (oi := ({ dst := some 6, op := Op.binOp BinOp.mul 3 (Operand.const (Value.int IntKind.i64 52)) (Operand.tmp 5) 3, type := 3, pos := "span.go:18", after := #[{ on := 2, ground := Ground.data }], guard := none } : Oper)) (v := ?_) rfl (by kernel_rfl) (by kernel_rfl) (by kernel_rfl) (fun _ _ _ h => h) (Or.inl ⟨by rfl, ?_⟩) hS ?_
  rotate_left
  · (intro w hSw; (try dsimp only at hSw); go_simp; try with_reducible rfl)
  (try simp only [Act.put, List.setIfInBounds_toArray, List.set_cons_zero, List.set_cons_succ])
  refine rg_one 6 ({ dst := some 9, op := Op.call { callee := Callee.value (Operand.func 26), args := #[Operand.tmp 8, Operand.const (Value.int IntKind.i64 52)], argTypes := #[3, 3] }, type := 3, pos := "span.go:18", after := #[{ on := 5, ground := Ground.data }, { on := 2, ground := Ground.chain }], guard := none } : Oper) (by kernel_rfl) rfl (fun K hK => ?_)
  go_simp
  (go_at_call 26; (with_reducible refine (H2.out _).mono ?_); rintro e w2 ⟨rfl, rfl⟩)
  refine hK.out _ _ ?_ (fun hS1 => ?_)
  · (exact hS)
  clear hK K hS; have hS := hS1; clear hS1
  (try simp only [Act.put, List.setIfInBounds_toArray, List.set_cons_zero, List.set_cons_succ])
  refine wpAnyH_take (i := 7) (oi := ({ dst := some 10, op := Op.binOp BinOp.add 3 (Operand.tmp 6) (Operand.tmp 9) 3, type := 3, pos := "span.go:18", after := #[{ on := 3, ground := Ground.data }, { on := 6, ground := Ground.data }], guard := none } : Oper)) (v := ?_) rfl (by kernel_rfl) (by kernel_rfl) (by kernel_rfl) (fun _ _ _ h => h) (Or.inl ⟨by rfl, ?_⟩) hS ?_
  rotate_left
  · (intro w hSw; (try dsimp only at hSw); go_simp; try with_reducible rfl)
  (try simp only [Act.put, List.setIfInBounds_toArray, List.set_cons_zero, List.set_cons_succ])
  refine rg_one 8 ({ dst := some 11, op := Op.call { callee := Callee.value (Operand.func 25), args := #[Operand.tmp 10], argTypes := #[3] }, type := 3, pos := "span.go:18", after := #[{ on := 7, ground := Ground.data }, { on := 6, ground := Ground.chain }], guard := none } : Oper) (by kernel_rfl) rfl (fun K hK => ?_)
  go_simp
  (go_at_call 25; (with_reducible refine (H3.out _).mono ?_); rintro e w2 ⟨rfl, rfl⟩)
  refine hK.out _ _ ?_ (fun hS1 => ?_)
  · (exact hS)
  clear hK K hS; have hS := hS1; clear hS1
  (try simp only [Act.put, List.setIfInBounds_toArray, List.set_cons_zero, List.set_cons_succ])
  refine wpAnyH_take (i := 9) (oi := ({ dst := some 2, op := Op.assign (Operand.tmp 11), type := 3, pos := "span.go:18", after := #[{ on := 8, ground := Ground.data }, { on := 8, ground := Ground.chain }, { on := 0, ground := Ground.phase }, { on := 1, ground := Ground.phase }, { on := 2, ground := Ground.phase }, { on := 3, ground := Ground.phase }, { on := 4, ground := Ground.phase }, { on := 5, ground := Ground.phase }, { on := 6, ground := Ground.phase }, { on := 7, ground := Ground.phase }, { on := 8, ground := Ground.phase }], guard := none } : Oper)) (v := ?_) rfl (by kernel_rfl) (by kernel_rfl) (by kernel_rfl) (fun _ _ _ h => h) (Or.inl ⟨by rfl, ?_⟩) hS ?_
  rotate_left
  · (intro w hSw; (try dsimp only at hSw); go_simp; try with_reducible rfl)
  (try simp only [Act.put, List.setIfInBounds_toArray, List.set_cons_zero, List.set_cons_succ])
  refine wpAnyH_done (by kernel_rfl) ?_ _
  go_wp2
  go_ret
  exact ⟨rfl, ((Below.refl _ _).alloc (Nat.le_refl _) _).drew⟩
theorem bchain {a b c : World} (h : Below a.heap.size a b) (k : Below b.heap.size b c) : Below a.heap.size a c := h.trans (k.mono h.size)
theorem at_nat (s o a : Nat) (hs : s ≤ 16) (ho : o ≤ 51) (ha : s * 52 + o = a) (ha2 : a ≤ 832) (w : World) : Calls Try.prog 23 #[.agg #[.int .i64 s, .int .i64 o]] w fun e w' => e = .returned (.int .i64 (a : Int)) ∧ Below w.heap.size w w' :=
  (at_any s o (by unfold I63; omega) (by unfold I63; omega) w).mono fun e w' ⟨he, hw⟩ => ⟨by rw [he]; unfold atN; congr 2; omega, hw⟩
set_option maxRecDepth 8000 in
theorem left_any (n : Int) (h : I63 n) (w : World) : Calls Try.prog 17 #[.int .i64 n] w fun e w' => e = .returned (.int .i64 (leftN (nr n) : Int)) ∧ Below w.heap.size w w' := by
  have hle := nr_le n
  have HW : Hid (∀ w, Calls Try.prog 22 #[.int .i64 n] w fun e w' => e = .returned (.agg #[.int .i64 ((nr n / 52 : Nat) : Int), .int .i64 ((nr n % 52 : Nat) : Int)]) ∧ Below w.heap.size w w') := fun w => where_any n h w
  generalize nr n = a at *
  have HA : Hid (∀ w, Calls Try.prog 23 #[.agg #[.int .i64 ((a / 52 : Nat) : Int), .int .i64 ((a % 52 : Nat) : Int)]] w fun e w' => e = .returned (.int .i64 (a : Int)) ∧ Below w.heap.size w w') := fun w =>
    at_nat (a / 52) (a % 52) a (by omega) (by omega) (by omega) hle w
  have hm : (a : Int).tmod 208 = ((a % 208 : Nat) : Int) := by rw [Int.tmod_eq_emod_of_nonneg (by omega)]; omega
  have hmd := Nat.div_add_mod a 52
  obtain ⟨q, hq2⟩ : ∃ q, a / 52 = q := ⟨_, rfl⟩
  obtain ⟨r, hr2⟩ : ∃ r, a % 52 = r := ⟨_, rfl⟩
  obtain ⟨k, hk2⟩ : ∃ k, a % 208 = k := ⟨_, rfl⟩
  have hr3 : r < 52 := by omega
  have hk3 : (k : Int) < 208 := by omega
  rw [hq2, hr2] at HW HA hmd
  rw [hk2] at hm
  have HL := Lib.hid (show leftN a = if a = 832 then 0 else 208 - k by unfold leftN; rw [hk2])
  generalize leftN a = la at *
  have HM := Lib.hid hmd
  have HR := Lib.hid hr3
  clear hq2 hr2 hk2 hmd hr3
  by_cases h8 : a = 832
  · have hq : (q : Int) = 16 := by have := HM.out; have := HR.out; omega
    have hr : (r : Int) = 0 := by have := HM.out; have := HR.out; omega
    go_enter Try.func17, Try.ntmps17
    go_wp2_with (first
      | (go_at_call 22; (with_reducible refine (HW.out _).mono ?_); rintro e w1 ⟨rfl, hb⟩; have HB1 := Lib.hid hb; clear hb))
    go_ret
    exact ⟨ret_int (by rw [HL.out, if_pos h8]; rfl), HB1.out.alloc HB1.out.size _⟩
  · have hne : ¬ (q : Int) = 16 := by have := HM.out; have := HR.out; omega
    go_enter Try.func17, Try.ntmps17
    go_wp2_with (first
      | (go_at_call 22; (with_reducible refine (HW.out _).mono ?_); rintro e w1 ⟨rfl, hb⟩; have HB1 := Lib.hid hb; clear hb)
      | (go_at_call 23; (with_reducible refine (HA.out _).mono ?_); rintro e w2 ⟨rfl, hb⟩; have HB2 := Lib.hid (bchain (HB1.out.alloc HB1.out.size _) hb); clear hb))
    go_ret
    exact ⟨ret_int (by rw [HL.out, if_neg h8]; omega), HB2.out⟩
set_option maxRecDepth 8000 in
theorem begin_any (n : Int) (h : I63 n) (w : World) : Calls Try.prog 16 #[.int .i64 n] w fun e w' => e = .returned (.int .i64 (beginN (nr n) : Int)) ∧ Below w.heap.size w w' := by
  have hle := nr_le n
  have HW : Hid (∀ w, Calls Try.prog 22 #[.int .i64 n] w fun e w' => e = .returned (.agg #[.int .i64 ((nr n / 52 : Nat) : Int), .int .i64 ((nr n % 52 : Nat) : Int)]) ∧ Below w.heap.size w w') := fun w => where_any n h w
  generalize nr n = a at *
  have hb := begin_le a hle
  have hmd := Nat.div_add_mod a 52
  obtain ⟨q, hq2⟩ : ∃ q, a / 52 = q := ⟨_, rfl⟩
  obtain ⟨r, hr2⟩ : ∃ r, a % 52 = r := ⟨_, rfl⟩
  have hr3 : r < 52 := by omega
  rw [hq2, hr2] at HW
  rw [hq2, hr2] at hmd
  have hbg : beginN a = if 41 < r then (q + 1) * 52 else a := by unfold beginN; rw [hq2, hr2]
  generalize beginN a = be at *
  clear hq2 hr2
  have hr4 : (r : Int) ≤ 51 := by omega
  have hq4 : (q : Int) ≤ 16 := by omega
  by_cases h4 : 41 < r
  · rw [if_pos h4] at hbg
    have HA : Hid (∀ w, Calls Try.prog 23 #[.agg #[.int .i64 ((q : Int) + 1), .int .i64 0]] w fun e w' => e = .returned (.int .i64 (be : Int)) ∧ Below w.heap.size w w') := fun w =>
      at_nat (q + 1) 0 be (by omega) (by omega) (by omega) (by omega) w
    clear hmd hb hbg
    go_enter Try.func16, Try.ntmps16
    go_wp2_with (first
      | (go_at_call 22; (with_reducible refine (HW.out _).mono ?_); rintro e w1 ⟨rfl, hb⟩; have HB1 := Lib.hid hb; clear hb)
      | (go_at_call 23; (with_reducible refine (HA.out _).mono ?_); rintro e w2 ⟨rfl, hb⟩; have HB2 := Lib.hid (bchain (HB1.out.alloc HB1.out.size _) hb); clear hb))
    go_ret
    exact ⟨rfl, HB2.out⟩
  · rw [if_neg h4] at hbg
    subst hbg
    have HA : Hid (∀ w, Calls Try.prog 23 #[.agg #[.int .i64 (q : Int), .int .i64 (r : Int)]] w fun e w' => e = .returned (.int .i64 (be : Int)) ∧ Below w.heap.size w w') := fun w =>
      at_nat q r be (by omega) (by omega) (by omega) (by omega) w
    clear hmd hb
    go_enter Try.func16, Try.ntmps16
    go_wp2_with (first
      | (go_at_call 22; (with_reducible refine (HW.out _).mono ?_); rintro e w1 ⟨rfl, hb⟩; have HB1 := Lib.hid hb; clear hb)
      | (go_at_call 23; (with_reducible refine (HA.out _).mono ?_); rintro e w2 ⟨rfl, hb⟩; have HB2 := Lib.hid (bchain (HB1.out.alloc HB1.out.size _) hb); clear hb))
    go_ret
    exact ⟨rfl, HB2.out⟩
end Go.Proofs.Ytepmiooemjjhdaa
