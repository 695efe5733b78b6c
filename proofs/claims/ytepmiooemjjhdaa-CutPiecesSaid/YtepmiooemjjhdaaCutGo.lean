/-
  THE CLOSURE OF Cut (layer 14), walked: it lays one piece more, and tells whether some bytes are left. A piece must have room.
-/
import Derived.Test.YtepmiooemjjhdaaCutGather
namespace Go.Proofs.Ytepmiooemjjhdaa
open Go.RowKit
theorem dec_cast (i : Nat) : decide ((i : Int) = 0) = decide (i = 0) := by rw [Bool.eq_iff_iff]; simp
theorem dec_cast2 (x y : Nat) : decide ((x : Int) = (y : Int)) = decide (x = y) := by rw [Bool.eq_iff_iff, decide_eq_true_iff, decide_eq_true_iff]; omega
set_option maxRecDepth 8000 in
set_option maxHeartbeats 4000000 in
theorem gather_any (B : Nat) (W w : World) (g0 g1 g2 g3 : Nat) (p : Int) (v : Value) (a n i : Nat) (hp : I63 p) (hpn : nr p = pS a n i) (hs : Step a n i) (hn : n ≤ 832) (hi : i ≤ 1000)
    (h : GS B W w g0 g1 g2 g3 p (fS a n i : Nat) (n : Nat) v i (firstP a n i)) :
    Calls Try.prog 15 #[.pointer (some ⟨g0, 0, none⟩), .pointer (some ⟨g1, 0, none⟩), .pointer (some ⟨g2, 0, none⟩), .pointer (some ⟨g3, 0, none⟩)] w fun e w' =>
      e = .returned (.bool (decide (fS a n (i + 1) < n))) ∧ ∃ v', GS B W w' g0 g1 g2 g3 (pS a n (i + 1) : Nat) (fS a n (i + 1) : Nat) (n : Nat) v' (i + 1) (firstP a n (i + 1)) := by
  have hb1 : beginN (nr p) = bS a n i := by rw [hpn]; rfl
  have H1 : Hid (∀ w, Calls Try.prog 16 #[.int .i64 p] w fun e w' => e = .returned (.int .i64 (bS a n i : Int)) ∧ Below w.heap.size w w') := fun w => by
    have := begin_any p hp w; rwa [hb1] at this
  obtain ⟨s1, s2, s3, s4, s5, s6, s7⟩ := hs
  have H2 : Hid (∀ w, Calls Try.prog 17 #[.int .i64 (bS a n i : Int)] w fun e w' => e = .returned (.int .i64 (leftN (bS a n i) : Int)) ∧ Below w.heap.size w w') := fun w => by
    have := left_any (bS a n i) (by unfold I63; omega) w; rwa [nr_nat _ (by omega)] at this
  have HPC : Hid (pcS a n i = ⟨bS a n i, kindN (decide (i = 0)) (decide (fS a n (i + 1) = n)), fS a n i, fS a n (i + 1)⟩) := rfl
  have HFN := Lib.hid (firstP_next a n i)
  obtain ⟨c, hc⟩ : ∃ c, pcS a n i = c := ⟨_, rfl⟩
  rw [hc] at HPC HFN
  clear hc hpn hb1
  generalize bS a n i = b at *
  generalize fS a n (i + 1) = f1 at *
  generalize fS a n i = f at *
  generalize pS a n (i + 1) = p1 at *
  generalize leftN b = lf at *
  generalize firstP a n (i + 1) = l1 at *
  generalize firstP a n i = l0 at *
  obtain ⟨va, vc, rfl⟩ := own_form h.own
  have HG := Lib.hid h
  obtain ⟨c0, c1, c2, c3⟩ := h.cells
  obtain ⟨z0, z1, z3⟩ := h.frozen
  clear h
  have HMIN : Hid (min ((f : Int) + lf - 11) n = f1) := Lib.hid (by omega)
  have HW1 : Hid (IntKind.i64.wrap ((f : Int) + lf) = (f : Int) + lf) := Lib.hid (IntWalk.i64_in _ (by omega))
  have HW2 : Hid (IntKind.i64.wrap ((f : Int) + lf - 11) = (f : Int) + lf - 11) := Lib.hid (IntWalk.i64_in _ (by omega))
  have hbl : (b : Int) ≤ 821 := by omega
  have hf1 : (f1 : Int) ≤ 832 := by omega
  have hff : (f : Int) ≤ f1 := by omega
  have HP1 : Hid ((b : Int) + 11 + f1 - f = p1) := Lib.hid (by omega)
  clear s1 s2 s3 s4 s5 s6 s7 hn
  go_enter Try.func15, Try.ntmps15
  go_wp2_with (first
    | (go_at_call 16; (with_reducible refine (H1.out _).mono ?_); rintro e w1 ⟨rfl, hb⟩; have HG1 := Lib.hid (HG.out.keep hb); obtain ⟨d0, d1, d2, d3⟩ := HG1.out.cells; obtain ⟨y0, y1, y3⟩ := HG1.out.frozen; clear hb))
  obtain ⟨w2, hw2⟩ : ∃ q, w1.setCell ⟨g0, 0, none⟩ (.int .i64 (b : Int)) = q := ⟨_, rfl⟩
  rw [hw2]
  have HG2 : Hid (GS B W w2 g0 g1 g2 g3 b f n (.slice va i vc) i l0) := Lib.hid (by rw [← hw2]; exact HG1.out.set0 b)
  clear hw2 c0 c1 c2 c3 z0 z1 z3 d0 d1 d2 d3 y0 y1 y3 HG HG1 H1
  refine wp_region_held_drew (S := (fun w' => w'.cell? ⟨g0, 0, none⟩ = some (.int .i64 (b : Int)) ∧ w'.cell? ⟨g1, 0, none⟩ = some (.int .i64 (f : Int)) ∧ w'.cell? ⟨g2, 0, none⟩ = some (.int .i64 (n : Int)))) (by kernel_rfl) (let c := (HG2.out.keep ((Below.refl _ _).drew)).cells; ⟨c.1, c.2.1, c.2.2.1⟩) (fun hS => ?_)
  refine wpAnyH_take (i := 0) (oi := ({ dst := some 8, op := Op.load 3 (Operand.tmp 1), type := 3, pos := "cut.go:21", after := #[], guard := none } : Oper)) (v := ?_) rfl (by kernel_rfl) (by kernel_rfl) (by kernel_rfl) (fun _ _ _ h => h) (Or.inl ⟨by rfl, ?_⟩) hS ?_
  rotate_left
  · (intro w hSw; (try dsimp only at hSw); go_simp; try with_reducible rfl)
  (try simp only [Act.put, List.setIfInBounds_toArray, List.set_cons_zero, List.set_cons_succ])
  refine wpAnyH_take (i := 1) (oi := ({ dst := some 9, op := Op.load 3 (Operand.tmp 0), type := 3, pos := "cut.go:21", after := #[], guard := none } : Oper)) (v := ?_) rfl (by kernel_rfl) (by kernel_rfl) (by kernel_rfl) (fun _ _ _ h => h) (Or.inl ⟨by rfl, ?_⟩) hS ?_
  rotate_left
  · (intro w hSw; (try dsimp only at hSw); go_simp; try with_reducible rfl)
  (try simp only [Act.put, List.setIfInBounds_toArray, List.set_cons_zero, List.set_cons_succ])
  refine wpAnyH_take (i := 5) (oi := ({ dst := some 13, op := Op.load 3 (Operand.tmp 2), type := 3, pos := "cut.go:21", after := #[], guard := none } : Oper)) (v := ?_) rfl (by kernel_rfl) (by kernel_rfl) (by kernel_rfl) (fun _ _ _ h => h) (Or.inl ⟨by rfl, ?_⟩) hS ?_
  rotate_left
  · (intro w hSw; (try dsimp only at hSw); go_simp; try with_reducible rfl)
  (try simp only [Act.put, List.setIfInBounds_toArray, List.set_cons_zero, List.set_cons_succ])
  refine rg_one 2 ({ dst := some 10, op := Op.call { callee := Callee.value (Operand.func 17), args := #[Operand.tmp 9], argTypes := #[3] }, type := 3, pos := "cut.go:21", after := #[{ on := 1, ground := Ground.data }], guard := none } : Oper) (by kernel_rfl) rfl (fun K hK => ?_)
  go_simp
  (go_at_call 17; (with_reducible refine (H2.out _).mono ?_); rintro e w3 ⟨rfl, hb⟩; have HG3 := Lib.hid ((HG2.out.keep ((Below.refl _ _).drew)).keep hb); have hN := (let c := HG3.out.cells; (⟨c.1, c.2.1, c.2.2.1⟩ : w3.cell? ⟨g0, 0, none⟩ = some (.int .i64 (b : Int)) ∧ w3.cell? ⟨g1, 0, none⟩ = some (.int .i64 (f : Int)) ∧ w3.cell? ⟨g2, 0, none⟩ = some (.int .i64 (n : Int)))); clear hb)
  refine hK.out _ _ ?_ (fun hS1 => ?_)
  · (exact hN)
  clear hK K hS; have hS := hS1; clear hS1
  (try simp only [Act.put, List.setIfInBounds_toArray, List.set_cons_zero, List.set_cons_succ])
  refine wpAnyH_take (i := 3) (oi := ({ dst := some 11, op := Op.binOp BinOp.add 3 (Operand.tmp 8) (Operand.tmp 10) 3, type := 3, pos := "cut.go:21", after := #[{ on := 0, ground := Ground.data }, { on := 2, ground := Ground.data }], guard := none } : Oper)) (v := .int .i64 ((f : Int) + lf)) rfl (by kernel_rfl) (by kernel_rfl) (by kernel_rfl) (fun _ _ _ h => h) (Or.inl ⟨by rfl, ?_⟩) hS ?_
  · (intro w hSw; (try dsimp only at hSw); have z := HW1.out; go_simp; (try exact z))
  (try simp only [Act.put, List.setIfInBounds_toArray, List.set_cons_zero, List.set_cons_succ])
  refine wpAnyH_take (i := 4) (oi := ({ dst := some 12, op := Op.binOp BinOp.sub 3 (Operand.tmp 11) (Operand.const (Value.int IntKind.i64 11)) 3, type := 3, pos := "cut.go:21", after := #[{ on := 3, ground := Ground.data }], guard := none } : Oper)) (v := .int .i64 ((f : Int) + lf - 11)) rfl (by kernel_rfl) (by kernel_rfl) (by kernel_rfl) (fun _ _ _ h => h) (Or.inl ⟨by rfl, ?_⟩) hS ?_
  · (intro w hSw; (try dsimp only at hSw); have z := HW2.out; go_simp; (try exact z))
  (try simp only [Act.put, List.setIfInBounds_toArray, List.set_cons_zero, List.set_cons_succ])
  refine wpAnyH_take (i := 6) (oi := ({ dst := some 14, op := Op.call { callee := Callee.builtin Builtin.min, args := #[Operand.tmp 12, Operand.tmp 13], argTypes := #[3, 3] }, type := 3, pos := "cut.go:21", after := #[{ on := 4, ground := Ground.data }, { on := 5, ground := Ground.data }], guard := none } : Oper)) (v := .int .i64 (f1 : Int)) rfl (by kernel_rfl) (by kernel_rfl) (by kernel_rfl) (fun _ _ _ h => h) (Or.inl ⟨by rfl, ?_⟩) hS ?_
  · (intro w hSw; (try dsimp only at hSw); have z := HMIN.out; go_simp; (try exact z))
  (try simp only [Act.put, List.setIfInBounds_toArray, List.set_cons_zero, List.set_cons_succ])
  refine wpAnyH_take (i := 7) (oi := ({ dst := some 5, op := Op.assign (Operand.tmp 14), type := 3, pos := "cut.go:21", after := #[{ on := 6, ground := Ground.data }, { on := 2, ground := Ground.chain }, { on := 0, ground := Ground.phase }, { on := 1, ground := Ground.phase }, { on := 2, ground := Ground.phase }, { on := 3, ground := Ground.phase }, { on := 4, ground := Ground.phase }, { on := 5, ground := Ground.phase }, { on := 6, ground := Ground.phase }], guard := none } : Oper)) (v := ?_) rfl (by kernel_rfl) (by kernel_rfl) (by kernel_rfl) (fun _ _ _ h => h) (Or.inl ⟨by rfl, ?_⟩) hS ?_
  rotate_left
  · (intro w hSw; (try dsimp only at hSw); go_simp; try with_reducible rfl)
  (try simp only [Act.put, List.setIfInBounds_toArray, List.set_cons_zero, List.set_cons_succ])
  refine wpAnyH_done (by kernel_rfl) ?_ _
  clear hS hN HG2 H2
  have HG4 := Lib.hid (HG3.out.keep ((Below.refl _ _).drew))
  have e3 := HG3.out.cells.2.2.2
  have d3 := HG4.out.cells.2.2.2
  obtain ⟨kd, hkd⟩ : ∃ kd, kindN (decide (i = 0)) (decide (f1 = n)) = kd := ⟨_, rfl⟩
  have HK : Hid (∀ w, Calls Try.prog 18 #[.bool (decide (i = 0)), .bool (decide (f1 = n))] w fun e w' => e = .returned (.int .i64 kd) ∧ w' = w) := fun w => by rw [← hkd]; exact kind_any _ _ w
  rw [hkd] at HPC
  clear hkd
  go_wp2_with fail
  refine wp_region_held_drew (S := (fun w' => w'.cell? ⟨g0, 0, none⟩ = some (.int .i64 (b : Int)) ∧ w'.cell? ⟨g1, 0, none⟩ = some (.int .i64 (f : Int)) ∧ w'.cell? ⟨g2, 0, none⟩ = some (.int .i64 (n : Int)))) (by kernel_rfl) (let c := HG4.out.cells; ⟨c.1, c.2.1, c.2.2.1⟩) (fun hS => ?_)
  refine wpAnyH_take (i := 1) (oi := ({ dst := some 16, op := Op.load 3 (Operand.tmp 0), type := 3, pos := "cut.go:22", after := #[], guard := none } : Oper)) (v := ?_) rfl (by kernel_rfl) (by kernel_rfl) (by kernel_rfl) (fun _ _ _ h => h) (Or.inl ⟨by rfl, ?_⟩) hS ?_
  rotate_left
  · (intro w hSw; (try dsimp only at hSw); go_simp; try with_reducible rfl)
  (try simp only [Act.put, List.setIfInBounds_toArray, List.set_cons_zero, List.set_cons_succ])
  refine wpAnyH_take (i := 5) (oi := ({ dst := some 20, op := Op.move (Operand.tmp 5), type := 3, pos := "cut.go:22", after := #[], guard := none } : Oper)) (v := ?_) rfl (by kernel_rfl) (by kernel_rfl) (by kernel_rfl) (fun _ _ _ h => h) (Or.inl ⟨by rfl, ?_⟩) hS ?_
  rotate_left
  · (intro w hSw; (try dsimp only at hSw); go_simp; try with_reducible rfl)
  (try simp only [Act.put, List.setIfInBounds_toArray, List.set_cons_zero, List.set_cons_succ])
  refine wpAnyH_take (i := 6) (oi := ({ dst := some 21, op := Op.load 3 (Operand.tmp 2), type := 3, pos := "cut.go:22", after := #[], guard := none } : Oper)) (v := ?_) rfl (by kernel_rfl) (by kernel_rfl) (by kernel_rfl) (fun _ _ _ h => h) (Or.inl ⟨by rfl, ?_⟩) hS ?_
  rotate_left
  · (intro w hSw; (try dsimp only at hSw); go_simp; try with_reducible rfl)
  (try simp only [Act.put, List.setIfInBounds_toArray, List.set_cons_zero, List.set_cons_succ])
  refine wpAnyH_take (i := 7) (oi := ({ dst := some 22, op := Op.binOp BinOp.eql 3 (Operand.tmp 20) (Operand.tmp 21) 3, type := 4, pos := "cut.go:22", after := #[{ on := 5, ground := Ground.data }, { on := 6, ground := Ground.data }], guard := none } : Oper)) (v := .bool (decide (f1 = n))) rfl (by kernel_rfl) (by kernel_rfl) (by kernel_rfl) (fun _ _ _ h => h) (Or.inl ⟨by rfl, ?_⟩) hS ?_
  · (intro w hSw; (try dsimp only at hSw); have z := dec_cast2 f1 n; go_simp; (try exact z))
  (try simp only [Act.put, List.setIfInBounds_toArray, List.set_cons_zero, List.set_cons_succ])
  refine wpAnyH_take (i := 9) (oi := ({ dst := some 24, op := Op.load 3 (Operand.tmp 1), type := 3, pos := "cut.go:22", after := #[], guard := none } : Oper)) (v := ?_) rfl (by kernel_rfl) (by kernel_rfl) (by kernel_rfl) (fun _ _ _ h => h) (Or.inl ⟨by rfl, ?_⟩) hS ?_
  rotate_left
  · (intro w hSw; (try dsimp only at hSw); go_simp; try with_reducible rfl)
  (try simp only [Act.put, List.setIfInBounds_toArray, List.set_cons_zero, List.set_cons_succ])
  refine wpAnyH_take (i := 10) (oi := ({ dst := some 25, op := Op.move (Operand.tmp 5), type := 3, pos := "cut.go:22", after := #[], guard := none } : Oper)) (v := ?_) rfl (by kernel_rfl) (by kernel_rfl) (by kernel_rfl) (fun _ _ _ h => h) (Or.inl ⟨by rfl, ?_⟩) hS ?_
  rotate_left
  · (intro w hSw; (try dsimp only at hSw); go_simp; try with_reducible rfl)
  (try simp only [Act.put, List.setIfInBounds_toArray, List.set_cons_zero, List.set_cons_succ])
  refine rg_both 0 2 ({ dst := some 15, op := Op.load 22 (Operand.tmp 3), type := 22, pos := "cut.go:22", after := #[], guard := none } : Oper) ({ dst := some 17, op := Op.load 22 (Operand.tmp 3), type := 22, pos := "cut.go:22", after := #[], guard := none } : Oper) (by kernel_rfl) rfl rfl (fun K hK => ?_) (fun K hK => ?_)
  · skip
    go_simp
    refine hK.out _ _ ?_ (fun hS1 => ?_)
    · (first | exact hN | exact hS)
    clear hK K hS; have hS := hS1; clear hS1
    (try simp only [Act.put, List.setIfInBounds_toArray, List.set_cons_zero, List.set_cons_succ])
    refine rg_one 2 ({ dst := some 17, op := Op.load 22 (Operand.tmp 3), type := 22, pos := "cut.go:22", after := #[], guard := none } : Oper) (by kernel_rfl) rfl (fun K hK => ?_)
    go_simp
    refine hK.out _ _ ?_ (fun hS1 => ?_)
    · (first | exact hN | exact hS)
    clear hK K hS; have hS := hS1; clear hS1
    (try simp only [Act.put, List.setIfInBounds_toArray, List.set_cons_zero, List.set_cons_succ])
    refine wpAnyH_take (i := 3) (oi := ({ dst := some 18, op := Op.call { callee := Callee.builtin Builtin.len, args := #[Operand.tmp 17], argTypes := #[22] }, type := 3, pos := "cut.go:22", after := #[{ on := 2, ground := Ground.data }], guard := none } : Oper)) (v := ?_) rfl (by kernel_rfl) (by kernel_rfl) (by kernel_rfl) (fun _ _ _ h => h) (Or.inl ⟨by rfl, ?_⟩) hS ?_
    rotate_left
    · (intro w hSw; (try dsimp only at hSw); go_simp; try with_reducible rfl)
    (try simp only [Act.put, List.setIfInBounds_toArray, List.set_cons_zero, List.set_cons_succ])
    refine wpAnyH_take (i := 4) (oi := ({ dst := some 19, op := Op.binOp BinOp.eql 3 (Operand.tmp 18) (Operand.const (Value.int IntKind.i64 0)) 3, type := 4, pos := "cut.go:22", after := #[{ on := 3, ground := Ground.data }], guard := none } : Oper)) (v := .bool (decide (i = 0))) rfl (by kernel_rfl) (by kernel_rfl) (by kernel_rfl) (fun _ _ _ h => h) (Or.inl ⟨by rfl, ?_⟩) hS ?_
    · (intro w hSw; (try dsimp only at hSw); have z := dec_cast i; go_simp; (try exact z))
    (try simp only [Act.put, List.setIfInBounds_toArray, List.set_cons_zero, List.set_cons_succ])
    refine rg_one 8 ({ dst := some 23, op := Op.call { callee := Callee.value (Operand.func 18), args := #[Operand.tmp 19, Operand.tmp 22], argTypes := #[4, 4] }, type := 3, pos := "cut.go:22", after := #[{ on := 4, ground := Ground.data }, { on := 7, ground := Ground.data }], guard := none } : Oper) (by kernel_rfl) rfl (fun K hK => ?_)
    go_simp
    (go_at_call 18; (with_reducible refine (HK.out _).mono ?_); rintro e w' ⟨rfl, rfl⟩)
    refine hK.out _ _ ?_ (fun hS1 => ?_)
    · (first | exact hN | exact hS)
    clear hK K hS; have hS := hS1; clear hS1
    (try simp only [Act.put, List.setIfInBounds_toArray, List.set_cons_zero, List.set_cons_succ])
    refine wpAnyH_take (i := 11) (oi := ({ dst := some 26, op := Op.build 28 #[(0, Operand.tmp 16), (1, Operand.tmp 23), (2, Operand.tmp 24), (3, Operand.tmp 25)], type := 28, pos := "cut.go:22", after := #[{ on := 1, ground := Ground.data }, { on := 8, ground := Ground.data }, { on := 9, ground := Ground.data }, { on := 10, ground := Ground.data }], guard := none } : Oper)) (v := .agg #[.int .i64 (b : Int), .int .i64 kd, .int .i64 (f : Int), .int .i64 (f1 : Int)]) rfl (by kernel_rfl) (by kernel_rfl) (by kernel_rfl) (fun _ _ _ h => h) (Or.inl ⟨by rfl, ?_⟩) hS ?_
    · (intro w hSw; (try dsimp only at hSw); go_simp)
    (try simp only [Act.put, List.setIfInBounds_toArray, List.set_cons_zero, List.set_cons_succ])
    refine rg_one 12 ({ dst := some 27, op := Op.buildSlice 22 1 #[(0, Operand.tmp 26)], type := 22, pos := "cut.go:22", after := #[{ on := 11, ground := Ground.data }], guard := none } : Oper) (by kernel_rfl) rfl (fun K hK => ?_)
    go_simp
    (obtain ⟨w5, hw5⟩ : ∃ q, (w3.alloc (.cells #[.int .i64 (b : Int), .int .i64 kd, .int .i64 (f : Int), .int .i64 (f1 : Int)] 28)).drew = q := ⟨_, rfl⟩; rw [hw5]; have HG5 : Hid (GS B W w5 g0 g1 g2 g3 b f n (.slice va i vc) i l0) := Lib.hid (by rw [← hw5]; exact HG3.out.keep (bdrew0 w3 _)); have HL5 : Hid (w5.heap[w3.heap.size]? = some (.cells (pL c).toArray 28 (0, 0))) := Lib.hid (by rw [← hw5, HPC.out]; exact heap_alloc_last w3 _); have d5 := HG5.out.cells.2.2.2; have hN := (let c := HG5.out.cells; (⟨c.1, c.2.1, c.2.2.1⟩ : (w5.cell? ⟨g0, 0, none⟩ = some (.int .i64 (b : Int)) ∧ w5.cell? ⟨g1, 0, none⟩ = some (.int .i64 (f : Int)) ∧ w5.cell? ⟨g2, 0, none⟩ = some (.int .i64 (n : Int))))); clear hw5)
    refine hK.out _ _ ?_ (fun hS1 => ?_)
    · (first | exact hN | exact hS)
    clear hK K hS; have hS := hS1; clear hS1
    (try simp only [Act.put, List.setIfInBounds_toArray, List.set_cons_zero, List.set_cons_succ])
    refine rg_one 13 ({ dst := some 28, op := Op.call { callee := Callee.builtin Builtin.append, args := #[Operand.tmp 15, Operand.tmp 27], argTypes := #[22, 22] }, type := 22, pos := "cut.go:22", after := #[{ on := 0, ground := Ground.data }, { on := 12, ground := Ground.data }, { on := 8, ground := Ground.chain }], guard := none } : Oper) (by kernel_rfl) rfl (fun K hK => ?_)
    (rw [if_pos (by rfl)]; refine wp_app_pc (.tmp 15) (.tmp 27) rfl B (.slice va i vc) i l0 rfl HG5.out.own w3.heap.size c rfl HL5.out (by omega) (Nat.le_trans HG5.out.base HG5.out.below.size) ?_; intro v6 w6 HO6 HQ6; rw [HFN.out] at HO6; obtain ⟨a6, c6, rfl⟩ := own_form HO6.out; obtain ⟨q0, q1, q2, q3, q4⟩ := HG5.out.mid HQ6.out; clear hN; have hN := (⟨q0, q1, q2⟩ : (w6.cell? ⟨g0, 0, none⟩ = some (.int .i64 (b : Int)) ∧ w6.cell? ⟨g1, 0, none⟩ = some (.int .i64 (f : Int)) ∧ w6.cell? ⟨g2, 0, none⟩ = some (.int .i64 (n : Int)))))
    refine hK.out _ _ ?_ (fun hS1 => ?_)
    · (first | exact hN | exact hS)
    clear hK K hS; have hS := hS1; clear hS1
    (try simp only [Act.put, List.setIfInBounds_toArray, List.set_cons_zero, List.set_cons_succ])
    refine rg_one 14 ({ dst := none, op := Op.store 22 (Operand.tmp 3) (Operand.tmp 28), type := 0, pos := "cut.go:22", after := #[{ on := 13, ground := Ground.data }, { on := 13, ground := Ground.chain }, { on := 0, ground := Ground.phase }, { on := 1, ground := Ground.phase }, { on := 2, ground := Ground.phase }, { on := 3, ground := Ground.phase }, { on := 4, ground := Ground.phase }, { on := 5, ground := Ground.phase }, { on := 6, ground := Ground.phase }, { on := 7, ground := Ground.phase }, { on := 8, ground := Ground.phase }, { on := 9, ground := Ground.phase }, { on := 10, ground := Ground.phase }, { on := 11, ground := Ground.phase }, { on := 12, ground := Ground.phase }, { on := 13, ground := Ground.phase }], guard := none } : Oper) (by kernel_rfl) rfl (fun K hK => ?_)
    go_simp
    (obtain ⟨w7, hw7⟩ : ∃ q, w6.setCell ⟨g3, 0, none⟩ (.slice a6 (i + 1) c6) = q := ⟨_, rfl⟩; rw [hw7]; have HG7 : Hid (GS B W w7 g0 g1 g2 g3 b f n (.slice a6 (i + 1) c6) (i + 1) l1) := Lib.hid (by rw [← hw7]; exact HG5.out.turn HO6.out HQ6.out); clear hN; have hN := (let c := HG7.out.cells; (⟨c.1, c.2.1, c.2.2.1⟩ : (w7.cell? ⟨g0, 0, none⟩ = some (.int .i64 (b : Int)) ∧ w7.cell? ⟨g1, 0, none⟩ = some (.int .i64 (f : Int)) ∧ w7.cell? ⟨g2, 0, none⟩ = some (.int .i64 (n : Int))))); clear hw7 q0 q1 q2 q3 q4 d5)
    refine hK.out _ _ ?_ (fun hS1 => ?_)
    · (first | exact hN | exact hS)
    clear hK K hS; have hS := hS1; clear hS1
    (try simp only [Act.put])
    refine wpAnyH_done (by kernel_rfl) ?_ _
    clear hS hN HG3 HG4 e3 d3 HK HL5
    obtain ⟨r0, r1, r2, r3⟩ := HG7.out.cells
    obtain ⟨t0, t1, t3⟩ := HG7.out.frozen
    have ne01 : ¬ g0 = g1 := HG7.out.ne.1
    have ne10 : ¬ g1 = g0 := fun e => ne01 e.symm
    have ne02 : ¬ g0 = g2 := HG7.out.ne.2.1
    have ne12 : ¬ g1 = g2 := HG7.out.ne.2.2.2.1
    go_wp2
    go_ret
    rw [HP1.out]
    exact ⟨rfl, _, (HG7.out.set0 p1).set1 f1⟩
  · skip
    go_simp
    refine hK.out _ _ ?_ (fun hS1 => ?_)
    · (first | exact hN | exact hS)
    clear hK K hS; have hS := hS1; clear hS1
    (try simp only [Act.put, List.setIfInBounds_toArray, List.set_cons_zero, List.set_cons_succ])
    refine wpAnyH_take (i := 3) (oi := ({ dst := some 18, op := Op.call { callee := Callee.builtin Builtin.len, args := #[Operand.tmp 17], argTypes := #[22] }, type := 3, pos := "cut.go:22", after := #[{ on := 2, ground := Ground.data }], guard := none } : Oper)) (v := ?_) rfl (by kernel_rfl) (by kernel_rfl) (by kernel_rfl) (fun _ _ _ h => h) (Or.inl ⟨by rfl, ?_⟩) hS ?_
    rotate_left
    · (intro w hSw; (try dsimp only at hSw); go_simp; try with_reducible rfl)
    (try simp only [Act.put, List.setIfInBounds_toArray, List.set_cons_zero, List.set_cons_succ])
    refine wpAnyH_take (i := 4) (oi := ({ dst := some 19, op := Op.binOp BinOp.eql 3 (Operand.tmp 18) (Operand.const (Value.int IntKind.i64 0)) 3, type := 4, pos := "cut.go:22", after := #[{ on := 3, ground := Ground.data }], guard := none } : Oper)) (v := .bool (decide (i = 0))) rfl (by kernel_rfl) (by kernel_rfl) (by kernel_rfl) (fun _ _ _ h => h) (Or.inl ⟨by rfl, ?_⟩) hS ?_
    · (intro w hSw; (try dsimp only at hSw); have z := dec_cast i; go_simp; (try exact z))
    (try simp only [Act.put, List.setIfInBounds_toArray, List.set_cons_zero, List.set_cons_succ])
    refine rg_both 0 8 ({ dst := some 15, op := Op.load 22 (Operand.tmp 3), type := 22, pos := "cut.go:22", after := #[], guard := none } : Oper) ({ dst := some 23, op := Op.call { callee := Callee.value (Operand.func 18), args := #[Operand.tmp 19, Operand.tmp 22], argTypes := #[4, 4] }, type := 3, pos := "cut.go:22", after := #[{ on := 4, ground := Ground.data }, { on := 7, ground := Ground.data }], guard := none } : Oper) (by kernel_rfl) rfl rfl (fun K hK => ?_) (fun K hK => ?_)
    · skip
      go_simp
      refine hK.out _ _ ?_ (fun hS1 => ?_)
      · (first | exact hN | exact hS)
      clear hK K hS; have hS := hS1; clear hS1
      (try simp only [Act.put, List.setIfInBounds_toArray, List.set_cons_zero, List.set_cons_succ])
      refine rg_one 8 ({ dst := some 23, op := Op.call { callee := Callee.value (Operand.func 18), args := #[Operand.tmp 19, Operand.tmp 22], argTypes := #[4, 4] }, type := 3, pos := "cut.go:22", after := #[{ on := 4, ground := Ground.data }, { on := 7, ground := Ground.data }], guard := none } : Oper) (by kernel_rfl) rfl (fun K hK => ?_)
      go_simp
      (go_at_call 18; (with_reducible refine (HK.out _).mono ?_); rintro e w' ⟨rfl, rfl⟩)
      refine hK.out _ _ ?_ (fun hS1 => ?_)
      · (first | exact hN | exact hS)
      clear hK K hS; have hS := hS1; clear hS1
      (try simp only [Act.put, List.setIfInBounds_toArray, List.set_cons_zero, List.set_cons_succ])
      refine wpAnyH_take (i := 11) (oi := ({ dst := some 26, op := Op.build 28 #[(0, Operand.tmp 16), (1, Operand.tmp 23), (2, Operand.tmp 24), (3, Operand.tmp 25)], type := 28, pos := "cut.go:22", after := #[{ on := 1, ground := Ground.data }, { on := 8, ground := Ground.data }, { on := 9, ground := Ground.data }, { on := 10, ground := Ground.data }], guard := none } : Oper)) (v := .agg #[.int .i64 (b : Int), .int .i64 kd, .int .i64 (f : Int), .int .i64 (f1 : Int)]) rfl (by kernel_rfl) (by kernel_rfl) (by kernel_rfl) (fun _ _ _ h => h) (Or.inl ⟨by rfl, ?_⟩) hS ?_
      · (intro w hSw; (try dsimp only at hSw); go_simp)
      (try simp only [Act.put, List.setIfInBounds_toArray, List.set_cons_zero, List.set_cons_succ])
      refine rg_one 12 ({ dst := some 27, op := Op.buildSlice 22 1 #[(0, Operand.tmp 26)], type := 22, pos := "cut.go:22", after := #[{ on := 11, ground := Ground.data }], guard := none } : Oper) (by kernel_rfl) rfl (fun K hK => ?_)
      go_simp
      (obtain ⟨w5, hw5⟩ : ∃ q, (w3.alloc (.cells #[.int .i64 (b : Int), .int .i64 kd, .int .i64 (f : Int), .int .i64 (f1 : Int)] 28)).drew = q := ⟨_, rfl⟩; rw [hw5]; have HG5 : Hid (GS B W w5 g0 g1 g2 g3 b f n (.slice va i vc) i l0) := Lib.hid (by rw [← hw5]; exact HG3.out.keep (bdrew0 w3 _)); have HL5 : Hid (w5.heap[w3.heap.size]? = some (.cells (pL c).toArray 28 (0, 0))) := Lib.hid (by rw [← hw5, HPC.out]; exact heap_alloc_last w3 _); have d5 := HG5.out.cells.2.2.2; have hN := (let c := HG5.out.cells; (⟨c.1, c.2.1, c.2.2.1⟩ : (w5.cell? ⟨g0, 0, none⟩ = some (.int .i64 (b : Int)) ∧ w5.cell? ⟨g1, 0, none⟩ = some (.int .i64 (f : Int)) ∧ w5.cell? ⟨g2, 0, none⟩ = some (.int .i64 (n : Int))))); clear hw5)
      refine hK.out _ _ ?_ (fun hS1 => ?_)
      · (first | exact hN | exact hS)
      clear hK K hS; have hS := hS1; clear hS1
      (try simp only [Act.put, List.setIfInBounds_toArray, List.set_cons_zero, List.set_cons_succ])
      refine rg_one 13 ({ dst := some 28, op := Op.call { callee := Callee.builtin Builtin.append, args := #[Operand.tmp 15, Operand.tmp 27], argTypes := #[22, 22] }, type := 22, pos := "cut.go:22", after := #[{ on := 0, ground := Ground.data }, { on := 12, ground := Ground.data }, { on := 8, ground := Ground.chain }], guard := none } : Oper) (by kernel_rfl) rfl (fun K hK => ?_)
      (rw [if_pos (by rfl)]; refine wp_app_pc (.tmp 15) (.tmp 27) rfl B (.slice va i vc) i l0 rfl HG5.out.own w3.heap.size c rfl HL5.out (by omega) (Nat.le_trans HG5.out.base HG5.out.below.size) ?_; intro v6 w6 HO6 HQ6; rw [HFN.out] at HO6; obtain ⟨a6, c6, rfl⟩ := own_form HO6.out; obtain ⟨q0, q1, q2, q3, q4⟩ := HG5.out.mid HQ6.out; clear hN; have hN := (⟨q0, q1, q2⟩ : (w6.cell? ⟨g0, 0, none⟩ = some (.int .i64 (b : Int)) ∧ w6.cell? ⟨g1, 0, none⟩ = some (.int .i64 (f : Int)) ∧ w6.cell? ⟨g2, 0, none⟩ = some (.int .i64 (n : Int)))))
      refine hK.out _ _ ?_ (fun hS1 => ?_)
      · (first | exact hN | exact hS)
      clear hK K hS; have hS := hS1; clear hS1
      (try simp only [Act.put, List.setIfInBounds_toArray, List.set_cons_zero, List.set_cons_succ])
      refine rg_one 14 ({ dst := none, op := Op.store 22 (Operand.tmp 3) (Operand.tmp 28), type := 0, pos := "cut.go:22", after := #[{ on := 13, ground := Ground.data }, { on := 13, ground := Ground.chain }, { on := 0, ground := Ground.phase }, { on := 1, ground := Ground.phase }, { on := 2, ground := Ground.phase }, { on := 3, ground := Ground.phase }, { on := 4, ground := Ground.phase }, { on := 5, ground := Ground.phase }, { on := 6, ground := Ground.phase }, { on := 7, ground := Ground.phase }, { on := 8, ground := Ground.phase }, { on := 9, ground := Ground.phase }, { on := 10, ground := Ground.phase }, { on := 11, ground := Ground.phase }, { on := 12, ground := Ground.phase }, { on := 13, ground := Ground.phase }], guard := none } : Oper) (by kernel_rfl) rfl (fun K hK => ?_)
      go_simp
      (obtain ⟨w7, hw7⟩ : ∃ q, w6.setCell ⟨g3, 0, none⟩ (.slice a6 (i + 1) c6) = q := ⟨_, rfl⟩; rw [hw7]; have HG7 : Hid (GS B W w7 g0 g1 g2 g3 b f n (.slice a6 (i + 1) c6) (i + 1) l1) := Lib.hid (by rw [← hw7]; exact HG5.out.turn HO6.out HQ6.out); clear hN; have hN := (let c := HG7.out.cells; (⟨c.1, c.2.1, c.2.2.1⟩ : (w7.cell? ⟨g0, 0, none⟩ = some (.int .i64 (b : Int)) ∧ w7.cell? ⟨g1, 0, none⟩ = some (.int .i64 (f : Int)) ∧ w7.cell? ⟨g2, 0, none⟩ = some (.int .i64 (n : Int))))); clear hw7 q0 q1 q2 q3 q4 d5)
      refine hK.out _ _ ?_ (fun hS1 => ?_)
      · (first | exact hN | exact hS)
      clear hK K hS; have hS := hS1; clear hS1
      (try simp only [Act.put])
      refine wpAnyH_done (by kernel_rfl) ?_ _
      clear hS hN HG3 HG4 e3 d3 HK HL5
      obtain ⟨r0, r1, r2, r3⟩ := HG7.out.cells
      obtain ⟨t0, t1, t3⟩ := HG7.out.frozen
      have ne01 : ¬ g0 = g1 := HG7.out.ne.1
      have ne10 : ¬ g1 = g0 := fun e => ne01 e.symm
      have ne02 : ¬ g0 = g2 := HG7.out.ne.2.1
      have ne12 : ¬ g1 = g2 := HG7.out.ne.2.2.2.1
      go_wp2
      go_ret
      rw [HP1.out]
      exact ⟨rfl, _, (HG7.out.set0 p1).set1 f1⟩
    · skip
      go_simp
      (go_at_call 18; (with_reducible refine (HK.out _).mono ?_); rintro e w' ⟨rfl, rfl⟩)
      refine hK.out _ _ ?_ (fun hS1 => ?_)
      · (first | exact hN | exact hS)
      clear hK K hS; have hS := hS1; clear hS1
      (try simp only [Act.put, List.setIfInBounds_toArray, List.set_cons_zero, List.set_cons_succ])
      refine wpAnyH_take (i := 11) (oi := ({ dst := some 26, op := Op.build 28 #[(0, Operand.tmp 16), (1, Operand.tmp 23), (2, Operand.tmp 24), (3, Operand.tmp 25)], type := 28, pos := "cut.go:22", after := #[{ on := 1, ground := Ground.data }, { on := 8, ground := Ground.data }, { on := 9, ground := Ground.data }, { on := 10, ground := Ground.data }], guard := none } : Oper)) (v := .agg #[.int .i64 (b : Int), .int .i64 kd, .int .i64 (f : Int), .int .i64 (f1 : Int)]) rfl (by kernel_rfl) (by kernel_rfl) (by kernel_rfl) (fun _ _ _ h => h) (Or.inl ⟨by rfl, ?_⟩) hS ?_
      · (intro w hSw; (try dsimp only at hSw); go_simp)
      (try simp only [Act.put, List.setIfInBounds_toArray, List.set_cons_zero, List.set_cons_succ])
      refine rg_both 0 12 ({ dst := some 15, op := Op.load 22 (Operand.tmp 3), type := 22, pos := "cut.go:22", after := #[], guard := none } : Oper) ({ dst := some 27, op := Op.buildSlice 22 1 #[(0, Operand.tmp 26)], type := 22, pos := "cut.go:22", after := #[{ on := 11, ground := Ground.data }], guard := none } : Oper) (by kernel_rfl) rfl rfl (fun K hK => ?_) (fun K hK => ?_)
      · skip
        go_simp
        refine hK.out _ _ ?_ (fun hS1 => ?_)
        · (first | exact hN | exact hS)
        clear hK K hS; have hS := hS1; clear hS1
        (try simp only [Act.put, List.setIfInBounds_toArray, List.set_cons_zero, List.set_cons_succ])
        refine rg_one 12 ({ dst := some 27, op := Op.buildSlice 22 1 #[(0, Operand.tmp 26)], type := 22, pos := "cut.go:22", after := #[{ on := 11, ground := Ground.data }], guard := none } : Oper) (by kernel_rfl) rfl (fun K hK => ?_)
        go_simp
        (obtain ⟨w5, hw5⟩ : ∃ q, (w3.alloc (.cells #[.int .i64 (b : Int), .int .i64 kd, .int .i64 (f : Int), .int .i64 (f1 : Int)] 28)).drew = q := ⟨_, rfl⟩; rw [hw5]; have HG5 : Hid (GS B W w5 g0 g1 g2 g3 b f n (.slice va i vc) i l0) := Lib.hid (by rw [← hw5]; exact HG3.out.keep (bdrew0 w3 _)); have HL5 : Hid (w5.heap[w3.heap.size]? = some (.cells (pL c).toArray 28 (0, 0))) := Lib.hid (by rw [← hw5, HPC.out]; exact heap_alloc_last w3 _); have d5 := HG5.out.cells.2.2.2; have hN := (let c := HG5.out.cells; (⟨c.1, c.2.1, c.2.2.1⟩ : (w5.cell? ⟨g0, 0, none⟩ = some (.int .i64 (b : Int)) ∧ w5.cell? ⟨g1, 0, none⟩ = some (.int .i64 (f : Int)) ∧ w5.cell? ⟨g2, 0, none⟩ = some (.int .i64 (n : Int))))); clear hw5)
        refine hK.out _ _ ?_ (fun hS1 => ?_)
        · (first | exact hN | exact hS)
        clear hK K hS; have hS := hS1; clear hS1
        (try simp only [Act.put, List.setIfInBounds_toArray, List.set_cons_zero, List.set_cons_succ])
        refine rg_one 13 ({ dst := some 28, op := Op.call { callee := Callee.builtin Builtin.append, args := #[Operand.tmp 15, Operand.tmp 27], argTypes := #[22, 22] }, type := 22, pos := "cut.go:22", after := #[{ on := 0, ground := Ground.data }, { on := 12, ground := Ground.data }, { on := 8, ground := Ground.chain }], guard := none } : Oper) (by kernel_rfl) rfl (fun K hK => ?_)
        (rw [if_pos (by rfl)]; refine wp_app_pc (.tmp 15) (.tmp 27) rfl B (.slice va i vc) i l0 rfl HG5.out.own w3.heap.size c rfl HL5.out (by omega) (Nat.le_trans HG5.out.base HG5.out.below.size) ?_; intro v6 w6 HO6 HQ6; rw [HFN.out] at HO6; obtain ⟨a6, c6, rfl⟩ := own_form HO6.out; obtain ⟨q0, q1, q2, q3, q4⟩ := HG5.out.mid HQ6.out; clear hN; have hN := (⟨q0, q1, q2⟩ : (w6.cell? ⟨g0, 0, none⟩ = some (.int .i64 (b : Int)) ∧ w6.cell? ⟨g1, 0, none⟩ = some (.int .i64 (f : Int)) ∧ w6.cell? ⟨g2, 0, none⟩ = some (.int .i64 (n : Int)))))
        refine hK.out _ _ ?_ (fun hS1 => ?_)
        · (first | exact hN | exact hS)
        clear hK K hS; have hS := hS1; clear hS1
        (try simp only [Act.put, List.setIfInBounds_toArray, List.set_cons_zero, List.set_cons_succ])
        refine rg_one 14 ({ dst := none, op := Op.store 22 (Operand.tmp 3) (Operand.tmp 28), type := 0, pos := "cut.go:22", after := #[{ on := 13, ground := Ground.data }, { on := 13, ground := Ground.chain }, { on := 0, ground := Ground.phase }, { on := 1, ground := Ground.phase }, { on := 2, ground := Ground.phase }, { on := 3, ground := Ground.phase }, { on := 4, ground := Ground.phase }, { on := 5, ground := Ground.phase }, { on := 6, ground := Ground.phase }, { on := 7, ground := Ground.phase }, { on := 8, ground := Ground.phase }, { on := 9, ground := Ground.phase }, { on := 10, ground := Ground.phase }, { on := 11, ground := Ground.phase }, { on := 12, ground := Ground.phase }, { on := 13, ground := Ground.phase }], guard := none } : Oper) (by kernel_rfl) rfl (fun K hK => ?_)
        go_simp
        (obtain ⟨w7, hw7⟩ : ∃ q, w6.setCell ⟨g3, 0, none⟩ (.slice a6 (i + 1) c6) = q := ⟨_, rfl⟩; rw [hw7]; have HG7 : Hid (GS B W w7 g0 g1 g2 g3 b f n (.slice a6 (i + 1) c6) (i + 1) l1) := Lib.hid (by rw [← hw7]; exact HG5.out.turn HO6.out HQ6.out); clear hN; have hN := (let c := HG7.out.cells; (⟨c.1, c.2.1, c.2.2.1⟩ : (w7.cell? ⟨g0, 0, none⟩ = some (.int .i64 (b : Int)) ∧ w7.cell? ⟨g1, 0, none⟩ = some (.int .i64 (f : Int)) ∧ w7.cell? ⟨g2, 0, none⟩ = some (.int .i64 (n : Int))))); clear hw7 q0 q1 q2 q3 q4 d5)
        refine hK.out _ _ ?_ (fun hS1 => ?_)
        · (first | exact hN | exact hS)
        clear hK K hS; have hS := hS1; clear hS1
        (try simp only [Act.put])
        refine wpAnyH_done (by kernel_rfl) ?_ _
        clear hS hN HG3 HG4 e3 d3 HK HL5
        obtain ⟨r0, r1, r2, r3⟩ := HG7.out.cells
        obtain ⟨t0, t1, t3⟩ := HG7.out.frozen
        have ne01 : ¬ g0 = g1 := HG7.out.ne.1
        have ne10 : ¬ g1 = g0 := fun e => ne01 e.symm
        have ne02 : ¬ g0 = g2 := HG7.out.ne.2.1
        have ne12 : ¬ g1 = g2 := HG7.out.ne.2.2.2.1
        go_wp2
        go_ret
        rw [HP1.out]
        exact ⟨rfl, _, (HG7.out.set0 p1).set1 f1⟩
      · skip
        go_simp
        (obtain ⟨w5, hw5⟩ : ∃ q, (w3.alloc (.cells #[.int .i64 (b : Int), .int .i64 kd, .int .i64 (f : Int), .int .i64 (f1 : Int)] 28)).drew = q := ⟨_, rfl⟩; rw [hw5]; have HG5 : Hid (GS B W w5 g0 g1 g2 g3 b f n (.slice va i vc) i l0) := Lib.hid (by rw [← hw5]; exact HG3.out.keep (bdrew0 w3 _)); have HL5 : Hid (w5.heap[w3.heap.size]? = some (.cells (pL c).toArray 28 (0, 0))) := Lib.hid (by rw [← hw5, HPC.out]; exact heap_alloc_last w3 _); have d5 := HG5.out.cells.2.2.2; have hN := (let c := HG5.out.cells; (⟨c.1, c.2.1, c.2.2.1⟩ : (w5.cell? ⟨g0, 0, none⟩ = some (.int .i64 (b : Int)) ∧ w5.cell? ⟨g1, 0, none⟩ = some (.int .i64 (f : Int)) ∧ w5.cell? ⟨g2, 0, none⟩ = some (.int .i64 (n : Int))))); clear hw5)
        refine hK.out _ _ ?_ (fun hS1 => ?_)
        · (first | exact hN | exact hS)
        clear hK K hS; have hS := hS1; clear hS1
        (try simp only [Act.put, List.setIfInBounds_toArray, List.set_cons_zero, List.set_cons_succ])
        refine rg_one 0 ({ dst := some 15, op := Op.load 22 (Operand.tmp 3), type := 22, pos := "cut.go:22", after := #[], guard := none } : Oper) (by kernel_rfl) rfl (fun K hK => ?_)
        go_simp
        refine hK.out _ _ ?_ (fun hS1 => ?_)
        · (first | exact hN | exact hS)
        clear hK K hS; have hS := hS1; clear hS1
        (try simp only [Act.put, List.setIfInBounds_toArray, List.set_cons_zero, List.set_cons_succ])
        refine rg_one 13 ({ dst := some 28, op := Op.call { callee := Callee.builtin Builtin.append, args := #[Operand.tmp 15, Operand.tmp 27], argTypes := #[22, 22] }, type := 22, pos := "cut.go:22", after := #[{ on := 0, ground := Ground.data }, { on := 12, ground := Ground.data }, { on := 8, ground := Ground.chain }], guard := none } : Oper) (by kernel_rfl) rfl (fun K hK => ?_)
        (rw [if_pos (by rfl)]; refine wp_app_pc (.tmp 15) (.tmp 27) rfl B (.slice va i vc) i l0 rfl HG5.out.own w3.heap.size c rfl HL5.out (by omega) (Nat.le_trans HG5.out.base HG5.out.below.size) ?_; intro v6 w6 HO6 HQ6; rw [HFN.out] at HO6; obtain ⟨a6, c6, rfl⟩ := own_form HO6.out; obtain ⟨q0, q1, q2, q3, q4⟩ := HG5.out.mid HQ6.out; clear hN; have hN := (⟨q0, q1, q2⟩ : (w6.cell? ⟨g0, 0, none⟩ = some (.int .i64 (b : Int)) ∧ w6.cell? ⟨g1, 0, none⟩ = some (.int .i64 (f : Int)) ∧ w6.cell? ⟨g2, 0, none⟩ = some (.int .i64 (n : Int)))))
        refine hK.out _ _ ?_ (fun hS1 => ?_)
        · (first | exact hN | exact hS)
        clear hK K hS; have hS := hS1; clear hS1
        (try simp only [Act.put, List.setIfInBounds_toArray, List.set_cons_zero, List.set_cons_succ])
        refine rg_one 14 ({ dst := none, op := Op.store 22 (Operand.tmp 3) (Operand.tmp 28), type := 0, pos := "cut.go:22", after := #[{ on := 13, ground := Ground.data }, { on := 13, ground := Ground.chain }, { on := 0, ground := Ground.phase }, { on := 1, ground := Ground.phase }, { on := 2, ground := Ground.phase }, { on := 3, ground := Ground.phase }, { on := 4, ground := Ground.phase }, { on := 5, ground := Ground.phase }, { on := 6, ground := Ground.phase }, { on := 7, ground := Ground.phase }, { on := 8, ground := Ground.phase }, { on := 9, ground := Ground.phase }, { on := 10, ground := Ground.phase }, { on := 11, ground := Ground.phase }, { on := 12, ground := Ground.phase }, { on := 13, ground := Ground.phase }], guard := none } : Oper) (by kernel_rfl) rfl (fun K hK => ?_)
        go_simp
        (obtain ⟨w7, hw7⟩ : ∃ q, w6.setCell ⟨g3, 0, none⟩ (.slice a6 (i + 1) c6) = q := ⟨_, rfl⟩; rw [hw7]; have HG7 : Hid (GS B W w7 g0 g1 g2 g3 b f n (.slice a6 (i + 1) c6) (i + 1) l1) := Lib.hid (by rw [← hw7]; exact HG5.out.turn HO6.out HQ6.out); clear hN; have hN := (let c := HG7.out.cells; (⟨c.1, c.2.1, c.2.2.1⟩ : (w7.cell? ⟨g0, 0, none⟩ = some (.int .i64 (b : Int)) ∧ w7.cell? ⟨g1, 0, none⟩ = some (.int .i64 (f : Int)) ∧ w7.cell? ⟨g2, 0, none⟩ = some (.int .i64 (n : Int))))); clear hw7 q0 q1 q2 q3 q4 d5)
        refine hK.out _ _ ?_ (fun hS1 => ?_)
        · (first | exact hN | exact hS)
        clear hK K hS; have hS := hS1; clear hS1
        (try simp only [Act.put])
        refine wpAnyH_done (by kernel_rfl) ?_ _
        clear hS hN HG3 HG4 e3 d3 HK HL5
        obtain ⟨r0, r1, r2, r3⟩ := HG7.out.cells
        obtain ⟨t0, t1, t3⟩ := HG7.out.frozen
        have ne01 : ¬ g0 = g1 := HG7.out.ne.1
        have ne10 : ¬ g1 = g0 := fun e => ne01 e.symm
        have ne02 : ¬ g0 = g2 := HG7.out.ne.2.1
        have ne12 : ¬ g1 = g2 := HG7.out.ne.2.2.2.1
        go_wp2
        go_ret
        rw [HP1.out]
        exact ⟨rfl, _, (HG7.out.set0 p1).set1 f1⟩
end Go.Proofs.Ytepmiooemjjhdaa
