/-
  THE WALK OF CutPieces: whatever place and number come in: the call returns true and changes nothing that was there.
-/
import Derived.Test.YtepmiooemjjhdaaCutLaws
namespace Go.Proofs.Ytepmiooemjjhdaa
open Go.RowKit
/-- pieces follow one another: F tells how many bytes stand ahead of each, A where it begins -/
theorem pcs_follow (x n : Int) : ∃ F A : Nat → Nat, F 0 = 0 ∧ (fitI x n = true → ((F (pcsI x n).length : Nat) : Int) = n) ∧
    ∀ i, i < (pcsI x n).length → ∃ kd, (pcsI x n)[i]? = some ⟨A i, kd, F i, F (i + 1)⟩ ∧ F i ≤ F (i + 1) ∧ F (i + 1) ≤ 832 ∧ A i ≤ 832 ∧ 11 + (F (i + 1) - F i) ≤ leftN (A i) ∧ leftN (A i) ≤ 832 := by
  cases hq : fitI x n with
  | false => exact ⟨fun _ => 0, fun _ => 0, rfl, fun h => by simp at h, fun i hi => by rw [(told_no hq).1] at hi; simp at hi⟩
  | true =>
    obtain ⟨k, m, rfl, hk, hm, hc, hf⟩ := told_of hq
    refine ⟨fS (nr x) k, bS (nr x) k, rfl, fun _ => ?_, fun i hi => ?_⟩
    · rw [(told_yes hc hf).2.1, firstP_len, hc.2.1]
    · rw [(told_yes hc hf).2.1, firstP_len] at hi
      rw [(told_yes hc hf).2.1, firstP_get _ _ _ _ hi]
      obtain ⟨hr, hs⟩ := hc.at_ hf hi
      have h1 := hs.f_le
      have h2 := hs.lle
      exact ⟨_, rfl, hs.f_ge, by omega, hr.begin_le, hs.fits, by omega⟩
set_option maxRecDepth 8000 in
set_option maxHeartbeats 4000000 in
theorem pieces_walk (x n : Int) (h : I63 x) (hn : I63 n) (W : World) : Calls Try.prog 3 #[.int .i64 x, .int .i64 n] W fun e w' => e = .returned (.bool true) ∧ Below W.heap.size W w' := by
  have H1 : Hid (∀ w, Calls Try.prog 6 #[.int .i64 x, .int .i64 n] w fun e w' =>
    ∃ v, e = .returned (.tuple #[v, .int .i64 (endI x n : Int), .bool (fitI x n)]) ∧ w'.ownsRow w.heap.size 28 4 v (pcsI x n).length (pF (pcsI x n)) ∧ Below w.heap.size w w') := fun w => cut_any x n h w
  have H2 : Hid (∀ w, Calls Try.prog 7 #[.int .i64 x, .int .i64 n] w fun e w' =>
    ∃ v, e = .returned (.tuple #[v, .int .i64 (endI x n : Int), .bool (fitI x n)]) ∧ w'.ownsRow w.heap.size 28 4 v (pcsI x n).length (pF (pcsI x n)) ∧ Below w.heap.size w w') := fun w => rcut_any x n h hn w
  have H3 : Hid (∀ w, Calls Try.prog 9 #[.int .i64 x, .int .i64 n] w fun e w' => e = .returned (.bool (fitI x n)) ∧ Below w.heap.size w w') := fun w => fits_any x n h w
  have H4 : Hid (∀ (v1 v2 : Value) (w : World), PS w v1 (pcsI x n) → PS w v2 (pcsI x n) → Calls Try.prog 8 #[v1, v2] w fun e w' => e = .returned (.bool true) ∧ Below w.heap.size w w') := fun v1 v2 w h1 h2 => by
    have := rpsame_any v1 v2 _ _ w h1 h2
    rwa [decide_eq_true rfl] at this
  obtain ⟨F, A, hF0, hFm, hF⟩ := pcs_follow x n
  have hpl := pcs_len x n
  generalize pcsI x n = ps at *
  generalize endI x n = en at *
  obtain ⟨m, hm⟩ : ∃ m, ps.length = m := ⟨_, rfl⟩
  rw [hm] at H1 H2 hFm hF hpl
  have HM := Lib.hid hm
  have HF := Lib.hid hF
  have HF0 := Lib.hid hF0
  clear h hm hF hF0
  cases hfit : fitI x n with
  | _ =>
    rw [hfit] at H1 H2 H3
    have HFM := Lib.hid hFm
    rw [hfit] at HFM
    clear hFm hfit
    go_enter Try.func3, Try.ntmps3
    go_wp2_with (first
      | (go_at_call 6; (with_reducible refine (H1.out _).mono ?_); rintro e w1 ⟨v1, rfl, ho, hb⟩; obtain ⟨a1, c1, rfl⟩ := own_form ho; have HO1 := Lib.hid ho; have HB1 := Lib.hid hb; clear ho hb)
      | (go_at_call 7; (with_reducible refine (H2.out _).mono ?_); rintro e w2 ⟨v2, rfl, ho, hb⟩; obtain ⟨a2, c2, rfl⟩ := own_form ho; have HO2 := Lib.hid (own_keep HO1.out hb); have HP2 : Hid (PS w2 (.slice a2 m c2) ps) := Lib.hid (PS.own (by rw [HM.out]; exact ho)); have HB2 := Lib.hid (bch HB1.out hb); clear ho hb)
      | (go_at_call 8; (with_reducible refine (H4.out _ _ _ (PS.own (by rw [HM.out]; exact HO2.out)) HP2.out).mono ?_); rintro e w3 ⟨rfl, hb⟩; have HO3 := Lib.hid (own_keep HO2.out hb); have HB3 := Lib.hid (bch HB2.out hb); clear hb)
      | (go_at_call 9; (with_reducible refine (H3.out _).mono ?_); rintro e w4 ⟨rfl, hb⟩; have HO4 := Lib.hid (own_keep HO3.out hb); have HB4 := Lib.hid (bch HB3.out hb); clear hb))
    go_loopw [11, 12] (fun fv iv wr => ∃ i : Nat, iv = .int .i64 (i : Int) ∧ fv = .int .i64 (F i : Int) ∧ i ≤ m ∧ Hid (wr.ownsRow W.heap.size 28 4 (.slice a1 m c1) m (pF ps)) ∧ Hid (Below W.heap.size W wr)) (fun _ iv _ => m - (intOf iv).toNat)
    case atStart => exact ⟨0, rfl, by rw [HF0.out]; rfl, by omega, HO4, HB4⟩
    case round =>
      obtain ⟨i, rfl, rfl, him, HO, HB⟩ := hrel
      by_cases hlt : (i : Int) < (m : Int)
      · obtain ⟨kd, hci, hf1, hf2, hA, hfl, hll⟩ := HF.out i (by omega)
        have HPS : Hid (PS wr (.slice a1 m c1) ps) := Lib.hid (PS.own (by rw [HM.out]; exact HO.out))
        obtain ⟨b1, o1, rfl, r1⟩ := HPS.out.at_ i _ hci
        obtain ⟨d0, d1, d2, d3⟩ := pc_cells r1
        have HL : Hid (∀ w, Calls Try.prog 10 #[.int .i64 (A i : Int)] w fun e w' => e = .returned (.int .i64 (leftN (A i) : Int)) ∧ w = w') := fun w => by
          have := rleft_any (A i) (by unfold I63; omega) w
          rw [nr_nat _ hA] at this
          exact this.mono fun _ _ ⟨q1, q2⟩ => ⟨q1, q2.symm⟩
        obtain ⟨f, hf⟩ : ∃ f, F i = f := ⟨_, rfl⟩
        obtain ⟨f1, hf'⟩ : ∃ f1, F (i + 1) = f1 := ⟨_, rfl⟩
        obtain ⟨a, ha⟩ : ∃ a, A i = a := ⟨_, rfl⟩
        rw [ha] at HL d0 hfl hll hA
        obtain ⟨lf, hlf⟩ : ∃ lf, leftN a = lf := ⟨_, rfl⟩
        rw [hlf] at HL hfl hll
        rw [hf] at d2 hf1 hfl ⊢
        rw [hf'] at d3 hf1 hf2 hfl
        have HF1 := Lib.hid hf'
        have HZ1 : Hid (decide ((f1 : Int) < f) = false) := Lib.hid (decide_eq_false (by omega))
        have HZ2 : Hid (decide ((lf : Int) < 11 + f1 - f) = false) := Lib.hid (decide_eq_false (by omega))
        have HW1 : Hid (IntKind.i64.wrap (11 + (f1 : Int)) = 11 + (f1 : Int)) := Lib.hid (IntWalk.i64_in _ (by omega))
        have HW2 : Hid (IntKind.i64.wrap (11 + (f1 : Int) - f) = 11 + (f1 : Int) - f) := Lib.hid (IntWalk.i64_in _ (by omega))
        clear hci r1 HPS hf hf' ha hlf
        go_wp2_with fail
        refine wp_region_held_drew (S := (fun w' => w'.cell? ⟨b1, o1 + i * 4, none⟩ = some (.int .i64 (a : Int)) ∧ w'.cell? ⟨b1, o1 + i * 4 + 2, none⟩ = some (.int .i64 (f : Int)) ∧ w'.cell? ⟨b1, o1 + i * 4 + 3, none⟩ = some (.int .i64 (f1 : Int)))) (by kernel_rfl) ⟨d0, d2, d3⟩ (fun hS => ?_)
        refine wpAnyH_take (i := 0) (oi := ({ dst := some 54, op := Op.move (Operand.tmp 5), type := 22, pos := "law.go:27", after := #[], guard := none } : Oper)) (v := ?_) rfl (by kernel_rfl) (by kernel_rfl) (by kernel_rfl) (fun _ _ _ h => h) (Or.inl ⟨by rfl, ?_⟩) hS ?_
        rotate_left
        · (intro w hSw; (try dsimp only at hSw); go_simp; try with_reducible rfl)
        (try simp only [Act.put, List.setIfInBounds_toArray, List.set_cons_zero, List.set_cons_succ])
        refine wpAnyH_take (i := 1) (oi := ({ dst := some 55, op := Op.move (Operand.tmp 12), type := 3, pos := "law.go:27", after := #[], guard := none } : Oper)) (v := ?_) rfl (by kernel_rfl) (by kernel_rfl) (by kernel_rfl) (fun _ _ _ h => h) (Or.inl ⟨by rfl, ?_⟩) hS ?_
        rotate_left
        · (intro w hSw; (try dsimp only at hSw); go_simp; try with_reducible rfl)
        (try simp only [Act.put, List.setIfInBounds_toArray, List.set_cons_zero, List.set_cons_succ])
        refine wpAnyH_take (i := 2) (oi := ({ dst := some 56, op := Op.indexAddr 22 (Operand.tmp 54) (Operand.tmp 55), type := 0, pos := "law.go:27", after := #[{ on := 0, ground := Ground.data }, { on := 1, ground := Ground.data }], guard := none } : Oper)) (v := ?_) rfl (by kernel_rfl) (by kernel_rfl) (by kernel_rfl) (fun _ _ _ h => h) (Or.inl ⟨by rfl, ?_⟩) hS ?_
        rotate_left
        · (intro w hSw; (try dsimp only at hSw); go_simp; try with_reducible rfl)
        (try simp only [Act.put, List.setIfInBounds_toArray, List.set_cons_zero, List.set_cons_succ])
        refine wpAnyH_take (i := 3) (oi := ({ dst := some 57, op := Op.fieldAddr 28 (Operand.tmp 56) 2, type := 0, pos := "law.go:27", after := #[{ on := 2, ground := Ground.data }], guard := none } : Oper)) (v := ?_) rfl (by kernel_rfl) (by kernel_rfl) (by kernel_rfl) (fun _ _ _ h => h) (Or.inl ⟨by rfl, ?_⟩) hS ?_
        rotate_left
        · (intro w hSw; (try dsimp only at hSw); go_simp; try with_reducible rfl)
        (try simp only [Act.put, List.setIfInBounds_toArray, List.set_cons_zero, List.set_cons_succ])
        refine wpAnyH_take (i := 4) (oi := ({ dst := some 58, op := Op.load 3 (Operand.tmp 57), type := 3, pos := "law.go:27", after := #[{ on := 3, ground := Ground.data }], guard := none } : Oper)) (v := ?_) rfl (by kernel_rfl) (by kernel_rfl) (by kernel_rfl) (fun _ _ _ h => h) (Or.inl ⟨by rfl, ?_⟩) hS ?_
        rotate_left
        · (intro w hSw; (try dsimp only at hSw); go_simp; try with_reducible rfl)
        (try simp only [Act.put, List.setIfInBounds_toArray, List.set_cons_zero, List.set_cons_succ])
        refine wpAnyH_take (i := 5) (oi := ({ dst := some 59, op := Op.move (Operand.tmp 11), type := 3, pos := "law.go:27", after := #[], guard := none } : Oper)) (v := ?_) rfl (by kernel_rfl) (by kernel_rfl) (by kernel_rfl) (fun _ _ _ h => h) (Or.inl ⟨by rfl, ?_⟩) hS ?_
        rotate_left
        · (intro w hSw; (try dsimp only at hSw); go_simp; try with_reducible rfl)
        (try simp only [Act.put, List.setIfInBounds_toArray, List.set_cons_zero, List.set_cons_succ])
        refine wpAnyH_take (i := 6) (oi := ({ dst := some 60, op := Op.binOp BinOp.neq 3 (Operand.tmp 58) (Operand.tmp 59) 3, type := 4, pos := "law.go:27", after := #[{ on := 4, ground := Ground.data }, { on := 5, ground := Ground.data }], guard := none } : Oper)) (v := .bool false) rfl (by kernel_rfl) (by kernel_rfl) (by kernel_rfl) (fun _ _ _ h => h) (Or.inl ⟨by rfl, ?_⟩) hS ?_
        · (intro w hSw; (try dsimp only at hSw); go_simp)
        (try simp only [Act.put, List.setIfInBounds_toArray, List.set_cons_zero, List.set_cons_succ])
        refine wpAnyH_take (i := 7) (oi := ({ dst := some 61, op := Op.move (Operand.tmp 60), type := 4, pos := "law.go:27", after := #[{ on := 6, ground := Ground.data }], guard := none } : Oper)) (v := ?_) rfl (by kernel_rfl) (by kernel_rfl) (by kernel_rfl) (fun _ _ _ h => h) (Or.inl ⟨by rfl, ?_⟩) hS ?_
        rotate_left
        · (intro w hSw; (try dsimp only at hSw); go_simp; try with_reducible rfl)
        (try simp only [Act.put, List.setIfInBounds_toArray, List.set_cons_zero, List.set_cons_succ])
        refine wpAnyH_take (i := 8) (oi := ({ dst := some 62, op := Op.move (Operand.tmp 5), type := 22, pos := "law.go:27", after := #[{ on := 7, ground := Ground.guard }], guard := some (7, false) } : Oper)) (v := ?_) rfl (by kernel_rfl) (by kernel_rfl) (by kernel_rfl) (fun _ _ _ h => h) (Or.inl ⟨by rfl, ?_⟩) hS ?_
        rotate_left
        · (intro w hSw; (try dsimp only at hSw); go_simp; try with_reducible rfl)
        (try simp only [Act.put, List.setIfInBounds_toArray, List.set_cons_zero, List.set_cons_succ])
        refine wpAnyH_take (i := 9) (oi := ({ dst := some 63, op := Op.move (Operand.tmp 12), type := 3, pos := "law.go:27", after := #[{ on := 7, ground := Ground.guard }], guard := some (7, false) } : Oper)) (v := ?_) rfl (by kernel_rfl) (by kernel_rfl) (by kernel_rfl) (fun _ _ _ h => h) (Or.inl ⟨by rfl, ?_⟩) hS ?_
        rotate_left
        · (intro w hSw; (try dsimp only at hSw); go_simp; try with_reducible rfl)
        (try simp only [Act.put, List.setIfInBounds_toArray, List.set_cons_zero, List.set_cons_succ])
        refine wpAnyH_take (i := 10) (oi := ({ dst := some 64, op := Op.indexAddr 22 (Operand.tmp 62) (Operand.tmp 63), type := 0, pos := "law.go:27", after := #[{ on := 8, ground := Ground.data }, { on := 9, ground := Ground.data }, { on := 7, ground := Ground.guard }], guard := some (7, false) } : Oper)) (v := ?_) rfl (by kernel_rfl) (by kernel_rfl) (by kernel_rfl) (fun _ _ _ h => h) (Or.inl ⟨by rfl, ?_⟩) hS ?_
        rotate_left
        · (intro w hSw; (try dsimp only at hSw); go_simp; try with_reducible rfl)
        (try simp only [Act.put, List.setIfInBounds_toArray, List.set_cons_zero, List.set_cons_succ])
        refine wpAnyH_take (i := 11) (oi := ({ dst := some 65, op := Op.fieldAddr 28 (Operand.tmp 64) 3, type := 0, pos := "law.go:27", after := #[{ on := 10, ground := Ground.data }, { on := 7, ground := Ground.guard }], guard := some (7, false) } : Oper)) (v := ?_) rfl (by kernel_rfl) (by kernel_rfl) (by kernel_rfl) (fun _ _ _ h => h) (Or.inl ⟨by rfl, ?_⟩) hS ?_
        rotate_left
        · (intro w hSw; (try dsimp only at hSw); go_simp; try with_reducible rfl)
        (try simp only [Act.put, List.setIfInBounds_toArray, List.set_cons_zero, List.set_cons_succ])
        refine wpAnyH_take (i := 12) (oi := ({ dst := some 66, op := Op.load 3 (Operand.tmp 65), type := 3, pos := "law.go:27", after := #[{ on := 11, ground := Ground.data }, { on := 7, ground := Ground.guard }], guard := some (7, false) } : Oper)) (v := ?_) rfl (by kernel_rfl) (by kernel_rfl) (by kernel_rfl) (fun _ _ _ h => h) (Or.inl ⟨by rfl, ?_⟩) hS ?_
        rotate_left
        · (intro w hSw; (try dsimp only at hSw); go_simp; try with_reducible rfl)
        (try simp only [Act.put, List.setIfInBounds_toArray, List.set_cons_zero, List.set_cons_succ])
        refine wpAnyH_take (i := 13) (oi := ({ dst := some 67, op := Op.move (Operand.tmp 11), type := 3, pos := "law.go:27", after := #[{ on := 7, ground := Ground.guard }], guard := some (7, false) } : Oper)) (v := ?_) rfl (by kernel_rfl) (by kernel_rfl) (by kernel_rfl) (fun _ _ _ h => h) (Or.inl ⟨by rfl, ?_⟩) hS ?_
        rotate_left
        · (intro w hSw; (try dsimp only at hSw); go_simp; try with_reducible rfl)
        (try simp only [Act.put, List.setIfInBounds_toArray, List.set_cons_zero, List.set_cons_succ])
        refine wpAnyH_take (i := 14) (oi := ({ dst := some 68, op := Op.binOp BinOp.lss 3 (Operand.tmp 66) (Operand.tmp 67) 3, type := 4, pos := "law.go:27", after := #[{ on := 12, ground := Ground.data }, { on := 13, ground := Ground.data }, { on := 7, ground := Ground.guard }], guard := some (7, false) } : Oper)) (v := .bool false) rfl (by kernel_rfl) (by kernel_rfl) (by kernel_rfl) (fun _ _ _ h => h) (Or.inl ⟨by rfl, ?_⟩) hS ?_
        · (intro w hSw; (try dsimp only at hSw); have z := HZ1.out; go_simp; (try exact z))
        (try simp only [Act.put, List.setIfInBounds_toArray, List.set_cons_zero, List.set_cons_succ])
        refine wpAnyH_take (i := 15) (oi := ({ dst := some 69, op := Op.pick (Operand.tmp 61) (Operand.const (Value.bool true)) (Operand.tmp 68), type := 4, pos := "law.go:27", after := #[{ on := 7, ground := Ground.data }, { on := 14, ground := Ground.data }], guard := none } : Oper)) (v := ?_) rfl (by kernel_rfl) (by kernel_rfl) (by kernel_rfl) (fun _ _ _ h => h) (Or.inl ⟨by rfl, ?_⟩) hS ?_
        rotate_left
        · (intro w hSw; (try dsimp only at hSw); go_simp; try with_reducible rfl)
        (try simp only [Act.put, List.setIfInBounds_toArray, List.set_cons_zero, List.set_cons_succ])
        refine wpAnyH_take (i := 16) (oi := ({ dst := some 70, op := Op.move (Operand.tmp 69), type := 4, pos := "law.go:27", after := #[{ on := 15, ground := Ground.data }, { on := 7, ground := Ground.chain }], guard := none } : Oper)) (v := ?_) rfl (by kernel_rfl) (by kernel_rfl) (by kernel_rfl) (fun _ _ _ h => h) (Or.inl ⟨by rfl, ?_⟩) hS ?_
        rotate_left
        · (intro w hSw; (try dsimp only at hSw); go_simp; try with_reducible rfl)
        (try simp only [Act.put, List.setIfInBounds_toArray, List.set_cons_zero, List.set_cons_succ])
        refine wpAnyH_take (i := 17) (oi := ({ dst := some 71, op := Op.move (Operand.tmp 5), type := 22, pos := "law.go:27", after := #[{ on := 16, ground := Ground.guard }], guard := some (16, false) } : Oper)) (v := ?_) rfl (by kernel_rfl) (by kernel_rfl) (by kernel_rfl) (fun _ _ _ h => h) (Or.inl ⟨by rfl, ?_⟩) hS ?_
        rotate_left
        · (intro w hSw; (try dsimp only at hSw); go_simp; try with_reducible rfl)
        (try simp only [Act.put, List.setIfInBounds_toArray, List.set_cons_zero, List.set_cons_succ])
        refine wpAnyH_take (i := 18) (oi := ({ dst := some 72, op := Op.move (Operand.tmp 12), type := 3, pos := "law.go:27", after := #[{ on := 16, ground := Ground.guard }], guard := some (16, false) } : Oper)) (v := ?_) rfl (by kernel_rfl) (by kernel_rfl) (by kernel_rfl) (fun _ _ _ h => h) (Or.inl ⟨by rfl, ?_⟩) hS ?_
        rotate_left
        · (intro w hSw; (try dsimp only at hSw); go_simp; try with_reducible rfl)
        (try simp only [Act.put, List.setIfInBounds_toArray, List.set_cons_zero, List.set_cons_succ])
        refine wpAnyH_take (i := 19) (oi := ({ dst := some 73, op := Op.indexAddr 22 (Operand.tmp 71) (Operand.tmp 72), type := 0, pos := "law.go:27", after := #[{ on := 17, ground := Ground.data }, { on := 18, ground := Ground.data }, { on := 16, ground := Ground.guard }], guard := some (16, false) } : Oper)) (v := ?_) rfl (by kernel_rfl) (by kernel_rfl) (by kernel_rfl) (fun _ _ _ h => h) (Or.inl ⟨by rfl, ?_⟩) hS ?_
        rotate_left
        · (intro w hSw; (try dsimp only at hSw); go_simp; try with_reducible rfl)
        (try simp only [Act.put, List.setIfInBounds_toArray, List.set_cons_zero, List.set_cons_succ])
        refine wpAnyH_take (i := 20) (oi := ({ dst := some 74, op := Op.fieldAddr 28 (Operand.tmp 73) 0, type := 0, pos := "law.go:27", after := #[{ on := 19, ground := Ground.data }, { on := 16, ground := Ground.guard }], guard := some (16, false) } : Oper)) (v := ?_) rfl (by kernel_rfl) (by kernel_rfl) (by kernel_rfl) (fun _ _ _ h => h) (Or.inl ⟨by rfl, ?_⟩) hS ?_
        rotate_left
        · (intro w hSw; (try dsimp only at hSw); go_simp; try with_reducible rfl)
        (try simp only [Act.put, List.setIfInBounds_toArray, List.set_cons_zero, List.set_cons_succ])
        refine wpAnyH_take (i := 21) (oi := ({ dst := some 75, op := Op.load 3 (Operand.tmp 74), type := 3, pos := "law.go:27", after := #[{ on := 20, ground := Ground.data }, { on := 16, ground := Ground.guard }], guard := some (16, false) } : Oper)) (v := ?_) rfl (by kernel_rfl) (by kernel_rfl) (by kernel_rfl) (fun _ _ _ h => h) (Or.inl ⟨by rfl, ?_⟩) hS ?_
        rotate_left
        · (intro w hSw; (try dsimp only at hSw); go_simp; try with_reducible rfl)
        (try simp only [Act.put, List.setIfInBounds_toArray, List.set_cons_zero, List.set_cons_succ])
        refine wpAnyH_take (i := 23) (oi := ({ dst := some 77, op := Op.move (Operand.tmp 5), type := 22, pos := "law.go:27", after := #[{ on := 16, ground := Ground.guard }], guard := some (16, false) } : Oper)) (v := ?_) rfl (by kernel_rfl) (by kernel_rfl) (by kernel_rfl) (fun _ _ _ h => h) (Or.inl ⟨by rfl, ?_⟩) hS ?_
        rotate_left
        · (intro w hSw; (try dsimp only at hSw); go_simp; try with_reducible rfl)
        (try simp only [Act.put, List.setIfInBounds_toArray, List.set_cons_zero, List.set_cons_succ])
        refine wpAnyH_take (i := 24) (oi := ({ dst := some 78, op := Op.move (Operand.tmp 12), type := 3, pos := "law.go:27", after := #[{ on := 16, ground := Ground.guard }], guard := some (16, false) } : Oper)) (v := ?_) rfl (by kernel_rfl) (by kernel_rfl) (by kernel_rfl) (fun _ _ _ h => h) (Or.inl ⟨by rfl, ?_⟩) hS ?_
        rotate_left
        · (intro w hSw; (try dsimp only at hSw); go_simp; try with_reducible rfl)
        (try simp only [Act.put, List.setIfInBounds_toArray, List.set_cons_zero, List.set_cons_succ])
        refine wpAnyH_take (i := 25) (oi := ({ dst := some 79, op := Op.indexAddr 22 (Operand.tmp 77) (Operand.tmp 78), type := 0, pos := "law.go:27", after := #[{ on := 23, ground := Ground.data }, { on := 24, ground := Ground.data }, { on := 16, ground := Ground.guard }], guard := some (16, false) } : Oper)) (v := ?_) rfl (by kernel_rfl) (by kernel_rfl) (by kernel_rfl) (fun _ _ _ h => h) (Or.inl ⟨by rfl, ?_⟩) hS ?_
        rotate_left
        · (intro w hSw; (try dsimp only at hSw); go_simp; try with_reducible rfl)
        (try simp only [Act.put, List.setIfInBounds_toArray, List.set_cons_zero, List.set_cons_succ])
        refine wpAnyH_take (i := 26) (oi := ({ dst := some 80, op := Op.fieldAddr 28 (Operand.tmp 79) 3, type := 0, pos := "law.go:27", after := #[{ on := 25, ground := Ground.data }, { on := 16, ground := Ground.guard }], guard := some (16, false) } : Oper)) (v := ?_) rfl (by kernel_rfl) (by kernel_rfl) (by kernel_rfl) (fun _ _ _ h => h) (Or.inl ⟨by rfl, ?_⟩) hS ?_
        rotate_left
        · (intro w hSw; (try dsimp only at hSw); go_simp; try with_reducible rfl)
        (try simp only [Act.put, List.setIfInBounds_toArray, List.set_cons_zero, List.set_cons_succ])
        refine wpAnyH_take (i := 27) (oi := ({ dst := some 81, op := Op.load 3 (Operand.tmp 80), type := 3, pos := "law.go:27", after := #[{ on := 26, ground := Ground.data }, { on := 16, ground := Ground.guard }], guard := some (16, false) } : Oper)) (v := ?_) rfl (by kernel_rfl) (by kernel_rfl) (by kernel_rfl) (fun _ _ _ h => h) (Or.inl ⟨by rfl, ?_⟩) hS ?_
        rotate_left
        · (intro w hSw; (try dsimp only at hSw); go_simp; try with_reducible rfl)
        (try simp only [Act.put, List.setIfInBounds_toArray, List.set_cons_zero, List.set_cons_succ])
        refine wpAnyH_take (i := 28) (oi := ({ dst := some 82, op := Op.binOp BinOp.add 3 (Operand.const (Value.int IntKind.i64 11)) (Operand.tmp 81) 3, type := 3, pos := "law.go:27", after := #[{ on := 27, ground := Ground.data }, { on := 16, ground := Ground.guard }], guard := some (16, false) } : Oper)) (v := .int .i64 (11 + (f1 : Int))) rfl (by kernel_rfl) (by kernel_rfl) (by kernel_rfl) (fun _ _ _ h => h) (Or.inl ⟨by rfl, ?_⟩) hS ?_
        · (intro w hSw; (try dsimp only at hSw); have z := HW1.out; go_simp; (try exact z))
        (try simp only [Act.put, List.setIfInBounds_toArray, List.set_cons_zero, List.set_cons_succ])
        refine wpAnyH_take (i := 29) (oi := ({ dst := some 83, op := Op.move (Operand.tmp 11), type := 3, pos := "law.go:27", after := #[{ on := 16, ground := Ground.guard }], guard := some (16, false) } : Oper)) (v := ?_) rfl (by kernel_rfl) (by kernel_rfl) (by kernel_rfl) (fun _ _ _ h => h) (Or.inl ⟨by rfl, ?_⟩) hS ?_
        rotate_left
        · (intro w hSw; (try dsimp only at hSw); go_simp; try with_reducible rfl)
        (try simp only [Act.put, List.setIfInBounds_toArray, List.set_cons_zero, List.set_cons_succ])
        refine wpAnyH_take (i := 30) (oi := ({ dst := some 84, op := Op.binOp BinOp.sub 3 (Operand.tmp 82) (Operand.tmp 83) 3, type := 3, pos := "law.go:27", after := #[{ on := 28, ground := Ground.data }, { on := 29, ground := Ground.data }, { on := 16, ground := Ground.guard }], guard := some (16, false) } : Oper)) (v := .int .i64 (11 + (f1 : Int) - f)) rfl (by kernel_rfl) (by kernel_rfl) (by kernel_rfl) (fun _ _ _ h => h) (Or.inl ⟨by rfl, ?_⟩) hS ?_
        · (intro w hSw; (try dsimp only at hSw); have z := HW2.out; go_simp; (try exact z))
        (try simp only [Act.put, List.setIfInBounds_toArray, List.set_cons_zero, List.set_cons_succ])
        refine rg_one 22 ({ dst := some 76, op := Op.call { callee := Callee.value (Operand.func 10), args := #[Operand.tmp 75], argTypes := #[3] }, type := 3, pos := "law.go:27", after := #[{ on := 21, ground := Ground.data }, { on := 16, ground := Ground.chain }, { on := 16, ground := Ground.guard }], guard := some (16, false) } : Oper) (by kernel_rfl) rfl (fun K hK => ?_)
        go_simp
        (go_at_call 10; (with_reducible refine (HL.out _).mono ?_); rintro e w' ⟨rfl, rfl⟩)
        refine hK.out _ _ ?_ (fun hS1 => ?_)
        · (exact hS)
        clear hK K hS; have hS := hS1; clear hS1
        (try simp only [Act.put, List.setIfInBounds_toArray, List.set_cons_zero, List.set_cons_succ])
        refine wpAnyH_take (i := 31) (oi := ({ dst := some 85, op := Op.binOp BinOp.lss 3 (Operand.tmp 76) (Operand.tmp 84) 3, type := 4, pos := "law.go:27", after := #[{ on := 22, ground := Ground.data }, { on := 30, ground := Ground.data }, { on := 16, ground := Ground.guard }], guard := some (16, false) } : Oper)) (v := .bool false) rfl (by kernel_rfl) (by kernel_rfl) (by kernel_rfl) (fun _ _ _ h => h) (Or.inl ⟨by rfl, ?_⟩) hS ?_
        · (intro w hSw; (try dsimp only at hSw); have z := HZ2.out; go_simp; (try exact z))
        (try simp only [Act.put, List.setIfInBounds_toArray, List.set_cons_zero, List.set_cons_succ])
        refine wpAnyH_take (i := 32) (oi := ({ dst := some 86, op := Op.pick (Operand.tmp 70) (Operand.const (Value.bool true)) (Operand.tmp 85), type := 4, pos := "law.go:27", after := #[{ on := 16, ground := Ground.data }, { on := 31, ground := Ground.data }], guard := none } : Oper)) (v := ?_) rfl (by kernel_rfl) (by kernel_rfl) (by kernel_rfl) (fun _ _ _ h => h) (Or.inl ⟨by rfl, ?_⟩) hS ?_
        rotate_left
        · (intro w hSw; (try dsimp only at hSw); go_simp; try with_reducible rfl)
        (try simp only [Act.put, List.setIfInBounds_toArray, List.set_cons_zero, List.set_cons_succ])
        refine wpAnyH_done (by kernel_rfl) ?_ _
        clear hS
        go_wp2
        go_roundw
        case rel => exact ⟨i + 1, by go_num, by rw [HF1.out], by omega, Lib.hid HO.out.drew, Lib.hid HB.out.drew⟩
        case measure => simp [intOf]; omega
      · obtain rfl : i = m := by omega
        try ((have e : ((F i : Nat) : Int) = n := by (first | exact HFM.out rfl | exact HFM.out trivial)); subst e)
        go_wp2_with (first
          | (go_at_call 11; (with_reducible refine (awake_any _).mono ?_); rintro e w5 ⟨rfl, hb⟩; have HB5 := Lib.hid (bch HB.out hb); clear hb))
        go_ret
        exact ⟨rfl, HB5.out⟩
end Go.Proofs.Ytepmiooemjjhdaa
