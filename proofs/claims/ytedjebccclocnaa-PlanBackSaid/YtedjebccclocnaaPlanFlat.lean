/-
  LAYER 16 (plan), Flat: what the program's answers. No condition.
-/
import Derived.Test.YtedjebccclocnaaPlanRow
import Derived.Test.YtedjebccclocnaaPlanPart
import Derived.Test.YtedjebccclocnaaStampOpen
namespace Go.Proofs.Ytedjebccclocnaa
open Go.RowKit
theorem wp_make_yb {w : World} {o : Oper} {a : Act} {K : Act → World → Prop} {Q : Exit → Act → World → Prop} (x y : Operand) (ho : o.op = Op.makeSlice 26 x y) (n : Nat) (hx : a.eval x = .int .i64 (n : Int)) (hy : a.eval y = .int .i64 (n : Int)) (hn : n ≤ 1000000)
    (h : ∀ g w', Hid (YB w' g (List.replicate n 0)) → Hid (w.heap.size ≤ g) → Hid (Below w.heap.size w w') → K (a.put o.dst (.slice (some ⟨g, 0, none⟩) n n)) w') : o.wp Try.prog a w K Q := by
  have hrun := make_bytes_run n (by omega) w
  unfold Oper.wp
  simp [execOp, ho, hx, hy, hrun, Result.andThen]
  exact h _ _ (heap_alloc_last w _) (Nat.le_refl _) (below_alloc w _)
theorem wp_make_kb {w : World} {o : Oper} {a : Act} {K : Act → World → Prop} {Q : Exit → Act → World → Prop} (x y : Operand) (ho : o.op = Op.makeSlice 27 x y) (n : Nat) (hx : a.eval x = .int .i64 (n : Int)) (hy : a.eval y = .int .i64 (n : Int)) (hn : n ≤ 1000000)
    (h : ∀ g w', Hid (KB w' g (List.replicate n false)) → Hid (w.heap.size ≤ g) → Hid (Below w.heap.size w w') → K (a.put o.dst (.slice (some ⟨g, 0, none⟩) n n)) w') : o.wp Try.prog a w K Q := by
  have hrun := make_kbools_run n (by omega) w
  unfold Oper.wp
  simp [execOp, ho, hx, hy, hrun, Result.andThen]
  exact h _ _ (heap_alloc_last w _) (Nat.le_refl _) (below_alloc w _)
/-- the part of a body's own block -/
theorem part_own (g i : Nat) (hi : i < 16) (w : World) :
    Calls Try.prog 18 #[.slice (some ⟨g, 0, none⟩) 832 832, .int .i64 (i : Int)] w fun e w' => e = .returned (.slice (some ⟨g, 52 * i, none⟩) 52 52) ∧ w' = w := by
  refine (part_any (some ⟨g, 0, none⟩) 832 832 i (by omega) (by omega) (by omega) w).mono ?_
  rintro e w' ⟨rfl, rfl⟩
  refine ⟨?_, rfl⟩
  have h1 : pF 832 i = 52 * i := by unfold pF; omega
  have h2 : pN 832 i = 52 := by unfold pN; rw [h1]; omega
  rw [h1, h2]
  unfold sliced
  rw [if_neg (by omega), show 52 * i + 52 - 52 * i = 52 from by omega]
  simp [Addr.add_mid]
set_option maxRecDepth 8000 in
set_option maxHeartbeats 1000000 in
theorem flat_any (x : Int) (hx : U64 x) (v : Value) (n : Nat) (fs : List Int) (hbf : Bytes fs) (w : World) (h : FS w v n fs) :
    Calls Try.prog 7 #[.int .u64 x, v] w fun e w' => ∃ g1 g2, e = .returned (.tuple #[.slice (some ⟨g1, 0, none⟩) 832 832, .slice (some ⟨g2, 0, none⟩) 16 16]) ∧
      RI .u8 w' (.slice (some ⟨g1, 0, none⟩) 832 832) 832 (flatB x n fs 16) ∧ BS w' (.slice (some ⟨g2, 0, none⟩) 16 16) 16 (flatK x n fs 16) ∧ Below w.heap.size w w' := by
  have hfl := h.length
  obtain ⟨ad, cap, rfl, _, hc1, hc2, _⟩ := id h
  have HH := Lib.hid h
  have HX := Lib.hid hx
  have HBF := Lib.hid hbf
  have HFL := Lib.hid hfl
  obtain ⟨m, hm⟩ : ∃ m, min n 16 = m := ⟨_, rfl⟩
  have hmn : m ≤ n := by omega
  have hm16 : m ≤ 16 := by omega
  have hmi : (if (16 : Int) < (n : Int) then (16 : Int) else (n : Int)) = (m : Int) := by split <;> omega
  have HM := Lib.hid hm
  clear h hx hbf hfl hm
  go_enter Try.func7, Try.ntmps7
  go_wp2_with fail
  refine wp_region_held_drew (S := (fun w' => Below w.heap.size w w')) (by kernel_rfl) (Below.refl _ _).drew (fun hS => ?_)
  refine rg_both 0 1 ({ dst := some 11, op := Op.makeSlice 26 (Operand.const (Value.int IntKind.i64 832)) (Operand.const (Value.int IntKind.i64 832)), type := 26, pos := "plan.go:14", after := #[], guard := none } : Oper) ({ dst := some 12, op := Op.makeSlice 27 (Operand.const (Value.int IntKind.i64 16)) (Operand.const (Value.int IntKind.i64 16)), type := 27, pos := "plan.go:14", after := #[], guard := none } : Oper) (by kernel_rfl) rfl rfl (fun K hK => ?_) (fun K hK => ?_)
  · skip
    rw [if_pos (by rfl)]; refine wp_make_yb _ _ rfl 832 rfl rfl (by omega) ?_; intro g1 wa HY0 HG1 hb; have hN := hS.trans (hb.out.mono hS.size); have HG1 := Lib.hid (Nat.le_trans hS.size HG1.out)
    refine hK.out _ _ ?_ (fun hS1 => ?_)
    · (exact hN)
    clear hK K hS; have hS := hS1; clear hS1
    (try simp only [Act.put, List.setIfInBounds_toArray, List.set_cons_zero, List.set_cons_succ])
    refine wpAnyH_take (i := 2) (oi := ({ dst := some 6, op := Op.assign (Operand.tmp 11), type := 26, pos := "plan.go:14", after := #[{ on := 0, ground := Ground.data }, { on := 0, ground := Ground.phase }, { on := 1, ground := Ground.textOnly Departure.lateStoresUnsure }], guard := none } : Oper)) (v := ?_) rfl (by kernel_rfl) (by kernel_rfl) (by kernel_rfl) (fun _ _ _ h => h) (Or.inl ⟨by rfl, ?_⟩) hS ?_
    rotate_left
    · (intro w hSw; (try dsimp only at hSw); go_simp; try with_reducible rfl)
    (try simp only [Act.put, List.setIfInBounds_toArray, List.set_cons_zero, List.set_cons_succ])
    refine rg_one 1 ({ dst := some 12, op := Op.makeSlice 27 (Operand.const (Value.int IntKind.i64 16)) (Operand.const (Value.int IntKind.i64 16)), type := 27, pos := "plan.go:14", after := #[], guard := none } : Oper) (by kernel_rfl) rfl (fun K hK => ?_)
    rw [if_pos (by rfl)]; refine wp_make_kb _ _ rfl 16 rfl rfl (by omega) ?_; intro g2 wb HK0 HG2 hb; have hN := hS.trans (hb.out.mono hS.size); have HG2 := Lib.hid (Nat.le_trans hS.size HG2.out); have HY0 := Lib.hid (HY0.out.keep hb.out)
    refine hK.out _ _ ?_ (fun hS1 => ?_)
    · (exact hN)
    clear hK K hS; have hS := hS1; clear hS1
    (try simp only [Act.put, List.setIfInBounds_toArray, List.set_cons_zero, List.set_cons_succ])
    refine wpAnyH_take (i := 3) (oi := ({ dst := some 7, op := Op.assign (Operand.tmp 12), type := 27, pos := "plan.go:14", after := #[{ on := 1, ground := Ground.data }, { on := 2, ground := Ground.chain }, { on := 0, ground := Ground.phase }, { on := 1, ground := Ground.phase }, { on := 2, ground := Ground.phase }], guard := none } : Oper)) (v := ?_) rfl (by kernel_rfl) (by kernel_rfl) (by kernel_rfl) (fun _ _ _ h => h) (Or.inl ⟨by rfl, ?_⟩) hS ?_
    rotate_left
    · (intro w hSw; (try dsimp only at hSw); go_simp; try with_reducible rfl)
    (try simp only [Act.put, List.setIfInBounds_toArray, List.set_cons_zero, List.set_cons_succ])
    refine wpAnyH_done (by kernel_rfl) ?_ _
    have HB0 := Lib.hid hS
    clear hS
    have HYZ : Hid (YB wb g1 (bodyAt x n fs 0)) := Lib.hid (by rw [bodyAt_zero]; exact HY0.out)
    have HKZ : Hid (KB wb g2 (oksAt x n fs 0)) := Lib.hid (by rw [oksAt_zero]; exact HK0.out)
    clear HY0 HK0
    have HNE := Lib.hid (yk_ne HYZ.out HKZ.out)
    go_wp2
    go_loopw [16] (fun iv wr => ∃ k : Nat, iv = .int .i64 k ∧ k ≤ m ∧ Hid (YB wr g1 (bodyAt x n fs k)) ∧ Hid (KB wr g2 (oksAt x n fs k)) ∧ Hid (Below w.heap.size w wr)) (fun iv _ => m - (intOf iv).toNat)
    case atStart => exact ⟨0, rfl, by omega, HYZ, HKZ, HB0⟩
    case round =>
      obtain ⟨k, rfl, hk, HY, HK, HB⟩ := hrel
      by_cases hlt : (k : Int) < (m : Int)
      · obtain ⟨b, off, rfl, hat⟩ := (HH.out.keep HB.out).at_ k (by omega)
        obtain ⟨l, hsl⟩ : ∃ l, secOf fs k = l := ⟨_, rfl⟩
        have hat : At wr b (off + k * 64) l := by rw [← hsl]; exact hat
        have HAT := Lib.hid hat
        have HSL := Lib.hid (secOf_length fs n k HFL.out (by omega))
        have HSB := Lib.hid (show Bytes (secOf fs k) from bytes_take (bytes_drop HBF.out _) _)
        have HOK := Lib.hid (okAt_in x n fs k (by omega))
        have HNX := Lib.hid (oksAt_next x n fs k (by omega))
        have HKL := Lib.hid (oksAt_length x n fs k (by omega))
        have HYL := Lib.hid (bodyAt_length x n fs HFL.out k (by omega))
        obtain ⟨y, hy⟩ : ∃ y, okAt x n fs k = y := ⟨_, rfl⟩
        have HYN : Hid (splice (bodyAt x n fs k) (52 * k) (if y then (secOf fs k).drop 12 else []) = bodyAt x n fs (k + 1)) := Lib.hid (by
          cases y with
          | true => exact bodyAt_true x n fs HFL.out k (by omega) hy
          | false => simp only [Bool.false_eq_true, if_false]; rw [splice_nil]; exact bodyAt_false x n fs k (by omega) hy)
        rw [hy] at HOK HNX
        rw [hsl] at HSL HSB HOK HYN
        have HRL : Hid ((if y then 52 else 0) ≤ 52) := Lib.hid (by split <;> omega)
        clear hat hy hsl
        go_wp2_with (first
          | (refine wpl_load_at rfl _ rfl b _ rfl _ HAT.out ?_)
          | (go_at_call 17; (with_reducible refine (open_any l HSL.out HSB.out x k HX.out (by unfold I63; omega) _ y HOK.out.symm).mono ?_); rintro e w1 ⟨v1, rfl, hr, hb⟩; have HR := Lib.hid hr; have HY1 := Lib.hid (HY.out.keep hb); have HK1 := Lib.hid (HK.out.keep hb); have HB1 := Lib.hid (bch HB.out hb); clear hr hb)
          | (go_at_call 18; (with_reducible refine (part_own g1 k (by omega) _).mono ?_); rintro e w2 ⟨rfl, rfl⟩)
          | (refine wpl_copy_yb rfl _ _ rfl g1 (52 * k) 52 52 (bodyAt x n fs k) HY1.out rfl v1 _ _ rfl HR.out HRL.out (by have := HYL.out; omega) ?_; intro w3 HY3 hg3; have HY3 := Lib.hid (HYN.out ▸ HY3.out); have HK3 := Lib.hid (HK1.out.over hg3.out (Ne.symm HNE.out)); have HB3 := Lib.hid (below_grown HB1.out hg3.out HG1.out HB1.out.size); clear hg3)
          | (refine wpl_put_kb rfl _ _ rfl g2 k (oksAt x n fs k) y HK3.out (by have := HKL.out; omega) rfl rfl ?_; intro w4 HK4 hg4; have HK4 := Lib.hid (HNX.out ▸ HK4.out); have HY4 := Lib.hid (HY3.out.over hg4.out HNE.out); have HB4 := Lib.hid (below_grown HB3.out hg4.out HG2.out HB3.out.size); clear hg4))
        go_roundw
        case rel => exact ⟨k + 1, by simp, by omega, HY4, HK4, HB4⟩
        case measure => simp [intOf]; omega
      · obtain rfl : k = m := by omega
        go_wp2
        go_ret2
        refine ⟨g1, g2, rfl, ?_, ?_, HB.out⟩
        · have h1 := HY.out
          rw [← HM.out, bodyAt_end] at h1
          exact h1.ri (by rw [flatB_length x n fs HFL.out]) (by omega)
        · have h1 := HK.out
          rw [← HM.out, oksAt_end] at h1
          exact h1.bs (flatK_length x n fs 16) (by omega)
  · skip
    rw [if_pos (by rfl)]; refine wp_make_kb _ _ rfl 16 rfl rfl (by omega) ?_; intro g2 wa HK0 HG2 hb; have hN := hS.trans (hb.out.mono hS.size); have HG2 := Lib.hid (Nat.le_trans hS.size HG2.out)
    refine hK.out _ _ ?_ (fun hS1 => ?_)
    · (exact hN)
    clear hK K hS; have hS := hS1; clear hS1
    (try simp only [Act.put, List.setIfInBounds_toArray, List.set_cons_zero, List.set_cons_succ])
    refine rg_one 0 ({ dst := some 11, op := Op.makeSlice 26 (Operand.const (Value.int IntKind.i64 832)) (Operand.const (Value.int IntKind.i64 832)), type := 26, pos := "plan.go:14", after := #[], guard := none } : Oper) (by kernel_rfl) rfl (fun K hK => ?_)
    rw [if_pos (by rfl)]; refine wp_make_yb _ _ rfl 832 rfl rfl (by omega) ?_; intro g1 wb HY0 HG1 hb; have hN := hS.trans (hb.out.mono hS.size); have HG1 := Lib.hid (Nat.le_trans hS.size HG1.out); have HK0 := Lib.hid (HK0.out.keep hb.out)
    refine hK.out _ _ ?_ (fun hS1 => ?_)
    · (exact hN)
    clear hK K hS; have hS := hS1; clear hS1
    (try simp only [Act.put, List.setIfInBounds_toArray, List.set_cons_zero, List.set_cons_succ])
    refine wpAnyH_take (i := 2) (oi := ({ dst := some 6, op := Op.assign (Operand.tmp 11), type := 26, pos := "plan.go:14", after := #[{ on := 0, ground := Ground.data }, { on := 0, ground := Ground.phase }, { on := 1, ground := Ground.textOnly Departure.lateStoresUnsure }], guard := none } : Oper)) (v := ?_) rfl (by kernel_rfl) (by kernel_rfl) (by kernel_rfl) (fun _ _ _ h => h) (Or.inl ⟨by rfl, ?_⟩) hS ?_
    rotate_left
    · (intro w hSw; (try dsimp only at hSw); go_simp; try with_reducible rfl)
    (try simp only [Act.put, List.setIfInBounds_toArray, List.set_cons_zero, List.set_cons_succ])
    refine wpAnyH_take (i := 3) (oi := ({ dst := some 7, op := Op.assign (Operand.tmp 12), type := 27, pos := "plan.go:14", after := #[{ on := 1, ground := Ground.data }, { on := 2, ground := Ground.chain }, { on := 0, ground := Ground.phase }, { on := 1, ground := Ground.phase }, { on := 2, ground := Ground.phase }], guard := none } : Oper)) (v := ?_) rfl (by kernel_rfl) (by kernel_rfl) (by kernel_rfl) (fun _ _ _ h => h) (Or.inl ⟨by rfl, ?_⟩) hS ?_
    rotate_left
    · (intro w hSw; (try dsimp only at hSw); go_simp; try with_reducible rfl)
    (try simp only [Act.put, List.setIfInBounds_toArray, List.set_cons_zero, List.set_cons_succ])
    refine wpAnyH_done (by kernel_rfl) ?_ _
    have HB0 := Lib.hid hS
    clear hS
    have HYZ : Hid (YB wb g1 (bodyAt x n fs 0)) := Lib.hid (by rw [bodyAt_zero]; exact HY0.out)
    have HKZ : Hid (KB wb g2 (oksAt x n fs 0)) := Lib.hid (by rw [oksAt_zero]; exact HK0.out)
    clear HY0 HK0
    have HNE := Lib.hid (yk_ne HYZ.out HKZ.out)
    go_wp2
    go_loopw [16] (fun iv wr => ∃ k : Nat, iv = .int .i64 k ∧ k ≤ m ∧ Hid (YB wr g1 (bodyAt x n fs k)) ∧ Hid (KB wr g2 (oksAt x n fs k)) ∧ Hid (Below w.heap.size w wr)) (fun iv _ => m - (intOf iv).toNat)
    case atStart => exact ⟨0, rfl, by omega, HYZ, HKZ, HB0⟩
    case round =>
      obtain ⟨k, rfl, hk, HY, HK, HB⟩ := hrel
      by_cases hlt : (k : Int) < (m : Int)
      · obtain ⟨b, off, rfl, hat⟩ := (HH.out.keep HB.out).at_ k (by omega)
        obtain ⟨l, hsl⟩ : ∃ l, secOf fs k = l := ⟨_, rfl⟩
        have hat : At wr b (off + k * 64) l := by rw [← hsl]; exact hat
        have HAT := Lib.hid hat
        have HSL := Lib.hid (secOf_length fs n k HFL.out (by omega))
        have HSB := Lib.hid (show Bytes (secOf fs k) from bytes_take (bytes_drop HBF.out _) _)
        have HOK := Lib.hid (okAt_in x n fs k (by omega))
        have HNX := Lib.hid (oksAt_next x n fs k (by omega))
        have HKL := Lib.hid (oksAt_length x n fs k (by omega))
        have HYL := Lib.hid (bodyAt_length x n fs HFL.out k (by omega))
        obtain ⟨y, hy⟩ : ∃ y, okAt x n fs k = y := ⟨_, rfl⟩
        have HYN : Hid (splice (bodyAt x n fs k) (52 * k) (if y then (secOf fs k).drop 12 else []) = bodyAt x n fs (k + 1)) := Lib.hid (by
          cases y with
          | true => exact bodyAt_true x n fs HFL.out k (by omega) hy
          | false => simp only [Bool.false_eq_true, if_false]; rw [splice_nil]; exact bodyAt_false x n fs k (by omega) hy)
        rw [hy] at HOK HNX
        rw [hsl] at HSL HSB HOK HYN
        have HRL : Hid ((if y then 52 else 0) ≤ 52) := Lib.hid (by split <;> omega)
        clear hat hy hsl
        go_wp2_with (first
          | (refine wpl_load_at rfl _ rfl b _ rfl _ HAT.out ?_)
          | (go_at_call 17; (with_reducible refine (open_any l HSL.out HSB.out x k HX.out (by unfold I63; omega) _ y HOK.out.symm).mono ?_); rintro e w1 ⟨v1, rfl, hr, hb⟩; have HR := Lib.hid hr; have HY1 := Lib.hid (HY.out.keep hb); have HK1 := Lib.hid (HK.out.keep hb); have HB1 := Lib.hid (bch HB.out hb); clear hr hb)
          | (go_at_call 18; (with_reducible refine (part_own g1 k (by omega) _).mono ?_); rintro e w2 ⟨rfl, rfl⟩)
          | (refine wpl_copy_yb rfl _ _ rfl g1 (52 * k) 52 52 (bodyAt x n fs k) HY1.out rfl v1 _ _ rfl HR.out HRL.out (by have := HYL.out; omega) ?_; intro w3 HY3 hg3; have HY3 := Lib.hid (HYN.out ▸ HY3.out); have HK3 := Lib.hid (HK1.out.over hg3.out (Ne.symm HNE.out)); have HB3 := Lib.hid (below_grown HB1.out hg3.out HG1.out HB1.out.size); clear hg3)
          | (refine wpl_put_kb rfl _ _ rfl g2 k (oksAt x n fs k) y HK3.out (by have := HKL.out; omega) rfl rfl ?_; intro w4 HK4 hg4; have HK4 := Lib.hid (HNX.out ▸ HK4.out); have HY4 := Lib.hid (HY3.out.over hg4.out HNE.out); have HB4 := Lib.hid (below_grown HB3.out hg4.out HG2.out HB3.out.size); clear hg4))
        go_roundw
        case rel => exact ⟨k + 1, by simp, by omega, HY4, HK4, HB4⟩
        case measure => simp [intOf]; omega
      · obtain rfl : k = m := by omega
        go_wp2
        go_ret2
        refine ⟨g1, g2, rfl, ?_, ?_, HB.out⟩
        · have h1 := HY.out
          rw [← HM.out, bodyAt_end] at h1
          exact h1.ri (by rw [flatB_length x n fs HFL.out]) (by omega)
        · have h1 := HK.out
          rw [← HM.out, oksAt_end] at h1
          exact h1.bs (flatK_length x n fs 16) (by omega)
end Go.Proofs.Ytedjebccclocnaa
