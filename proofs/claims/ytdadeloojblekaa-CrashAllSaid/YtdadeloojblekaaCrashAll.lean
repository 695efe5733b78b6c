/-
  THE WALK OF THE LAW CrashAll, over CrashSays: whatever numbers come in: the call returns true and changes nothing that was there.
-/
import Derived.Test.YtdadeloojblekaaCrashSays
namespace Go.Proofs.Ytdadeloojblekaa
open Go.RowKit
/-- where a crash of All lies, and its one byte -/
theorem CRs.one {w : World} {a : Option Addr} {n cap m : Nat} (h : CRs w (.slice a n cap) (allN m)) (i : Nat) (hi : i < m) :
    ∃ b off kb ko ck, a = some ⟨b, off, none⟩ ∧ w.cell? ⟨b, off + i * 3, none⟩ = some (.slice (some ⟨kb, ko, none⟩) 1 ck) ∧ w.cell? ⟨kb, ko, none⟩ = some (.int .u8 (i : Int)) := by
  obtain ⟨b, off, ak, ck, rfl, h0, _, _, hr⟩ := h.at_ i (oneC i) (allN_at hi)
  obtain ⟨kb, ko, c, e, _, _, hcell⟩ := hr.open_ (show 0 < (oneC i).len from Nat.one_pos)
  simp only [Value.slice.injEq] at e
  obtain ⟨rfl, _, rfl⟩ := e
  have := hcell 0 (show 0 < (oneC i).len from Nat.one_pos)
  exact ⟨b, off, kb, ko, _, rfl, h0, by simpa [oneC] using this⟩
theorem cntA_small (n : Int) : 1 ≤ cntA n 8 ∧ cntA n 8 ≤ 256 := by
  unfold cntA
  have h : lim n 8 ≤ 8 := by unfold lim; omega
  exact ⟨Nat.one_le_two_pow, Nat.pow_le_pow_right (by omega : 0 < 2) h⟩
set_option maxRecDepth 8000 in
set_option maxHeartbeats 4000000 in
theorem all_walk (H : CrashSays) (n cut : Int) (hn : I63 n) (hc : I63 cut) (W : World) :
    Calls Try.prog 5 #[.int .i64 n, .int .i64 cut] W fun e w' => e = .returned (.bool true) ∧ Below W.heap.size W w' := by
  have hH := Lib.hid H
  have H1 := Lib.hid fun w => H.all n w hn
  have H2 := Lib.hid fun w => H.tears n cut w hn hc
  have R1 := Lib.hid fun w => rall_any n hn w
  have R2 := Lib.hid fun w => rtears_any n cut hn w
  obtain ⟨hm1, hm2⟩ := cntA_small n
  obtain ⟨L2, hL2⟩ : ∃ L2, tearsN (lim n 6) cut (2 ^ lim n 6) = L2 := ⟨_, rfl⟩
  have hll : L2.length ≤ 1000000 := by
    rw [← hL2, tearsN_length]
    have h6 : lim n 6 ≤ 6 := by unfold lim; omega
    have h64 : 2 ^ lim n 6 ≤ 2 ^ 6 := Nat.pow_le_pow_right (by omega : 0 < 2) h6
    have := Nat.mul_le_mul h64 h6
    omega
  rw [hL2] at H2 R2
  generalize cntA n 8 = m at *
  have HLL := Lib.hid hll
  have HAL : Hid ((allN m).length ≤ 1000000) := Lib.hid (by simp [allN]; omega)
  clear hL2 hll
  go_enter Try.func5, Try.ntmps5
  go_wp2_with (first
    | (go_at_call 15; (with_reducible refine (H1.out _).mono ?_); rintro e w1 ⟨v1, rfl, hv, hb⟩; have HV1 := Lib.hid hv; have HB1 := Lib.hid hb; clear hb hv)
    | (go_at_call 16; (with_reducible refine (csame_true _ _ L2 _ (HV4.out.below HB5.out) HV5.out HLL.out).mono ?_); rintro e w6 ⟨rfl, hb⟩; have HX6 := Lib.hid (chain HX5.out hb); clear hb)
    | (go_at_call 19; (with_reducible refine (R2.out _).mono ?_); rintro e w5 ⟨v5, rfl, hv, hb⟩; have HV5 := Lib.hid hv; have HB5 := Lib.hid hb; have HX5 := Lib.hid (chain HX4.out hb); clear hb hv)
    | (go_at_call 18; (with_reducible refine (H2.out _).mono ?_); rintro e w4 ⟨v4, rfl, hv, hb⟩; have HV4 := Lib.hid hv; have HX4 := Lib.hid (chain HX3.out hb); clear hb hv)
    | (go_at_call 16; (with_reducible refine (csame_true _ _ (allN m) _ (HV1.out.below HX2.out) HV2.out HAL.out).mono ?_); rintro e w3 ⟨rfl, hb⟩; have HX3 := Lib.hid (chain HX2.out hb); clear hb)
    | (go_at_call 17; (with_reducible refine (R1.out _).mono ?_); rintro e w2 ⟨v2, rfl, hv, hb⟩; have HV2 := Lib.hid hv; have HX2 := Lib.hid hb; clear hb hv))
  obtain ⟨a1, c1, rfl, hc1, hc2, _⟩ := HV1.out.form
  rw [show (allN m).length = m from by simp [allN]] at HV1 hc1 ⊢
  go_loopw [6] (fun iv wr => ∃ j : Nat, iv = .int .i64 ((j : Int) + 1) ∧ j + 1 ≤ m ∧ Hid (Below w1.heap.size w1 wr)) (fun iv _ => m - (intOf iv).toNat)
  case atStart => exact ⟨0, rfl, by omega, HX6⟩
  case round =>
    obtain ⟨j, rfl, hj, HX⟩ := hrel
    by_cases hlt : (j : Int) + 1 < (m : Int)
    · obtain ⟨b, off, kb1, ko1, ck1, rfl, x0, x1⟩ := HV1.out.one (j + 1) (by omega)
      obtain ⟨b', off', kb0, ko0, ck0, e, y0, y1⟩ := HV1.out.one j (by omega)
      simp only [Option.some.injEq, Addr.mk.injEq, and_true] at e
      obtain ⟨rfl, rfl⟩ := e
      have HC := Lib.hid (And.intro x0 (And.intro x1 (And.intro y0 y1)))
      clear x0 x1 y0 y1
      have h0 : (0 : Int) ≤ (j : Int) + 1 := by omega
      have hw0 : IntKind.i64.wrap (j : Int) = (j : Int) := IntWalk.i64_in _ (by omega)
      have hjm : (j : Int) < (m : Int) := by omega
      go_wp2_with fail
      refine wp_region_held_drew (S := (fun W' => Below w1.heap.size w1 W')) (by kernel_rfl) (HX.out.drew) (fun hS => ?_)
      refine wpAnyH_take (i := 0) (oi := ({ dst := some 30, op := Op.move (Operand.tmp 5), type := 38, pos := "law.go:53", after := #[], guard := none } : Oper)) (v := ?_) rfl (by kernel_rfl) (by kernel_rfl) (by kernel_rfl) (fun _ _ _ h => h) (Or.inl ⟨by rfl, ?_⟩) hS ?_
      rotate_left
      · (intro w hSw; (try dsimp only at hSw); go_simp; try with_reducible rfl)
      (try simp only [Act.put, List.setIfInBounds_toArray, List.set_cons_zero, List.set_cons_succ])
      refine wpAnyH_take (i := 1) (oi := ({ dst := some 31, op := Op.move (Operand.tmp 6), type := 3, pos := "law.go:53", after := #[], guard := none } : Oper)) (v := ?_) rfl (by kernel_rfl) (by kernel_rfl) (by kernel_rfl) (fun _ _ _ h => h) (Or.inl ⟨by rfl, ?_⟩) hS ?_
      rotate_left
      · (intro w hSw; (try dsimp only at hSw); go_simp; try with_reducible rfl)
      (try simp only [Act.put, List.setIfInBounds_toArray, List.set_cons_zero, List.set_cons_succ])
      refine wpAnyH_take (i := 2) (oi := ({ dst := some 32, op := Op.indexAddr 38 (Operand.tmp 30) (Operand.tmp 31), type := 0, pos := "law.go:53", after := #[{ on := 0, ground := Ground.data }, { on := 1, ground := Ground.data }], guard := none } : Oper)) (v := ?_) rfl (by kernel_rfl) (by kernel_rfl) (by kernel_rfl) (fun _ _ _ h => h) (Or.inl ⟨by rfl, ?_⟩) hS ?_
      rotate_left
      · (intro w hSw; (try dsimp only at hSw); go_simp; try with_reducible rfl)
      (try simp only [Act.put, List.setIfInBounds_toArray, List.set_cons_zero, List.set_cons_succ])
      refine wpAnyH_take (i := 3) (oi := ({ dst := some 33, op := Op.fieldAddr 25 (Operand.tmp 32) 0, type := 0, pos := "law.go:53", after := #[{ on := 2, ground := Ground.data }], guard := none } : Oper)) (v := ?_) rfl (by kernel_rfl) (by kernel_rfl) (by kernel_rfl) (fun _ _ _ h => h) (Or.inl ⟨by rfl, ?_⟩) hS ?_
      rotate_left
      · (intro w hSw; (try dsimp only at hSw); go_simp; try with_reducible rfl)
      (try simp only [Act.put, List.setIfInBounds_toArray, List.set_cons_zero, List.set_cons_succ])
      refine wpAnyH_take (i := 4) (oi := ({ dst := some 34, op := Op.load 23 (Operand.tmp 33), type := 23, pos := "law.go:53", after := #[{ on := 3, ground := Ground.data }], guard := none } : Oper)) (v := ?_) rfl (by kernel_rfl) (by kernel_rfl) (by kernel_rfl) (fun _ _ _ h => h) (Or.inl ⟨by rfl, ?_⟩) hS ?_
      rotate_left
      · (intro w hSw; (try dsimp only at hSw); obtain ⟨x0, x1, y0, y1⟩ := HC.out; have x0' := cell_keep hSw x0; have x1' := cell_keep hSw x1; have y0' := cell_keep hSw y0; have y1' := cell_keep hSw y1; go_simp; try with_reducible rfl)
      (try simp only [Act.put, List.setIfInBounds_toArray, List.set_cons_zero, List.set_cons_succ])
      refine wpAnyH_take (i := 5) (oi := ({ dst := some 35, op := Op.indexAddr 23 (Operand.tmp 34) (Operand.const (Value.int IntKind.i64 0)), type := 0, pos := "law.go:53", after := #[{ on := 4, ground := Ground.data }], guard := none } : Oper)) (v := ?_) rfl (by kernel_rfl) (by kernel_rfl) (by kernel_rfl) (fun _ _ _ h => h) (Or.inl ⟨by rfl, ?_⟩) hS ?_
      rotate_left
      · (intro w hSw; (try dsimp only at hSw); go_simp; try with_reducible rfl)
      (try simp only [Act.put, List.setIfInBounds_toArray, List.set_cons_zero, List.set_cons_succ])
      refine wpAnyH_take (i := 6) (oi := ({ dst := some 36, op := Op.load 5 (Operand.tmp 35), type := 5, pos := "law.go:53", after := #[{ on := 5, ground := Ground.data }], guard := none } : Oper)) (v := ?_) rfl (by kernel_rfl) (by kernel_rfl) (by kernel_rfl) (fun _ _ _ h => h) (Or.inl ⟨by rfl, ?_⟩) hS ?_
      rotate_left
      · (intro w hSw; (try dsimp only at hSw); obtain ⟨x0, x1, y0, y1⟩ := HC.out; have x0' := cell_keep hSw x0; have x1' := cell_keep hSw x1; have y0' := cell_keep hSw y0; have y1' := cell_keep hSw y1; go_simp; try with_reducible rfl)
      (try simp only [Act.put, List.setIfInBounds_toArray, List.set_cons_zero, List.set_cons_succ])
      refine wpAnyH_take (i := 7) (oi := ({ dst := some 37, op := Op.move (Operand.tmp 5), type := 38, pos := "law.go:53", after := #[], guard := none } : Oper)) (v := ?_) rfl (by kernel_rfl) (by kernel_rfl) (by kernel_rfl) (fun _ _ _ h => h) (Or.inl ⟨by rfl, ?_⟩) hS ?_
      rotate_left
      · (intro w hSw; (try dsimp only at hSw); go_simp; try with_reducible rfl)
      (try simp only [Act.put, List.setIfInBounds_toArray, List.set_cons_zero, List.set_cons_succ])
      refine wpAnyH_take (i := 8) (oi := ({ dst := some 38, op := Op.move (Operand.tmp 6), type := 3, pos := "law.go:53", after := #[], guard := none } : Oper)) (v := ?_) rfl (by kernel_rfl) (by kernel_rfl) (by kernel_rfl) (fun _ _ _ h => h) (Or.inl ⟨by rfl, ?_⟩) hS ?_
      rotate_left
      · (intro w hSw; (try dsimp only at hSw); go_simp; try with_reducible rfl)
      (try simp only [Act.put, List.setIfInBounds_toArray, List.set_cons_zero, List.set_cons_succ])
      refine wpAnyH_take (i := 9) (oi := ({ dst := some 39, op := Op.binOp BinOp.sub 3 (Operand.tmp 38) (Operand.const (Value.int IntKind.i64 1)) 3, type := 3, pos := "law.go:53", after := #[{ on := 8, ground := Ground.data }], guard := none } : Oper)) (v := ?_) rfl (by kernel_rfl) (by kernel_rfl) (by kernel_rfl) (fun _ _ _ h => h) (Or.inl ⟨by rfl, ?_⟩) hS ?_
      rotate_left
      · (intro w hSw; (try dsimp only at hSw); go_simp; try with_reducible rfl)
      (try simp only [Act.put, List.setIfInBounds_toArray, List.set_cons_zero, List.set_cons_succ])
      refine wpAnyH_take (i := 10) (oi := ({ dst := some 40, op := Op.indexAddr 38 (Operand.tmp 37) (Operand.tmp 39), type := 0, pos := "law.go:53", after := #[{ on := 7, ground := Ground.data }, { on := 9, ground := Ground.data }], guard := none } : Oper)) (v := ?_) rfl (by kernel_rfl) (by kernel_rfl) (by kernel_rfl) (fun _ _ _ h => h) (Or.inl ⟨by rfl, ?_⟩) hS ?_
      rotate_left
      · (intro w hSw; (try dsimp only at hSw); go_simp; try with_reducible rfl)
      (try simp only [Act.put, List.setIfInBounds_toArray, List.set_cons_zero, List.set_cons_succ])
      refine wpAnyH_take (i := 11) (oi := ({ dst := some 41, op := Op.fieldAddr 25 (Operand.tmp 40) 0, type := 0, pos := "law.go:53", after := #[{ on := 10, ground := Ground.data }], guard := none } : Oper)) (v := ?_) rfl (by kernel_rfl) (by kernel_rfl) (by kernel_rfl) (fun _ _ _ h => h) (Or.inl ⟨by rfl, ?_⟩) hS ?_
      rotate_left
      · (intro w hSw; (try dsimp only at hSw); go_simp; try with_reducible rfl)
      (try simp only [Act.put, List.setIfInBounds_toArray, List.set_cons_zero, List.set_cons_succ])
      refine wpAnyH_take (i := 12) (oi := ({ dst := some 42, op := Op.load 23 (Operand.tmp 41), type := 23, pos := "law.go:53", after := #[{ on := 11, ground := Ground.data }], guard := none } : Oper)) (v := ?_) rfl (by kernel_rfl) (by kernel_rfl) (by kernel_rfl) (fun _ _ _ h => h) (Or.inl ⟨by rfl, ?_⟩) hS ?_
      rotate_left
      · (intro w hSw; (try dsimp only at hSw); obtain ⟨x0, x1, y0, y1⟩ := HC.out; have x0' := cell_keep hSw x0; have x1' := cell_keep hSw x1; have y0' := cell_keep hSw y0; have y1' := cell_keep hSw y1; go_simp; try with_reducible rfl)
      (try simp only [Act.put, List.setIfInBounds_toArray, List.set_cons_zero, List.set_cons_succ])
      refine wpAnyH_take (i := 13) (oi := ({ dst := some 43, op := Op.indexAddr 23 (Operand.tmp 42) (Operand.const (Value.int IntKind.i64 0)), type := 0, pos := "law.go:53", after := #[{ on := 12, ground := Ground.data }], guard := none } : Oper)) (v := ?_) rfl (by kernel_rfl) (by kernel_rfl) (by kernel_rfl) (fun _ _ _ h => h) (Or.inl ⟨by rfl, ?_⟩) hS ?_
      rotate_left
      · (intro w hSw; (try dsimp only at hSw); go_simp; try with_reducible rfl)
      (try simp only [Act.put, List.setIfInBounds_toArray, List.set_cons_zero, List.set_cons_succ])
      refine wpAnyH_take (i := 14) (oi := ({ dst := some 44, op := Op.load 5 (Operand.tmp 43), type := 5, pos := "law.go:53", after := #[{ on := 13, ground := Ground.data }], guard := none } : Oper)) (v := ?_) rfl (by kernel_rfl) (by kernel_rfl) (by kernel_rfl) (fun _ _ _ h => h) (Or.inl ⟨by rfl, ?_⟩) hS ?_
      rotate_left
      · (intro w hSw; (try dsimp only at hSw); obtain ⟨x0, x1, y0, y1⟩ := HC.out; have x0' := cell_keep hSw x0; have x1' := cell_keep hSw x1; have y0' := cell_keep hSw y0; have y1' := cell_keep hSw y1; go_simp; try with_reducible rfl)
      (try simp only [Act.put, List.setIfInBounds_toArray, List.set_cons_zero, List.set_cons_succ])
      refine wpAnyH_take (i := 15) (oi := ({ dst := some 45, op := Op.binOp BinOp.leq 5 (Operand.tmp 36) (Operand.tmp 44) 5, type := 4, pos := "law.go:53", after := #[{ on := 6, ground := Ground.data }, { on := 14, ground := Ground.data }], guard := none } : Oper)) (v := ?_) rfl (by kernel_rfl) (by kernel_rfl) (by kernel_rfl) (fun _ _ _ h => h) (Or.inl ⟨by rfl, ?_⟩) hS ?_
      rotate_left
      · (intro w hSw; (try dsimp only at hSw); go_simp; try with_reducible rfl)
      (try simp only [Act.put, List.setIfInBounds_toArray, List.set_cons_zero, List.set_cons_succ])
      refine wpAnyH_done (by kernel_rfl) ?_ _
      have HX2 := Lib.hid hS
      clear hS
      go_wp2
      go_roundw
      case rel => exact ⟨j + 1, by go_num, by omega, HX2⟩
      case measure => simp [intOf]; omega
    · have hq : j + 1 = m := by omega
      go_wp2_with (first
        | (go_at_call 6; (with_reducible refine (cawake_any hH.out _).mono ?_); rintro e w9 ⟨rfl, hb⟩; have HB9 := Lib.hid (chain HB1.out (chain HX.out hb)); clear hb))
      go_ret
      exact ⟨rfl, HB9.out⟩
end Go.Proofs.Ytdadeloojblekaa
