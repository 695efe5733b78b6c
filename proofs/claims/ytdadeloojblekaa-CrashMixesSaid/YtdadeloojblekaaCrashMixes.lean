/-
  THE WALK OF THE LAW CrashMixes, over CrashSays: whatever sectors and places come in: the call returns true and changes nothing that was there.
-/
import Derived.Test.YtdadeloojblekaaCrashSays
namespace Go.Proofs.Ytdadeloojblekaa
open Go.RowKit
theorem bitI_lt {kb : List Int} {i : Nat} (h : bitI kb (i : Int) = true) : i < kb.length * 8 := by
  unfold bitI at h
  simp only [Bool.and_eq_true, decide_eq_true_eq] at h
  omega
theorem keptN_bits (kb : List Int) (torn : Int) : ∀ k, keptN kb torn k ≤ kb.length * 8
  | 0 => Nat.zero_le _
  | k + 1 => by
    have h1 := keptN_bits kb torn k
    have h2 := keptN_le kb torn k
    unfold keptN
    split
    · rename_i h3
      have := bitI_lt h3.2
      omega
    · omega
set_option maxRecDepth 8000 in
set_option maxHeartbeats 4000000 in
theorem mixes_walk (H : CrashSays) (a b : List Int) (c0 c1 : Int) (ha : a.length = 64) (hb : b.length = 64) (hba : Bytes a) (hbb : Bytes b) (h0 : I63 c0) (h1 : I63 c1) (W : World) :
    Calls Try.prog 4 #[.agg (sv a), .agg (sv b), .agg #[.int .i64 c0, .int .i64 c1]] W fun e w' => e = .returned (.bool true) ∧ Below W.heap.size W w' := by
  have hH := Lib.hid H
  obtain ⟨m, hm⟩ : ∃ m, mixN a b (cutN c0) = m := ⟨_, rfl⟩
  have hml : m.length = 64 := by rw [← hm]; exact mixN_length _ _ _ ha hb (by unfold cutN; omega)
  have HML := Lib.hid hml
  have HM1 : Hid (∀ w, Calls Try.prog 13 #[.agg (sv a), .agg (sv b), .int .i64 c0] w fun e w' => e = .returned (.agg (sv m)) ∧ Below w.heap.size w w') := Lib.hid fun w => by
    have := H.mix a b c0 w ha hb hba hbb h0; rwa [hm] at this
  have HM2 : Hid (∀ w, Calls Try.prog 14 #[.agg (sv a), .agg (sv b), .int .i64 c0] w fun e w' => e = .returned (.agg (sv m)) ∧ Below w.heap.size w w') := Lib.hid fun w => by
    have := rmix_any a b c0 ha hb h0 w; rwa [hm] at this
  obtain ⟨kp, hkp⟩ : ∃ kp, keptN a c0 (lim c1 4096) = kp := ⟨_, rfl⟩
  have hk512 : (kp : Int) ≤ 512 := by have := keptN_bits a c0 (lim c1 4096); rw [hkp, ha] at this; omega
  have HKP : Hid (∀ w v, RI .u8 w v 64 a → Calls Try.prog 12 #[.agg #[v, .int .i64 c0, .int .i64 0], .int .i64 c1] w fun e w' => e = .returned (.int .i64 (kp : Int)) ∧ Below w.heap.size w w') := Lib.hid fun w v h => by
    have := H.kept v 64 a c0 0 c1 w h hba h0 (by unfold I63; omega) h1; rwa [hkp] at this
  have HQ := Lib.hid (run_eq_sec m m hml hml)
  rw [decide_eq_true rfl] at HQ
  obtain ⟨w0, hw0⟩ : ∃ w0, ((W.alloc (.cells (sv a) 31)).alloc (.cells (sv b) 31)).alloc (.cells #[.int .i64 c0, .int .i64 c1] 35) = w0 := ⟨_, rfl⟩
  have hs : Below W.heap.size W w0 ∧ Blk w0 W.heap.size a ∧ Blk w0 (W.heap.size + 1) b ∧ w0.cell? ⟨W.heap.size + 2, 0, none⟩ = some (.int .i64 c0) ∧ w0.cell? ⟨W.heap.size + 2, 1, none⟩ = some (.int .i64 c1) := by
    have k0 := Blk.new W a ha
    have s0 := alloc_size W (.cells (sv a) 31)
    have b0 := below_alloc W (.cells (sv a) 31)
    generalize W.alloc (.cells (sv a) 31) = u0 at *
    have k1 := Blk.new u0 b hb
    have s1 := alloc_size u0 (.cells (sv b) 31)
    have b1 := below_alloc u0 (.cells (sv b) 31)
    generalize u0.alloc (.cells (sv b) 31) = u1 at *
    have k2 := heap_alloc_last u1 (.cells #[.int .i64 c0, .int .i64 c1] 35)
    have b2 := below_alloc u1 (.cells #[.int .i64 c0, .int .i64 c1] 35)
    rw [hw0] at k2 b2
    rw [s0] at k1
    rw [s1, s0] at k2
    have hc := fun j => cell_of_row w0 (W.heap.size + 2) j _ _ _ k2
    exact ⟨chain (chain b0 b1) b2, (k0.keep b1).keep b2, k1.keep b2, hc 0, hc 1⟩
  obtain ⟨hB0, hA, hBB, z0, z1⟩ := hs
  have HB0 := Lib.hid hB0
  have HA := Lib.hid hA
  have HBK := Lib.hid hBB
  have HZ := Lib.hid (And.intro z0 z1)
  have HZZ := Lib.hid z64_cells
  have HAL := Lib.hid ha
  clear hm hkp hB0 hA hBB ha hb hml
  go_enter Try.func4, Try.ntmps4
  go_wp2_with (first
    | (rw [hw0])
    | (refine wpl_load_sec (by rfl) _ rfl W.heap.size rfl a HA.out ?_)
    | (refine wpl_load_sec (by rfl) _ rfl (W.heap.size + 1) rfl b HBK.out ?_)
    | (go_at_call 13; (with_reducible refine (HM1.out _).mono ?_); rintro e w1 ⟨rfl, hb⟩; have HB1 := Lib.hid hb; clear hb)
    | (rw [← HZZ.out]; refine wpl_store_new rfl _ _ rfl rfl w1.heap.size rfl m HML.out rfl rfl w0 HB1 ?_; intro w2 HK2 HB2 HB12))
  have HBX : Hid (Below w2.heap.size w2 w2.drew) := Lib.hid (Below.refl _ _).drew
  have HB02 : Hid (Below w0.heap.size w0 w2) := HB2
  have HA2 := Lib.hid (HA.out.keep HB02.out)
  have HBK2 := Lib.hid (HBK.out.keep HB02.out)
  have HZ2 := Lib.hid (And.intro (cell_keep HB02.out HZ.out.1) (cell_keep HB02.out HZ.out.2))
  have HRI : Hid (RI .u8 w2 (.slice (some ⟨W.heap.size, 0, none⟩) 64 64) 64 a) := Lib.hid (by
    have := HA2.out.ri 0 64 64 (by omega) (by omega) (by omega)
    rwa [List.drop_zero, List.take_of_length_le (by rw [HAL.out]; omega)] at this)
  clear hw0 z0 z1
  refine wp_region_held_drew (S := (fun W' => Below w2.heap.size w2 W')) (by kernel_rfl) HBX.out (fun hS => ?_)
  refine wpAnyH_take (i := 0) (oi := ({ dst := some 13, op := Op.load 31 (Operand.tmp 7), type := 31, pos := "law.go:43", after := #[], guard := none } : Oper)) (v := ?_) rfl (by kernel_rfl) (by kernel_rfl) (by kernel_rfl) (fun _ _ _ h => h) (Or.inl ⟨by rfl, ?_⟩) hS ?_
  rotate_left
  · (intro w hSw; (try dsimp only at hSw); refine exec_load_sec (.tmp 7) ?_ ?_ (HK2.out.keep hSw) <;> rfl)
  (try simp only [Act.put, List.setIfInBounds_toArray, List.set_cons_zero, List.set_cons_succ])
  refine wpAnyH_take (i := 1) (oi := ({ dst := some 14, op := Op.load 31 (Operand.tmp 3), type := 31, pos := "law.go:43", after := #[], guard := none } : Oper)) (v := ?_) rfl (by kernel_rfl) (by kernel_rfl) (by kernel_rfl) (fun _ _ _ h => h) (Or.inl ⟨by rfl, ?_⟩) hS ?_
  rotate_left
  · (intro w hSw; (try dsimp only at hSw); refine exec_load_sec (.tmp 3) ?_ ?_ (HA2.out.keep hSw) <;> rfl)
  (try simp only [Act.put, List.setIfInBounds_toArray, List.set_cons_zero, List.set_cons_succ])
  refine wpAnyH_take (i := 2) (oi := ({ dst := some 15, op := Op.load 31 (Operand.tmp 4), type := 31, pos := "law.go:43", after := #[], guard := none } : Oper)) (v := ?_) rfl (by kernel_rfl) (by kernel_rfl) (by kernel_rfl) (fun _ _ _ h => h) (Or.inl ⟨by rfl, ?_⟩) hS ?_
  rotate_left
  · (intro w hSw; (try dsimp only at hSw); refine exec_load_sec (.tmp 4) ?_ ?_ (HBK2.out.keep hSw) <;> rfl)
  (try simp only [Act.put, List.setIfInBounds_toArray, List.set_cons_zero, List.set_cons_succ])
  refine wpAnyH_take (i := 3) (oi := ({ dst := some 16, op := Op.indexAddr 35 (Operand.tmp 5) (Operand.const (Value.int IntKind.i64 0)), type := 0, pos := "law.go:43", after := #[], guard := none } : Oper)) (v := ?_) rfl (by kernel_rfl) (by kernel_rfl) (by kernel_rfl) (fun _ _ _ h => h) (Or.inl ⟨by rfl, ?_⟩) hS ?_
  rotate_left
  · (intro w hSw; (try dsimp only at hSw); go_simp; try with_reducible rfl)
  (try simp only [Act.put, List.setIfInBounds_toArray, List.set_cons_zero, List.set_cons_succ])
  refine wpAnyH_take (i := 4) (oi := ({ dst := some 17, op := Op.load 3 (Operand.tmp 16), type := 3, pos := "law.go:43", after := #[{ on := 3, ground := Ground.data }], guard := none } : Oper)) (v := ?_) rfl (by kernel_rfl) (by kernel_rfl) (by kernel_rfl) (fun _ _ _ h => h) (Or.inl ⟨by rfl, ?_⟩) hS ?_
  rotate_left
  · (intro w hSw; (try dsimp only at hSw); have y0 := cell_keep hSw HZ2.out.1; have y1 := cell_keep hSw HZ2.out.2; go_simp; try with_reducible rfl)
  (try simp only [Act.put, List.setIfInBounds_toArray, List.set_cons_zero, List.set_cons_succ])
  refine rg_one 5 ({ dst := some 18, op := Op.call { callee := Callee.value (Operand.func 14), args := #[Operand.tmp 14, Operand.tmp 15, Operand.tmp 17], argTypes := #[31, 31, 3] }, type := 31, pos := "law.go:43", after := #[{ on := 1, ground := Ground.data }, { on := 2, ground := Ground.data }, { on := 4, ground := Ground.data }], guard := none } : Oper) (by kernel_rfl) rfl (fun K hK => ?_)
  go_simp
  (go_at_call 14; (with_reducible refine (HM2.out _).mono ?_); rintro e w3 ⟨rfl, hb⟩; have HB3 := Lib.hid (chain HBX.out hb))
  refine hK.out _ _ ?_ (fun hS1 => ?_)
  · (first | exact hS | exact chain hS hb)
  clear hK K hS; have hS := hS1; clear hS1
  (try simp only [Act.put, List.setIfInBounds_toArray, List.set_cons_zero, List.set_cons_succ])
  refine wpAnyH_take (i := 6) (oi := ({ dst := some 19, op := Op.binOp BinOp.eql 31 (Operand.tmp 13) (Operand.tmp 18) 31, type := 4, pos := "law.go:43", after := #[{ on := 0, ground := Ground.data }, { on := 5, ground := Ground.data }], guard := none } : Oper)) (v := ?_) rfl (by kernel_rfl) (by kernel_rfl) (by kernel_rfl) (fun _ _ _ h => h) (Or.inl ⟨by rfl, ?_⟩) hS ?_
  rotate_left
  · (intro w hSw; (try dsimp only at hSw); have hq := HQ.out w; go_simp; try with_reducible rfl)
  (try simp only [Act.put, List.setIfInBounds_toArray, List.set_cons_zero, List.set_cons_succ])
  refine wpAnyH_take (i := 7) (oi := ({ dst := some 20, op := Op.move (Operand.tmp 19), type := 4, pos := "law.go:43", after := #[{ on := 6, ground := Ground.data }, { on := 5, ground := Ground.chain }], guard := none } : Oper)) (v := ?_) rfl (by kernel_rfl) (by kernel_rfl) (by kernel_rfl) (fun _ _ _ h => h) (Or.inl ⟨by rfl, ?_⟩) hS ?_
  rotate_left
  · (intro w hSw; (try dsimp only at hSw); go_simp; try with_reducible rfl)
  (try simp only [Act.put, List.setIfInBounds_toArray, List.set_cons_zero, List.set_cons_succ])
  refine wpAnyH_take (i := 8) (oi := ({ dst := some 21, op := Op.slice 31 (Operand.tmp 3) none none none, type := 23, pos := "law.go:43", after := #[{ on := 7, ground := Ground.guard }], guard := some (7, true) } : Oper)) (v := ?_) rfl (by kernel_rfl) (by kernel_rfl) (by kernel_rfl) (fun _ _ _ h => h) (Or.inl ⟨by rfl, ?_⟩) hS ?_
  rotate_left
  · (intro w hSw; (try dsimp only at hSw); go_simp; try with_reducible rfl)
  (try simp only [Act.put, List.setIfInBounds_toArray, List.set_cons_zero, List.set_cons_succ])
  refine wpAnyH_take (i := 9) (oi := ({ dst := some 22, op := Op.indexAddr 35 (Operand.tmp 5) (Operand.const (Value.int IntKind.i64 0)), type := 0, pos := "law.go:43", after := #[{ on := 7, ground := Ground.guard }], guard := some (7, true) } : Oper)) (v := ?_) rfl (by kernel_rfl) (by kernel_rfl) (by kernel_rfl) (fun _ _ _ h => h) (Or.inl ⟨by rfl, ?_⟩) hS ?_
  rotate_left
  · (intro w hSw; (try dsimp only at hSw); go_simp; try with_reducible rfl)
  (try simp only [Act.put, List.setIfInBounds_toArray, List.set_cons_zero, List.set_cons_succ])
  refine wpAnyH_take (i := 10) (oi := ({ dst := some 23, op := Op.load 3 (Operand.tmp 22), type := 3, pos := "law.go:43", after := #[{ on := 9, ground := Ground.data }, { on := 7, ground := Ground.guard }], guard := some (7, true) } : Oper)) (v := ?_) rfl (by kernel_rfl) (by kernel_rfl) (by kernel_rfl) (fun _ _ _ h => h) (Or.inl ⟨by rfl, ?_⟩) hS ?_
  rotate_left
  · (intro w hSw; (try dsimp only at hSw); have y0 := cell_keep hSw HZ2.out.1; have y1 := cell_keep hSw HZ2.out.2; go_simp; try with_reducible rfl)
  (try simp only [Act.put, List.setIfInBounds_toArray, List.set_cons_zero, List.set_cons_succ])
  refine wpAnyH_take (i := 11) (oi := ({ dst := some 24, op := Op.build 25 #[(0, Operand.tmp 21), (1, Operand.tmp 23)], type := 25, pos := "law.go:43", after := #[{ on := 8, ground := Ground.data }, { on := 10, ground := Ground.data }, { on := 7, ground := Ground.guard }], guard := some (7, true) } : Oper)) (v := ?_) rfl (by kernel_rfl) (by kernel_rfl) (by kernel_rfl) (fun _ _ _ h => h) (Or.inl ⟨by rfl, ?_⟩) hS ?_
  rotate_left
  · (intro w hSw; (try dsimp only at hSw); go_simp; try with_reducible rfl)
  (try simp only [Act.put, List.setIfInBounds_toArray, List.set_cons_zero, List.set_cons_succ])
  refine wpAnyH_take (i := 12) (oi := ({ dst := some 25, op := Op.indexAddr 35 (Operand.tmp 5) (Operand.const (Value.int IntKind.i64 1)), type := 0, pos := "law.go:43", after := #[{ on := 7, ground := Ground.guard }], guard := some (7, true) } : Oper)) (v := ?_) rfl (by kernel_rfl) (by kernel_rfl) (by kernel_rfl) (fun _ _ _ h => h) (Or.inl ⟨by rfl, ?_⟩) hS ?_
  rotate_left
  · (intro w hSw; (try dsimp only at hSw); go_simp; try with_reducible rfl)
  (try simp only [Act.put, List.setIfInBounds_toArray, List.set_cons_zero, List.set_cons_succ])
  refine wpAnyH_take (i := 13) (oi := ({ dst := some 26, op := Op.load 3 (Operand.tmp 25), type := 3, pos := "law.go:43", after := #[{ on := 12, ground := Ground.data }, { on := 7, ground := Ground.guard }], guard := some (7, true) } : Oper)) (v := ?_) rfl (by kernel_rfl) (by kernel_rfl) (by kernel_rfl) (fun _ _ _ h => h) (Or.inl ⟨by rfl, ?_⟩) hS ?_
  rotate_left
  · (intro w hSw; (try dsimp only at hSw); have y0 := cell_keep hSw HZ2.out.1; have y1 := cell_keep hSw HZ2.out.2; go_simp; try with_reducible rfl)
  (try simp only [Act.put, List.setIfInBounds_toArray, List.set_cons_zero, List.set_cons_succ])
  refine rg_one 14 ({ dst := some 27, op := Op.call { callee := Callee.value (Operand.func 12), args := #[Operand.tmp 24, Operand.tmp 26], argTypes := #[25, 3] }, type := 3, pos := "law.go:43", after := #[{ on := 11, ground := Ground.data }, { on := 13, ground := Ground.data }, { on := 7, ground := Ground.chain }, { on := 7, ground := Ground.guard }], guard := some (7, true) } : Oper) (by kernel_rfl) rfl (fun K hK => ?_)
  go_simp
  (go_at_call 12; (with_reducible refine (HKP.out _ _ (HRI.out.keep HB3.out)).mono ?_); rintro e w4 ⟨rfl, hb⟩)
  refine hK.out _ _ ?_ (fun hS1 => ?_)
  · (first | exact hS | exact chain hS hb)
  clear hK K hS; have hS := hS1; clear hS1
  (try simp only [Act.put, List.setIfInBounds_toArray, List.set_cons_zero, List.set_cons_succ])
  refine wpAnyH_take (i := 15) (oi := ({ dst := some 28, op := Op.binOp BinOp.leq 3 (Operand.tmp 27) (Operand.const (Value.int IntKind.i64 512)) 3, type := 4, pos := "law.go:43", after := #[{ on := 14, ground := Ground.data }, { on := 7, ground := Ground.guard }], guard := some (7, true) } : Oper)) (v := ?_) rfl (by kernel_rfl) (by kernel_rfl) (by kernel_rfl) (fun _ _ _ h => h) (Or.inl ⟨by rfl, ?_⟩) hS ?_
  rotate_left
  · (intro w hSw; (try dsimp only at hSw); go_simp; try with_reducible rfl)
  (try simp only [Act.put, List.setIfInBounds_toArray, List.set_cons_zero, List.set_cons_succ])
  refine wpAnyH_take (i := 16) (oi := ({ dst := some 29, op := Op.pick (Operand.tmp 20) (Operand.tmp 28) (Operand.const (Value.bool false)), type := 4, pos := "law.go:43", after := #[{ on := 7, ground := Ground.data }, { on := 15, ground := Ground.data }], guard := none } : Oper)) (v := ?_) rfl (by kernel_rfl) (by kernel_rfl) (by kernel_rfl) (fun _ _ _ h => h) (Or.inl ⟨by rfl, ?_⟩) hS ?_
  rotate_left
  · (intro w hSw; (try dsimp only at hSw); go_simp; try with_reducible rfl)
  (try simp only [Act.put, List.setIfInBounds_toArray, List.set_cons_zero, List.set_cons_succ])
  refine wpAnyH_take (i := 17) (oi := ({ dst := some 30, op := Op.move (Operand.tmp 29), type := 4, pos := "law.go:43", after := #[{ on := 16, ground := Ground.data }, { on := 14, ground := Ground.chain }], guard := none } : Oper)) (v := ?_) rfl (by kernel_rfl) (by kernel_rfl) (by kernel_rfl) (fun _ _ _ h => h) (Or.inl ⟨by rfl, ?_⟩) hS ?_
  rotate_left
  · (intro w hSw; (try dsimp only at hSw); go_simp; try with_reducible rfl)
  (try simp only [Act.put, List.setIfInBounds_toArray, List.set_cons_zero, List.set_cons_succ])
  refine rg_one 18 ({ dst := some 31, op := Op.call { callee := Callee.value (Operand.func 6), args := #[], argTypes := #[] }, type := 4, pos := "law.go:43", after := #[{ on := 17, ground := Ground.chain }, { on := 17, ground := Ground.guard }], guard := some (17, true) } : Oper) (by kernel_rfl) rfl (fun K hK => ?_)
  go_simp
  (go_at_call 6; (with_reducible refine (cawake_any hH.out _).mono ?_); rintro e w5 ⟨rfl, hb⟩)
  refine hK.out _ _ ?_ (fun hS1 => ?_)
  · (first | exact hS | exact chain hS hb)
  clear hK K hS; have hS := hS1; clear hS1
  (try simp only [Act.put, List.setIfInBounds_toArray, List.set_cons_zero, List.set_cons_succ])
  refine wpAnyH_take (i := 19) (oi := ({ dst := some 32, op := Op.pick (Operand.tmp 30) (Operand.tmp 31) (Operand.const (Value.bool false)), type := 4, pos := "law.go:43", after := #[{ on := 17, ground := Ground.data }, { on := 18, ground := Ground.data }], guard := none } : Oper)) (v := ?_) rfl (by kernel_rfl) (by kernel_rfl) (by kernel_rfl) (fun _ _ _ h => h) (Or.inl ⟨by rfl, ?_⟩) hS ?_
  rotate_left
  · (intro w hSw; (try dsimp only at hSw); go_simp; try with_reducible rfl)
  (try simp only [Act.put, List.setIfInBounds_toArray, List.set_cons_zero, List.set_cons_succ])
  refine wpAnyH_take (i := 20) (oi := ({ dst := some 6, op := Op.assign (Operand.tmp 32), type := 4, pos := "law.go:43", after := #[{ on := 19, ground := Ground.data }, { on := 18, ground := Ground.chain }, { on := 0, ground := Ground.phase }, { on := 1, ground := Ground.phase }, { on := 2, ground := Ground.phase }, { on := 3, ground := Ground.phase }, { on := 4, ground := Ground.phase }, { on := 5, ground := Ground.phase }, { on := 6, ground := Ground.phase }, { on := 7, ground := Ground.phase }, { on := 8, ground := Ground.phase }, { on := 9, ground := Ground.phase }, { on := 10, ground := Ground.phase }, { on := 11, ground := Ground.phase }, { on := 12, ground := Ground.phase }, { on := 13, ground := Ground.phase }, { on := 14, ground := Ground.phase }, { on := 15, ground := Ground.phase }, { on := 16, ground := Ground.phase }, { on := 17, ground := Ground.phase }, { on := 18, ground := Ground.phase }, { on := 19, ground := Ground.phase }], guard := none } : Oper)) (v := ?_) rfl (by kernel_rfl) (by kernel_rfl) (by kernel_rfl) (fun _ _ _ h => h) (Or.inl ⟨by rfl, ?_⟩) hS ?_
  rotate_left
  · (intro w hSw; (try dsimp only at hSw); go_simp; try with_reducible rfl)
  (try simp only [Act.put, List.setIfInBounds_toArray, List.set_cons_zero, List.set_cons_succ])
  refine wpAnyH_done (by kernel_rfl) ?_ _
  have HB5 := Lib.hid (chain HB0.out (chain HB02.out hS))
  clear hS
  go_wp2
  go_ret
  exact ⟨rfl, HB5.out⟩
end Go.Proofs.Ytdadeloojblekaa
