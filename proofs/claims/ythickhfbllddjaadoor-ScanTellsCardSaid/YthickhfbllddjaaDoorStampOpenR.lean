/-
  WHAT THE DOCUMENT'S ANSWERS OF LAYER 6 (stamp) ANSWER: the reference's Open.
-/
import Derived.Test.YthickhfbllddjaaDoorJ9
import Derived.Test.YthickhfbllddjaaDoorStampRoom
namespace Go.Proofs.YthickhfbllddjaaDoor
open Go.RowKit
set_option maxRecDepth 8000 in
set_option maxHeartbeats 1000000 in
theorem ropen_any (l : List Int) (hl : l.length = 64) (x i : Int) (hx : U64 x) (hi : I63 i) (w : World) (y : Bool) (hy : decide (sealed x i (l.drop 12) = l) = y) :
    Calls Tryd.prog 36 #[.agg (sv l), .int .u64 x, .int .i64 i] w fun e w' => ∃ v, e = .returned (.tuple #[v, .bool y]) ∧ RI .u8 w' v (if y then 52 else 0) (if y then l.drop 12 else []) ∧ Below w.heap.size w w' := by
  obtain ⟨w0, hw0⟩ : ∃ w0, w.alloc (.cells (sv l) 74) = w0 := ⟨_, rfl⟩
  have hb0 := below_alloc w (.cells (sv l) 74)
  have hk0 := Blk.new w l hl
  rw [hw0] at hb0 hk0
  have HK0 := Lib.hid hk0
  have HB0 := Lib.hid hb0
  have HL := Lib.hid hl
  have HW := Lib.hid hw0
  have HX := Lib.hid hx
  have HI := Lib.hid hi
  have HQ := Lib.hid (run_eq_sec (sealed x i (l.drop 12)) l (sealed_length _ _ _) hl)
  rw [hy] at HQ
  clear hk0 hb0 hl hw0 hx hi hy
  go_enter Tryd.func36, Tryd.ntmps36
  go_wp2
  rw [HW.out]
  refine wp_region_held_drew (S := (fun w' => Blk w' w.heap.size l ∧ Below w0.heap.size w0 w')) (by kernel_rfl) ⟨HK0.out, (Below.refl _ _).drew⟩ (fun hS => ?_)
  refine wpAnyH_take (i := 0) (oi := ({ dst := some 8, op := Op.move (Operand.tmp 1), type := 22, pos := "ref.go:43", after := #[], guard := none } : Oper)) (v := ?_) rfl (by kernel_rfl) (by kernel_rfl) (by kernel_rfl) (fun _ _ _ h => h) (Or.inl ⟨by rfl, ?_⟩) hS ?_
  rotate_left
  · (intro w hSw; (try dsimp only at hSw); go_simp; try with_reducible rfl)
  (try simp only [Act.put, List.setIfInBounds_toArray, List.set_cons_zero, List.set_cons_succ])
  refine wpAnyH_take (i := 1) (oi := ({ dst := some 9, op := Op.move (Operand.tmp 2), type := 3, pos := "ref.go:43", after := #[], guard := none } : Oper)) (v := ?_) rfl (by kernel_rfl) (by kernel_rfl) (by kernel_rfl) (fun _ _ _ h => h) (Or.inl ⟨by rfl, ?_⟩) hS ?_
  rotate_left
  · (intro w hSw; (try dsimp only at hSw); go_simp; try with_reducible rfl)
  (try simp only [Act.put, List.setIfInBounds_toArray, List.set_cons_zero, List.set_cons_succ])
  refine wpAnyH_take (i := 2) (oi := ({ dst := some 10, op := Op.load 74 (Operand.tmp 3), type := 74, pos := "ref.go:43", after := #[], guard := none } : Oper)) (v := ?_) rfl (by kernel_rfl) (by kernel_rfl) (by kernel_rfl) (fun _ _ _ h => h) (Or.inl ⟨by rfl, ?_⟩) hS ?_
  rotate_left
  · (intro w hSw; (try dsimp only at hSw); refine exec_load_sec (.tmp 3) ?_ ?_ hSw.1 <;> rfl)
  (try simp only [Act.put, List.setIfInBounds_toArray, List.set_cons_zero, List.set_cons_succ])
  refine wpAnyH_take (i := 5) (oi := ({ dst := some 13, op := Op.load 74 (Operand.tmp 3), type := 74, pos := "ref.go:43", after := #[], guard := none } : Oper)) (v := ?_) rfl (by kernel_rfl) (by kernel_rfl) (by kernel_rfl) (fun _ _ _ h => h) (Or.inl ⟨by rfl, ?_⟩) hS ?_
  rotate_left
  · (intro w hSw; (try dsimp only at hSw); refine exec_load_sec (.tmp 3) ?_ ?_ hSw.1 <;> rfl)
  (try simp only [Act.put, List.setIfInBounds_toArray, List.set_cons_zero, List.set_cons_succ])
  refine rg_one 3 ({ dst := some 11, op := Op.call { callee := Callee.value (Operand.func 55), args := #[Operand.tmp 10], argTypes := #[74] }, type := 38, pos := "ref.go:43", after := #[{ on := 2, ground := Ground.data }], guard := none } : Oper) (by kernel_rfl) rfl (fun K hK => ?_)
  go_simp
  (go_at_call 55; (with_reducible refine (rroom_any l HL.out _).mono ?_); rintro e w2 ⟨v, rfl, hr, hb⟩)
  refine hK.out _ _ ?_ (fun hS1 => ?_)
  · (first | exact hS | exact ⟨hS.1.keep hb, hS.2.trans (hb.mono hS.2.size)⟩)
  clear hK K hS; have hS := hS1; clear hS1
  (try simp only [Act.put, List.setIfInBounds_toArray, List.set_cons_zero, List.set_cons_succ])
  refine rg_one 4 ({ dst := some 12, op := Op.call { callee := Callee.value (Operand.func 54), args := #[Operand.tmp 8, Operand.tmp 9, Operand.tmp 11], argTypes := #[22, 3, 38] }, type := 74, pos := "ref.go:43", after := #[{ on := 0, ground := Ground.data }, { on := 1, ground := Ground.data }, { on := 3, ground := Ground.data }, { on := 3, ground := Ground.chain }], guard := none } : Oper) (by kernel_rfl) rfl (fun K hK => ?_)
  go_simp
  (go_at_call 54; (with_reducible refine (rseal_any x i HX.out HI.out v 52 (l.drop 12) _ hr).mono ?_); rintro e w3 ⟨rfl, hb⟩)
  refine hK.out _ _ ?_ (fun hS1 => ?_)
  · (first | exact hS | exact ⟨hS.1.keep hb, hS.2.trans (hb.mono hS.2.size)⟩)
  clear hK K hS; have hS := hS1; clear hS1
  (try simp only [Act.put, List.setIfInBounds_toArray, List.set_cons_zero, List.set_cons_succ])
  refine wpAnyH_take (i := 6) (oi := ({ dst := some 14, op := Op.binOp BinOp.neq 74 (Operand.tmp 12) (Operand.tmp 13) 74, type := 4, pos := "ref.go:43", after := #[{ on := 4, ground := Ground.data }, { on := 5, ground := Ground.data }], guard := none } : Oper)) (v := ?_) rfl (by kernel_rfl) (by kernel_rfl) (by kernel_rfl) (fun _ _ _ h => h) (Or.inl ⟨by rfl, ?_⟩) hS ?_
  rotate_left
  · (intro w hSw; (try dsimp only at hSw); have hq := HQ.out w; go_simp; try with_reducible rfl)
  (try simp only [Act.put, List.setIfInBounds_toArray, List.set_cons_zero, List.set_cons_succ])
  refine wpAnyH_done (by kernel_rfl) ?_ _
  cases y with
  | false =>
    go_wp2
    go_ret2
    exact ⟨_, rfl, RI.nil _ _, chain HB0.out hS.2⟩
  | true =>
    have HS := Lib.hid hS
    go_wp2_with (first
      | (refine wpList_load_row rfl 74 _ rfl w.heap.size rfl _ (sv l) (0, 0) _ HS.out.1.1 Tryd.underlying74 rfl (sv_info _ HL.out) ?_)
      | (go_at_call 55; (with_reducible refine (rroom_any l HL.out _).mono ?_); rintro e w4 ⟨v4, rfl, hr4, hb4⟩; have HR4 := Lib.hid hr4; have HB4 := Lib.hid hb4; clear hr4 hb4))
    go_ret2
    exact ⟨_, rfl, HR4.out, chain (chain HB0.out HS.out.2) HB4.out⟩
end Go.Proofs.YthickhfbllddjaaDoor
