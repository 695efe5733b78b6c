/-
  WHAT THE DOCUMENT'S ANSWERS OF LAYER 6 (stamp) ANSWER, further: the reference's Open, Secs, Same.
-/
import Derived.Test.YthomcemnkkbjoaaStampRef
namespace Go.Proofs.Ythomcemnkkbjoaa
open Go.RowKit
set_option maxRecDepth 8000 in
set_option maxHeartbeats 1000000 in
theorem ropen_any (l : List Int) (hl : l.length = 64) (x i : Int) (hx : U64 x) (hi : I63 i) (w : World) (y : Bool) (hy : decide (sealed x i (l.drop 12) = l) = y) :
    Calls Try.prog 12 #[.agg (sv l), .int .u64 x, .int .i64 i] w fun e w' => ∃ v, e = .returned (.tuple #[v, .bool y]) ∧ RI .u8 w' v (if y then 52 else 0) (if y then l.drop 12 else []) ∧ Below w.heap.size w w' := by
  obtain ⟨w0, hw0⟩ : ∃ w0, w.alloc (.cells (sv l) 27) = w0 := ⟨_, rfl⟩
  have hb0 := below_alloc w (.cells (sv l) 27)
  have hk0 := Blk.new w l hl
  rw [hw0] at hb0 hk0
  have HK0 := Lib.hid hk0
  have HB0 := Lib.hid hb0
  have HL := Lib.hid hl
  have HW := Lib.hid hw0
  have HX := Lib.hid hx
  have HI := Lib.hid hi
  have HQ := Lib.hid (run_eq_sec (sealed x i (l.drop 12)) l (sealed_length _ _ _) hl)
  rw [hy] at HQ
  clear hk0 hb0 hl hw0 hx hi hy
  go_enter Try.func12, Try.ntmps12
  go_wp2
  rw [HW.out]
  refine wp_region_held_drew (S := (fun w' => Blk w' w.heap.size l ∧ Below w0.heap.size w0 w')) (by kernel_rfl) ⟨HK0.out, (Below.refl _ _).drew⟩ (fun hS => ?_)
  refine wpAnyH_take (i := 0) (oi := ({ dst := some 8, op := Op.move (Operand.tmp 1), type := 22, pos := "ref.go:43", after := #[], guard := none } : Oper)) (v := ?_) rfl (by kernel_rfl) (by kernel_rfl) (by kernel_rfl) (fun _ _ _ h => h) (Or.inl ⟨by rfl, ?_⟩) hS ?_
  rotate_left
  · (intro w hSw; (try dsimp only at hSw); go_simp; try with_reducible rfl)
  (try simp only [Act.put, List.setIfInBounds_toArray, List.set_cons_zero, List.set_cons_succ])
  refine wpAnyH_take (i := 1) (oi := ({ dst := some 9, op := Op.move (Operand.tmp 2), type := 3, pos := "ref.go:43", after := #[], guard := none } : Oper)) (v := ?_) rfl (by kernel_rfl) (by kernel_rfl) (by kernel_rfl) (fun _ _ _ h => h) (Or.inl ⟨by rfl, ?_⟩) hS ?_
  rotate_left
  · (intro w hSw; (try dsimp only at hSw); go_simp; try with_reducible rfl)
  (try simp only [Act.put, List.setIfInBounds_toArray, List.set_cons_zero, List.set_cons_succ])
  refine wpAnyH_take (i := 2) (oi := ({ dst := some 10, op := Op.load 27 (Operand.tmp 3), type := 27, pos := "ref.go:43", after := #[], guard := none } : Oper)) (v := ?_) rfl (by kernel_rfl) (by kernel_rfl) (by kernel_rfl) (fun _ _ _ h => h) (Or.inl ⟨by rfl, ?_⟩) hS ?_
  rotate_left
  · (intro w hSw; (try dsimp only at hSw); refine exec_load_sec (.tmp 3) ?_ ?_ hSw.1 <;> rfl)
  (try simp only [Act.put, List.setIfInBounds_toArray, List.set_cons_zero, List.set_cons_succ])
  refine wpAnyH_take (i := 5) (oi := ({ dst := some 13, op := Op.load 27 (Operand.tmp 3), type := 27, pos := "ref.go:43", after := #[], guard := none } : Oper)) (v := ?_) rfl (by kernel_rfl) (by kernel_rfl) (by kernel_rfl) (fun _ _ _ h => h) (Or.inl ⟨by rfl, ?_⟩) hS ?_
  rotate_left
  · (intro w hSw; (try dsimp only at hSw); refine exec_load_sec (.tmp 3) ?_ ?_ hSw.1 <;> rfl)
  (try simp only [Act.put, List.setIfInBounds_toArray, List.set_cons_zero, List.set_cons_succ])
  refine rg_one 3 ({ dst := some 11, op := Op.call { callee := Callee.value (Operand.func 9), args := #[Operand.tmp 10], argTypes := #[27] }, type := 25, pos := "ref.go:43", after := #[{ on := 2, ground := Ground.data }], guard := none } : Oper) (by kernel_rfl) rfl (fun K hK => ?_)
  go_simp
  (go_at_call 9; (with_reducible refine (rroom_any l HL.out _).mono ?_); rintro e w2 ⟨v, rfl, hr, hb⟩)
  refine hK.out _ _ ?_ (fun hS1 => ?_)
  · (first | exact hS | exact ⟨hS.1.keep hb, hS.2.trans (hb.mono hS.2.size)⟩)
  clear hK K hS; have hS := hS1; clear hS1
  (try simp only [Act.put, List.setIfInBounds_toArray, List.set_cons_zero, List.set_cons_succ])
  refine rg_one 4 ({ dst := some 12, op := Op.call { callee := Callee.value (Operand.func 7), args := #[Operand.tmp 8, Operand.tmp 9, Operand.tmp 11], argTypes := #[22, 3, 25] }, type := 27, pos := "ref.go:43", after := #[{ on := 0, ground := Ground.data }, { on := 1, ground := Ground.data }, { on := 3, ground := Ground.data }, { on := 3, ground := Ground.chain }], guard := none } : Oper) (by kernel_rfl) rfl (fun K hK => ?_)
  go_simp
  (go_at_call 7; (with_reducible refine (rseal_any x i HX.out HI.out v 52 (l.drop 12) _ hr).mono ?_); rintro e w3 ⟨rfl, hb⟩)
  refine hK.out _ _ ?_ (fun hS1 => ?_)
  · (first | exact hS | exact ⟨hS.1.keep hb, hS.2.trans (hb.mono hS.2.size)⟩)
  clear hK K hS; have hS := hS1; clear hS1
  (try simp only [Act.put, List.setIfInBounds_toArray, List.set_cons_zero, List.set_cons_succ])
  refine wpAnyH_take (i := 6) (oi := ({ dst := some 14, op := Op.binOp BinOp.neq 27 (Operand.tmp 12) (Operand.tmp 13) 27, type := 4, pos := "ref.go:43", after := #[{ on := 4, ground := Ground.data }, { on := 5, ground := Ground.data }], guard := none } : Oper)) (v := ?_) rfl (by kernel_rfl) (by kernel_rfl) (by kernel_rfl) (fun _ _ _ h => h) (Or.inl ⟨by rfl, ?_⟩) hS ?_
  rotate_left
  · (intro w hSw; (try dsimp only at hSw); have hq := HQ.out w; go_simp; try with_reducible rfl)
  (try simp only [Act.put, List.setIfInBounds_toArray, List.set_cons_zero, List.set_cons_succ])
  refine wpAnyH_done (by kernel_rfl) ?_ _
  cases y with
  | false =>
    go_wp2
    go_ret2
    exact ⟨_, rfl, RI.nil _ _, chain HB0.out hS.2⟩
  | true =>
    have HS := Lib.hid hS
    go_wp2_with (first
      | (refine wpList_load_row rfl 27 _ rfl w.heap.size rfl _ (sv l) (0, 0) _ HS.out.1.1 Try.underlying27 rfl (sv_info _ HL.out) ?_)
      | (go_at_call 9; (with_reducible refine (rroom_any l HL.out _).mono ?_); rintro e w4 ⟨v4, rfl, hr4, hb4⟩; have HR4 := Lib.hid hr4; have HB4 := Lib.hid hb4; clear hr4 hb4))
    go_ret2
    exact ⟨_, rfl, HR4.out, chain (chain HB0.out HS.out.2) HB4.out⟩
/-- a slice of sectors: n sectors, their bytes ss, one behind the other in memory -/
def RS (w : World) (v : Value) (n : Nat) (ss : List (List Int)) : Prop :=
  ∃ a cap, v = .slice a n cap ∧ ss.length = n ∧ n ≤ cap ∧ cap ≤ 9223372036854775807 ∧ (∀ s ∈ ss, s.length = 64) ∧
    (0 < n → ∃ b off, a = some ⟨b, off, none⟩ ∧ ∀ j, j < n → ∀ k, k < 64 → w.cell? ⟨b, off + j * 64 + k, none⟩ = some (.int .u8 ((ss.getD j []).getD k 0)))
theorem RS.keep {w w' : World} (hb : Below w.heap.size w w') {v : Value} {n : Nat} {ss : List (List Int)} (h : RS w v n ss) : RS w' v n ss := by
  obtain ⟨a, cap, rfl, h1, h2, h3, h4, hc⟩ := h
  refine ⟨a, cap, rfl, h1, h2, h3, h4, fun h0 => ?_⟩
  obtain ⟨b, off, rfl, hcell⟩ := hc h0
  exact ⟨b, off, rfl, fun j hj k hk => cell_keep hb (hcell j hj k hk)⟩
theorem getD_memL {α : Type} {l : List α} {k : Nat} {d : α} (h : k < l.length) : l.getD k d ∈ l := by
  simp [List.getD, h]
set_option maxRecDepth 8000 in
set_option maxHeartbeats 1000000 in
theorem same_any (v1 v2 : Value) (n m : Nat) (ss ts : List (List Int)) (w : World) (h1 : RS w v1 n ss) (h2 : RS w v2 m ts) :
    Calls Try.prog 16 #[v1, v2] w fun e w' => e = .returned (.bool (decide (ss = ts))) ∧ Below w.heap.size w w' := by
  obtain ⟨a1, c1, rfl, hl1, hc1, hm1, hs1, hx1⟩ := h1
  obtain ⟨a2, c2, rfl, hl2, hc2, hm2, hs2, hx2⟩ := h2
  by_cases hnm : n = m
  · subst hnm
    have HX1 : Hid (∀ j, j < n → ∃ b off, a1 = some ⟨b, off, none⟩ ∧ At w b (off + j * 64) (ss.getD j [])) := fun j hj => by
      obtain ⟨b, off, e, h⟩ := hx1 (by omega)
      exact ⟨b, off, e, hs1 _ (getD_memL (by omega)), h j hj⟩
    have HX2 : Hid (∀ j, j < n → ∃ b off, a2 = some ⟨b, off, none⟩ ∧ At w b (off + j * 64) (ts.getD j [])) := fun j hj => by
      obtain ⟨b, off, e, h⟩ := hx2 (by omega)
      exact ⟨b, off, e, hs2 _ (getD_memL (by omega)), h j hj⟩
    have HL1 := Lib.hid hl1
    have HL2 := Lib.hid hl2
    have hn63 : (n : Int) ≤ 9223372036854775807 := by omega
    clear hx1 hx2 hs1 hs2 hl1 hl2
    go_enter Try.func16, Try.ntmps16
    go_wp2
    go_loopw [5] (fun iv wr => ∃ i : Nat, iv = .int .i64 i ∧ i ≤ n ∧ Hid (∀ j, j < i → ss.getD j [] = ts.getD j []) ∧ Hid (Below w.heap.size w wr)) (fun iv _ => n - (intOf iv).toNat)
    case atStart => exact ⟨0, rfl, by omega, fun j hj => absurd hj (by omega), Below.refl _ _⟩
    case round =>
      obtain ⟨i, rfl, hi, HE, HB⟩ := hrel
      by_cases hlt : (i : Int) < (n : Int)
      · obtain ⟨b1, off1, rfl, hat1⟩ := HX1.out i (by omega)
        obtain ⟨b2, off2, rfl, hat2⟩ := HX2.out i (by omega)
        obtain ⟨s, hs⟩ : ∃ s, ss.getD i [] = s := ⟨_, rfl⟩
        obtain ⟨t, ht⟩ : ∃ t, ts.getD i [] = t := ⟨_, rfl⟩
        rw [hs] at hat1
        rw [ht] at hat2
        have HA1 := Lib.hid hat1
        have HA2 := Lib.hid hat2
        have HQ := Lib.hid (run_eq_sec s t hat1.1 hat2.1)
        have HS := Lib.hid hs
        have HT := Lib.hid ht
        obtain ⟨y, hy⟩ : ∃ y, decide (s = t) = y := ⟨_, rfl⟩
        rw [hy] at HQ
        have HY := Lib.hid hy
        clear hat1 hat2 hs ht hy
        go_wp2_with fail
        refine wp_region_held_drew (S := (fun w' => Below w.heap.size w w')) (by kernel_rfl) HB.out.drew (fun hS => ?_)
        refine wpAnyH_take (i := 0) (oi := ({ dst := some 17, op := Op.move (Operand.tmp 0), type := 39, pos := "ref.go:67", after := #[], guard := none } : Oper)) (v := ?_) rfl (by kernel_rfl) (by kernel_rfl) (by kernel_rfl) (fun _ _ _ h => h) (Or.inl ⟨by rfl, ?_⟩) hS ?_
        rotate_left
        · (intro w hSw; (try dsimp only at hSw); go_simp; try with_reducible rfl)
        (try simp only [Act.put, List.setIfInBounds_toArray, List.set_cons_zero, List.set_cons_succ])
        refine wpAnyH_take (i := 1) (oi := ({ dst := some 18, op := Op.move (Operand.tmp 5), type := 3, pos := "ref.go:67", after := #[], guard := none } : Oper)) (v := ?_) rfl (by kernel_rfl) (by kernel_rfl) (by kernel_rfl) (fun _ _ _ h => h) (Or.inl ⟨by rfl, ?_⟩) hS ?_
        rotate_left
        · (intro w hSw; (try dsimp only at hSw); go_simp; try with_reducible rfl)
        (try simp only [Act.put, List.setIfInBounds_toArray, List.set_cons_zero, List.set_cons_succ])
        refine wpAnyH_take (i := 2) (oi := ({ dst := some 19, op := Op.indexAddr 39 (Operand.tmp 17) (Operand.tmp 18), type := 0, pos := "ref.go:67", after := #[{ on := 0, ground := Ground.data }, { on := 1, ground := Ground.data }], guard := none } : Oper)) (v := ?_) rfl (by kernel_rfl) (by kernel_rfl) (by kernel_rfl) (fun _ _ _ h => h) (Or.inl ⟨by rfl, ?_⟩) hS ?_
        rotate_left
        · (intro w hSw; (try dsimp only at hSw); go_simp; try with_reducible rfl)
        (try simp only [Act.put, List.setIfInBounds_toArray, List.set_cons_zero, List.set_cons_succ])
        refine wpAnyH_take (i := 3) (oi := ({ dst := some 20, op := Op.load 27 (Operand.tmp 19), type := 27, pos := "ref.go:67", after := #[{ on := 2, ground := Ground.data }], guard := none } : Oper)) (v := ?_) rfl (by kernel_rfl) (by kernel_rfl) (by kernel_rfl) (fun _ _ _ h => h) (Or.inl ⟨by rfl, ?_⟩) hS ?_
        rotate_left
        · (intro w hSw; (try dsimp only at hSw); refine exec_load_at (.tmp 19) ?_ ?_ (HA1.out.keep hSw) <;> rfl)
        (try simp only [Act.put, List.setIfInBounds_toArray, List.set_cons_zero, List.set_cons_succ])
        refine wpAnyH_take (i := 4) (oi := ({ dst := some 21, op := Op.move (Operand.tmp 1), type := 39, pos := "ref.go:67", after := #[], guard := none } : Oper)) (v := ?_) rfl (by kernel_rfl) (by kernel_rfl) (by kernel_rfl) (fun _ _ _ h => h) (Or.inl ⟨by rfl, ?_⟩) hS ?_
        rotate_left
        · (intro w hSw; (try dsimp only at hSw); go_simp; try with_reducible rfl)
        (try simp only [Act.put, List.setIfInBounds_toArray, List.set_cons_zero, List.set_cons_succ])
        refine wpAnyH_take (i := 5) (oi := ({ dst := some 22, op := Op.move (Operand.tmp 5), type := 3, pos := "ref.go:67", after := #[], guard := none } : Oper)) (v := ?_) rfl (by kernel_rfl) (by kernel_rfl) (by kernel_rfl) (fun _ _ _ h => h) (Or.inl ⟨by rfl, ?_⟩) hS ?_
        rotate_left
        · (intro w hSw; (try dsimp only at hSw); go_simp; try with_reducible rfl)
        (try simp only [Act.put, List.setIfInBounds_toArray, List.set_cons_zero, List.set_cons_succ])
        refine wpAnyH_take (i := 6) (oi := ({ dst := some 23, op := Op.indexAddr 39 (Operand.tmp 21) (Operand.tmp 22), type := 0, pos := "ref.go:67", after := #[{ on := 4, ground := Ground.data }, { on := 5, ground := Ground.data }], guard := none } : Oper)) (v := ?_) rfl (by kernel_rfl) (by kernel_rfl) (by kernel_rfl) (fun _ _ _ h => h) (Or.inl ⟨by rfl, ?_⟩) hS ?_
        rotate_left
        · (intro w hSw; (try dsimp only at hSw); go_simp; try with_reducible rfl)
        (try simp only [Act.put, List.setIfInBounds_toArray, List.set_cons_zero, List.set_cons_succ])
        refine wpAnyH_take (i := 7) (oi := ({ dst := some 24, op := Op.load 27 (Operand.tmp 23), type := 27, pos := "ref.go:67", after := #[{ on := 6, ground := Ground.data }], guard := none } : Oper)) (v := ?_) rfl (by kernel_rfl) (by kernel_rfl) (by kernel_rfl) (fun _ _ _ h => h) (Or.inl ⟨by rfl, ?_⟩) hS ?_
        rotate_left
        · (intro w hSw; (try dsimp only at hSw); refine exec_load_at (.tmp 23) ?_ ?_ (HA2.out.keep hSw) <;> rfl)
        (try simp only [Act.put, List.setIfInBounds_toArray, List.set_cons_zero, List.set_cons_succ])
        refine wpAnyH_take (i := 8) (oi := ({ dst := some 25, op := Op.binOp BinOp.neq 27 (Operand.tmp 20) (Operand.tmp 24) 27, type := 4, pos := "ref.go:67", after := #[{ on := 3, ground := Ground.data }, { on := 7, ground := Ground.data }], guard := none } : Oper)) (v := ?_) rfl (by kernel_rfl) (by kernel_rfl) (by kernel_rfl) (fun _ _ _ h => h) (Or.inl ⟨by rfl, ?_⟩) hS ?_
        rotate_left
        · (intro w hSw; (try dsimp only at hSw); have hq := HQ.out w; go_simp; try with_reducible rfl)
        (try simp only [Act.put, List.setIfInBounds_toArray, List.set_cons_zero, List.set_cons_succ])
        refine wpAnyH_done (by kernel_rfl) ?_ _
        have HB2 := Lib.hid hS
        clear hS
        cases y with
        | false =>
          go_wp2
          go_ret
          refine ⟨ret_bool ?_, HB2.out⟩
          rw [decide_eq_false]
          intro e
          have h1 := of_decide_eq_false HY.out
          exact h1 (by rw [← HS.out, ← HT.out, e])
        | true =>
          go_wp2
          go_roundw
          case rel =>
            refine ⟨i + 1, by go_num, by omega, Lib.hid (fun j hj => ?_), HB2⟩
            by_cases hji : j = i
            · subst hji; rw [HS.out, HT.out]; exact of_decide_eq_true HY.out
            · exact HE.out j (by omega)
          case measure => simp [intOf]; omega
      · have hq : i = n := by omega
        subst hq
        have HD := Lib.hid (show decide (ss = ts) = true from decide_eq_true (by
          have h1 := HL1.out
          have h2 := HL2.out
          refine List.ext_getElem (by omega) fun j h3 h4 => ?_
          have := HE.out j (by omega)
          simpa [List.getD, h3, h4] using this))
        go_wp2
        go_ret
        exact ⟨ret_bool (by rw [HD.out]), HB.out⟩
  · have hne : ¬ (n : Int) = (m : Int) := by omega
    have HN := Lib.hid (show decide (ss = ts) = false from decide_eq_false (fun h => hnm (by rw [← hl1, ← hl2, h])))
    clear hx1 hx2 hs1 hs2
    go_enter Try.func16, Try.ntmps16
    go_wp2
    go_ret
    exact ⟨ret_bool (by rw [HN.out]), Below.refl _ _⟩
/-- one byte more was stored -/
theorem secs_next {W w : World} {g q r i c : Nat} {zs : List Int} {z : Int} (ho : w.ownsRow W.heap.size 27 64 (.slice (some ⟨g, 0, none⟩) (q + 1) c) (q + 1) (il .u8 (zs.take i ++ List.replicate ((q + 1) * 64 - i) 0)))
    (hb : Below W.heap.size W w) (hg : W.heap.size ≤ g) (hqr : q * 64 + r = i) (hq : i / 64 = q) (hz : zs.getD i 0 = z) (hi : i < zs.length) :
    ((w.setCell ⟨g, q * 64 + r, none⟩ (.int .u8 z)).drew).ownsRow W.heap.size 27 64 (.slice (some ⟨g, 0, none⟩) (q + 1) c) ((i + 1 + 63) / 64) (il .u8 (padn (zs.take (i + 1)))) ∧
      Below W.heap.size W (w.setCell ⟨g, q * 64 + r, none⟩ (.int .u8 z)).drew := by
  refine ⟨?_, (hb.setCell hg _).drew⟩
  have h1 := (ho.stored (q * 64 + r) (.int .u8 z)).1
  rw [il_set, hqr, ← hz, ← hq, padn_step zs i hi, hq] at h1
  rw [hqr, ← hz, show (i + 1 + 63) / 64 = q + 1 from by omega]
  exact h1
set_option maxRecDepth 8000 in
set_option maxHeartbeats 1000000 in
theorem rsecs_any (v : Value) (len : Nat) (zs : List Int) (w : World) (hri : RI .u8 w v len zs) (hlen : (len : Int) ≤ 100000000000) :
    Calls Try.prog 17 #[v] w fun e w' => ∃ v', e = .returned v' ∧ FS w' v' ((len + 63) / 64) (padn zs) ∧ Below w.heap.size w w' := by
  have HR := Lib.hid hri
  have HL := Lib.hid hri.length
  have hlr := hri.le
  have HZ := Lib.hid z64_cells
  obtain ⟨a, cap, rfl, _⟩ := hri
  go_enter Try.func17, Try.ntmps17
  go_wp2
  go_loopw [3, 4] (fun x iv wr => ∃ i : Nat, iv = .int .i64 i ∧ i ≤ len ∧ Hid (wr.ownsRow w.heap.size 27 64 x ((i + 63) / 64) (il .u8 (padn (zs.take i)))) ∧ Hid (Below w.heap.size w wr)) (fun _ iv _ => len - (intOf iv).toNat)
  case atStart => exact ⟨0, rfl, by omega, Lib.hid (by simpa [padn, il] using World.ownsRow_nil _ _ _ _), Lib.hid (Below.refl _ _)⟩
  case round =>
    obtain ⟨i, rfl, hi, HO, HB⟩ := hrel
    by_cases hlt : (i : Int) < (len : Int)
    · obtain ⟨b, off, cp, e, _, _, hcell⟩ := HR.out.open_ (by omega)
      simp only [Value.slice.injEq, true_and] at e
      obtain ⟨rfl, rfl⟩ := e
      have hc1 := hcell i (by omega)
      obtain ⟨z, hz⟩ : ∃ z, zs.getD i 0 = z := ⟨_, rfl⟩
      rw [hz] at hc1
      have HC := Lib.hid hc1
      have HZI := Lib.hid hz
      have him : (i : Int).tmod 64 = ((i % 64 : Nat) : Int) := by rw [Int.tmod_eq_emod_of_nonneg (by omega)]; omega
      clear hz hcell hc1
      by_cases h0 : i % 64 = 0
      · have h0' : ((i % 64 : Nat) : Int) = 0 := by omega
        have HBW := Lib.hid (below_alloc wr (.cells (sv z64) 27))
        go_wp2_with (first
          | (at_builtin; rw [← HZ.out]; refine wpl_app_sec rfl (.tmp 14) (.tmp 16) rfl w.heap.size _ _ _ rfl (HO.out.alloc _) wr.heap.size z64 rfl (Blk.new wr z64 z64_length) (by omega) w.heap.size w (HB.out.alloc HB.out.size _) (Nat.le_refl _) (by have := HB.out.size; simp; omega) ?_; intro v' w3 HO3 HB3; rw [show z64 = List.replicate 64 0 from rfl, padn_more zs i (by rw [HL.out]; omega) h0] at HO3))
        rw [show (i + 63) / 64 = i / 64 from by omega] at HO3
        obtain ⟨q, hq⟩ : ∃ q, i / 64 = q := ⟨_, rfl⟩
        obtain ⟨r, hr⟩ : ∃ r, i % 64 = r := ⟨_, rfl⟩
        rw [hr] at him
        rw [hq] at HO3
        have hqr : q * 64 + r = i := by omega
        have hr64 : (r : Int) < 64 := by omega
        obtain ⟨g, cap', rfl, hg, hgc, hgm, hgs⟩ := own_form HO3.out (by omega)
        have hcS : w3.cell? ⟨g, q * 64 + r, none⟩ = some (.int .u8 ((zs.take i ++ List.replicate ((q + 1) * 64 - i) 0).getD (q * 64 + r) 0)) := by
          rw [HO3.out.cellAt _ (by omega), il_get _ _ _ (by have := HL.out; simp; omega)]
        have hfS : w3.frozen? ⟨g, q * 64 + r, none⟩ = false := HO3.out.frozenAt _
        have hcR := cell_keep HB3.out HC.out
        have HQ := Lib.hid hqr
        have HQ2 := Lib.hid hq
        have hq63 : (q : Int) + 1 ≤ 9223372036854775807 := by omega
        generalize hy : (zs.take i ++ List.replicate ((q + 1) * 64 - i) 0).getD (q * 64 + r) 0 = y at hcS
        clear h0 h0' hq hr hy hgs hgm hqr
        go_region
        have HF := Lib.hid (secs_next HO3.out HB3.out hg HQ.out HQ2.out HZI.out (by rw [HL.out]; omega))
        go_wp2
        go_roundw
        case rel => exact ⟨i + 1, by go_num, by omega, Lib.hid HF.out.1, Lib.hid HF.out.2⟩
        case measure => simp [intOf]; omega
      · have HO3 := HO
        have HB3 := HB
        rw [show (i + 63) / 64 = i / 64 + 1 from by omega, padn_same zs i (by rw [HL.out]; omega) h0] at HO3
        have h0' : ¬ ((i % 64 : Nat) : Int) = 0 := by omega
        go_wp2_with fail
        obtain ⟨q, hq⟩ : ∃ q, i / 64 = q := ⟨_, rfl⟩
        obtain ⟨r, hr⟩ : ∃ r, i % 64 = r := ⟨_, rfl⟩
        rw [hr] at him
        rw [hq] at HO3
        have hqr : q * 64 + r = i := by omega
        have hr64 : (r : Int) < 64 := by omega
        obtain ⟨g, cap', rfl, hg, hgc, hgm, hgs⟩ := own_form HO3.out (by omega)
        have hcS : wr.cell? ⟨g, q * 64 + r, none⟩ = some (.int .u8 ((zs.take i ++ List.replicate ((q + 1) * 64 - i) 0).getD (q * 64 + r) 0)) := by
          rw [HO3.out.cellAt _ (by omega), il_get _ _ _ (by have := HL.out; simp; omega)]
        have hfS : wr.frozen? ⟨g, q * 64 + r, none⟩ = false := HO3.out.frozenAt _
        have hcR := cell_keep HB3.out HC.out
        have HQ := Lib.hid hqr
        have HQ2 := Lib.hid hq
        have hq63 : (q : Int) + 1 ≤ 9223372036854775807 := by omega
        generalize hy : (zs.take i ++ List.replicate ((q + 1) * 64 - i) 0).getD (q * 64 + r) 0 = y at hcS
        clear h0 h0' hq hr hy hgs hgm hqr
        go_region
        have HF := Lib.hid (secs_next HO3.out HB3.out hg HQ.out HQ2.out HZI.out (by rw [HL.out]; omega))
        go_wp2
        go_roundw
        case rel => exact ⟨i + 1, by go_num, by omega, Lib.hid HF.out.1, Lib.hid HF.out.2⟩
        case measure => simp [intOf]; omega
    · have hq : i = len := by omega
      subst hq
      go_wp2
      go_ret
      refine ⟨_, rfl, ?_, HB.out⟩
      have h1 := FS.own HO.out
      rwa [List.take_of_length_le (by rw [HL.out]; omega)] at h1
theorem FS.rs {w : World} {v : Value} {n : Nat} {fs : List Int} (h : FS w v n fs) : RS w v n (chunks n fs) := by
  obtain ⟨a, cap, rfl, hl, h2, h3, _, hc⟩ := h
  refine ⟨a, cap, rfl, by simp [chunks], h2, h3, ?_, fun h0 => ?_⟩
  · intro s hs
    simp only [chunks, List.mem_map, List.mem_range] at hs
    obtain ⟨j, hj, rfl⟩ := hs
    simp; omega
  · obtain ⟨b, off, rfl, hcell⟩ := hc h0
    refine ⟨b, off, rfl, fun j hj k hk => ?_⟩
    rw [Nat.add_assoc, hcell (j * 64 + k) (by omega), chunks_get n fs j hj]
    simp only [List.getD, List.getElem?_take, hk, if_true, List.getElem?_drop]
theorem same_true (v1 v2 : Value) (n : Nat) (fs : List Int) (w : World) (h1 : FS w v1 n fs) (h2 : FS w v2 n fs) :
    Calls Try.prog 16 #[v1, v2] w fun e w' => e = .returned (.bool true) ∧ Below w.heap.size w w' := by
  have := same_any v1 v2 n n _ _ w h1.rs h2.rs
  rwa [decide_eq_true rfl] at this
end Go.Proofs.Ythomcemnkkbjoaa
