/-
  WHAT THE DOCUMENT'S ANSWERS OF LAYER 6 (stamp) ANSWER: the reference's Same alone (for the layers behind it). No condition.
-/
import Derived.Test.YtjlnceldnbpapaaDoorSecs
import Derived.Test.YtjlnceldnbpapaaDoorRegion
namespace Go.Proofs.YtjlnceldnbpapaaDoor
open Go.RowKit
/-- a slice of sectors: n sectors, their bytes ss, one behind the other in memory -/
def RS (w : World) (v : Value) (n : Nat) (ss : List (List Int)) : Prop :=
  ∃ a cap, v = .slice a n cap ∧ ss.length = n ∧ n ≤ cap ∧ cap ≤ 9223372036854775807 ∧ (∀ s ∈ ss, s.length = 64) ∧
    (0 < n → ∃ b off, a = some ⟨b, off, none⟩ ∧ ∀ j, j < n → ∀ k, k < 64 → w.cell? ⟨b, off + j * 64 + k, none⟩ = some (.int .u8 ((ss.getD j []).getD k 0)))
theorem RS.keep {w w' : World} (hb : Below w.heap.size w w') {v : Value} {n : Nat} {ss : List (List Int)} (h : RS w v n ss) : RS w' v n ss := by
  obtain ⟨a, cap, rfl, h1, h2, h3, h4, hc⟩ := h
  refine ⟨a, cap, rfl, h1, h2, h3, h4, fun h0 => ?_⟩
  obtain ⟨b, off, rfl, hcell⟩ := hc h0
  exact ⟨b, off, rfl, fun j hj k hk => cell_keep hb (hcell j hj k hk)⟩
theorem getD_memL {α : Type} {l : List α} {k : Nat} {d : α} (h : k < l.length) : l.getD k d ∈ l := by
  simp [List.getD, h]
set_option maxRecDepth 8000 in
set_option maxHeartbeats 1000000 in
theorem same_any (v1 v2 : Value) (n m : Nat) (ss ts : List (List Int)) (w : World) (h1 : RS w v1 n ss) (h2 : RS w v2 m ts) :
    Calls Tryd.prog 13 #[v1, v2] w fun e w' => e = .returned (.bool (decide (ss = ts))) ∧ Below w.heap.size w w' := by
  obtain ⟨a1, c1, rfl, hl1, hc1, hm1, hs1, hx1⟩ := h1
  obtain ⟨a2, c2, rfl, hl2, hc2, hm2, hs2, hx2⟩ := h2
  by_cases hnm : n = m
  · subst hnm
    have HX1 : Hid (∀ j, j < n → ∃ b off, a1 = some ⟨b, off, none⟩ ∧ At w b (off + j * 64) (ss.getD j [])) := fun j hj => by
      obtain ⟨b, off, e, h⟩ := hx1 (by omega)
      exact ⟨b, off, e, hs1 _ (getD_memL (by omega)), h j hj⟩
    have HX2 : Hid (∀ j, j < n → ∃ b off, a2 = some ⟨b, off, none⟩ ∧ At w b (off + j * 64) (ts.getD j [])) := fun j hj => by
      obtain ⟨b, off, e, h⟩ := hx2 (by omega)
      exact ⟨b, off, e, hs2 _ (getD_memL (by omega)), h j hj⟩
    have HL1 := Lib.hid hl1
    have HL2 := Lib.hid hl2
    have hn63 : (n : Int) ≤ 9223372036854775807 := by omega
    clear hx1 hx2 hs1 hs2 hl1 hl2
    go_enter Tryd.func13, Tryd.ntmps13
    go_wp2
    go_loopw [5] (fun iv wr => ∃ i : Nat, iv = .int .i64 i ∧ i ≤ n ∧ Hid (∀ j, j < i → ss.getD j [] = ts.getD j []) ∧ Hid (Below w.heap.size w wr)) (fun iv _ => n - (intOf iv).toNat)
    case atStart => exact ⟨0, rfl, by omega, fun j hj => absurd hj (by omega), Below.refl _ _⟩
    case round =>
      obtain ⟨i, rfl, hi, HE, HB⟩ := hrel
      by_cases hlt : (i : Int) < (n : Int)
      · obtain ⟨b1, off1, rfl, hat1⟩ := HX1.out i (by omega)
        obtain ⟨b2, off2, rfl, hat2⟩ := HX2.out i (by omega)
        obtain ⟨s, hs⟩ : ∃ s, ss.getD i [] = s := ⟨_, rfl⟩
        obtain ⟨t, ht⟩ : ∃ t, ts.getD i [] = t := ⟨_, rfl⟩
        rw [hs] at hat1
        rw [ht] at hat2
        have HA1 := Lib.hid hat1
        have HA2 := Lib.hid hat2
        have HQ := Lib.hid (run_eq_sec s t hat1.1 hat2.1)
        have HS := Lib.hid hs
        have HT := Lib.hid ht
        obtain ⟨y, hy⟩ : ∃ y, decide (s = t) = y := ⟨_, rfl⟩
        rw [hy] at HQ
        have HY := Lib.hid hy
        clear hat1 hat2 hs ht hy
        go_wp2_with fail
        refine wp_region_held_drew (S := (fun w' => Below w.heap.size w w')) (by kernel_rfl) HB.out.drew (fun hS => ?_)
        refine wpAnyH_take (i := 0) (oi := ({ dst := some 17, op := Op.move (Operand.tmp 0), type := 34, pos := "ref.go:67", after := #[], guard := none } : Oper)) (v := ?_) rfl (by kernel_rfl) (by kernel_rfl) (by kernel_rfl) (fun _ _ _ h => h) (Or.inl ⟨by rfl, ?_⟩) hS ?_
        rotate_left
        · (intro w hSw; (try dsimp only at hSw); go_simp; try with_reducible rfl)
        (try simp only [Act.put, List.setIfInBounds_toArray, List.set_cons_zero, List.set_cons_succ])
        refine wpAnyH_take (i := 1) (oi := ({ dst := some 18, op := Op.move (Operand.tmp 5), type := 3, pos := "ref.go:67", after := #[], guard := none } : Oper)) (v := ?_) rfl (by kernel_rfl) (by kernel_rfl) (by kernel_rfl) (fun _ _ _ h => h) (Or.inl ⟨by rfl, ?_⟩) hS ?_
        rotate_left
        · (intro w hSw; (try dsimp only at hSw); go_simp; try with_reducible rfl)
        (try simp only [Act.put, List.setIfInBounds_toArray, List.set_cons_zero, List.set_cons_succ])
        refine wpAnyH_take (i := 2) (oi := ({ dst := some 19, op := Op.indexAddr 34 (Operand.tmp 17) (Operand.tmp 18), type := 0, pos := "ref.go:67", after := #[{ on := 0, ground := Ground.data }, { on := 1, ground := Ground.data }], guard := none } : Oper)) (v := ?_) rfl (by kernel_rfl) (by kernel_rfl) (by kernel_rfl) (fun _ _ _ h => h) (Or.inl ⟨by rfl, ?_⟩) hS ?_
        rotate_left
        · (intro w hSw; (try dsimp only at hSw); go_simp; try with_reducible rfl)
        (try simp only [Act.put, List.setIfInBounds_toArray, List.set_cons_zero, List.set_cons_succ])
        refine wpAnyH_take (i := 3) (oi := ({ dst := some 20, op := Op.load 53 (Operand.tmp 19), type := 53, pos := "ref.go:67", after := #[{ on := 2, ground := Ground.data }], guard := none } : Oper)) (v := ?_) rfl (by kernel_rfl) (by kernel_rfl) (by kernel_rfl) (fun _ _ _ h => h) (Or.inl ⟨by rfl, ?_⟩) hS ?_
        rotate_left
        · (intro w hSw; (try dsimp only at hSw); refine exec_load_at (.tmp 19) ?_ ?_ (HA1.out.keep hSw) <;> rfl)
        (try simp only [Act.put, List.setIfInBounds_toArray, List.set_cons_zero, List.set_cons_succ])
        refine wpAnyH_take (i := 4) (oi := ({ dst := some 21, op := Op.move (Operand.tmp 1), type := 34, pos := "ref.go:67", after := #[], guard := none } : Oper)) (v := ?_) rfl (by kernel_rfl) (by kernel_rfl) (by kernel_rfl) (fun _ _ _ h => h) (Or.inl ⟨by rfl, ?_⟩) hS ?_
        rotate_left
        · (intro w hSw; (try dsimp only at hSw); go_simp; try with_reducible rfl)
        (try simp only [Act.put, List.setIfInBounds_toArray, List.set_cons_zero, List.set_cons_succ])
        refine wpAnyH_take (i := 5) (oi := ({ dst := some 22, op := Op.move (Operand.tmp 5), type := 3, pos := "ref.go:67", after := #[], guard := none } : Oper)) (v := ?_) rfl (by kernel_rfl) (by kernel_rfl) (by kernel_rfl) (fun _ _ _ h => h) (Or.inl ⟨by rfl, ?_⟩) hS ?_
        rotate_left
        · (intro w hSw; (try dsimp only at hSw); go_simp; try with_reducible rfl)
        (try simp only [Act.put, List.setIfInBounds_toArray, List.set_cons_zero, List.set_cons_succ])
        refine wpAnyH_take (i := 6) (oi := ({ dst := some 23, op := Op.indexAddr 34 (Operand.tmp 21) (Operand.tmp 22), type := 0, pos := "ref.go:67", after := #[{ on := 4, ground := Ground.data }, { on := 5, ground := Ground.data }], guard := none } : Oper)) (v := ?_) rfl (by kernel_rfl) (by kernel_rfl) (by kernel_rfl) (fun _ _ _ h => h) (Or.inl ⟨by rfl, ?_⟩) hS ?_
        rotate_left
        · (intro w hSw; (try dsimp only at hSw); go_simp; try with_reducible rfl)
        (try simp only [Act.put, List.setIfInBounds_toArray, List.set_cons_zero, List.set_cons_succ])
        refine wpAnyH_take (i := 7) (oi := ({ dst := some 24, op := Op.load 53 (Operand.tmp 23), type := 53, pos := "ref.go:67", after := #[{ on := 6, ground := Ground.data }], guard := none } : Oper)) (v := ?_) rfl (by kernel_rfl) (by kernel_rfl) (by kernel_rfl) (fun _ _ _ h => h) (Or.inl ⟨by rfl, ?_⟩) hS ?_
        rotate_left
        · (intro w hSw; (try dsimp only at hSw); refine exec_load_at (.tmp 23) ?_ ?_ (HA2.out.keep hSw) <;> rfl)
        (try simp only [Act.put, List.setIfInBounds_toArray, List.set_cons_zero, List.set_cons_succ])
        refine wpAnyH_take (i := 8) (oi := ({ dst := some 25, op := Op.binOp BinOp.neq 53 (Operand.tmp 20) (Operand.tmp 24) 53, type := 4, pos := "ref.go:67", after := #[{ on := 3, ground := Ground.data }, { on := 7, ground := Ground.data }], guard := none } : Oper)) (v := ?_) rfl (by kernel_rfl) (by kernel_rfl) (by kernel_rfl) (fun _ _ _ h => h) (Or.inl ⟨by rfl, ?_⟩) hS ?_
        rotate_left
        · (intro w hSw; (try dsimp only at hSw); have hq := HQ.out w; go_simp; try with_reducible rfl)
        (try simp only [Act.put, List.setIfInBounds_toArray, List.set_cons_zero, List.set_cons_succ])
        refine wpAnyH_done (by kernel_rfl) ?_ _
        have HB2 := Lib.hid hS
        clear hS
        cases y with
        | false =>
          go_wp2
          go_ret
          refine ⟨ret_bool ?_, HB2.out⟩
          rw [decide_eq_false]
          intro e
          have h1 := of_decide_eq_false HY.out
          exact h1 (by rw [← HS.out, ← HT.out, e])
        | true =>
          go_wp2
          go_roundw
          case rel =>
            refine ⟨i + 1, by go_num, by omega, Lib.hid (fun j hj => ?_), HB2⟩
            by_cases hji : j = i
            · subst hji; rw [HS.out, HT.out]; exact of_decide_eq_true HY.out
            · exact HE.out j (by omega)
          case measure => simp [intOf]; omega
      · have hq : i = n := by omega
        subst hq
        have HD := Lib.hid (show decide (ss = ts) = true from decide_eq_true (by
          have h1 := HL1.out
          have h2 := HL2.out
          refine List.ext_getElem (by omega) fun j h3 h4 => ?_
          have := HE.out j (by omega)
          simpa [List.getD, h3, h4] using this))
        go_wp2
        go_ret
        exact ⟨ret_bool (by rw [HD.out]), HB.out⟩
  · have hne : ¬ (n : Int) = (m : Int) := by omega
    have HN := Lib.hid (show decide (ss = ts) = false from decide_eq_false (fun h => hnm (by rw [← hl1, ← hl2, h])))
    clear hx1 hx2 hs1 hs2
    go_enter Tryd.func13, Tryd.ntmps13
    go_wp2
    go_ret
    exact ⟨ret_bool (by rw [HN.out]), Below.refl _ _⟩
theorem FS.rs {w : World} {v : Value} {n : Nat} {fs : List Int} (h : FS w v n fs) : RS w v n (chunks n fs) := by
  obtain ⟨a, cap, rfl, hl, h2, h3, _, hc⟩ := h
  refine ⟨a, cap, rfl, by simp [chunks], h2, h3, ?_, fun h0 => ?_⟩
  · intro s hs
    simp only [chunks, List.mem_map, List.mem_range] at hs
    obtain ⟨j, hj, rfl⟩ := hs
    simp; omega
  · obtain ⟨b, off, rfl, hcell⟩ := hc h0
    refine ⟨b, off, rfl, fun j hj k hk => ?_⟩
    rw [Nat.add_assoc, hcell (j * 64 + k) (by omega), chunks_get n fs j hj]
    simp only [List.getD, List.getElem?_take, hk, if_true, List.getElem?_drop]
theorem same_true (v1 v2 : Value) (n : Nat) (fs : List Int) (w : World) (h1 : FS w v1 n fs) (h2 : FS w v2 n fs) :
    Calls Tryd.prog 13 #[v1, v2] w fun e w' => e = .returned (.bool true) ∧ Below w.heap.size w w' := by
  have := same_any v1 v2 n n _ _ w h1.rs h2.rs
  rwa [decide_eq_true rfl] at this
end Go.Proofs.YtjlnceldnbpapaaDoor
