/-
  WHETHER TWO LISTS OF PIECES ARE THE SAME: the reference's Same of layer 14. No condition.
-/
import Derived.Test.YtepmiooemjjhdaaCutList
import Derived.Test.YtepmiooemjjhdaaRegion
namespace Go.Proofs.Ytepmiooemjjhdaa
open Go.RowKit
theorem list_eq_of {α : Type} {l m : List α} (n : Nat) (hl : l.length = n) (hm : m.length = n) (h : ∀ j, j < n → l[j]? = m[j]?) : l = m := by
  refine List.ext_getElem? fun j => ?_
  by_cases hj : j < n
  · exact h j hj
  · rw [List.getElem?_eq_none (by omega), List.getElem?_eq_none (by omega)]
theorem rows_at {w : World} {a1 a2 : Option Addr} {n c1 c2 : Nat} {l1 l2 : List PC} (H1 : PS w (.slice a1 n c1) l1) (H2 : PS w (.slice a2 n c2) l2) (hl1 : l1.length = n) (hl2 : l2.length = n) (i : Nat) (hi : i < n) :
    ∃ c d b1 o1 b2 o2, l1[i]? = some c ∧ l2[i]? = some d ∧ a1 = some ⟨b1, o1, none⟩ ∧ a2 = some ⟨b2, o2, none⟩ ∧ w.rangeAt b1 (o1 + i * 4) (pL c) ∧ w.rangeAt b2 (o2 + i * 4) (pL d) := by
  have hc : l1[i]? = some l1[i] := List.getElem?_eq_getElem (by omega)
  have hd : l2[i]? = some l2[i] := List.getElem?_eq_getElem (by omega)
  obtain ⟨b1, o1, e1, r1⟩ := H1.at_ i _ hc
  obtain ⟨b2, o2, e2, r2⟩ := H2.at_ i _ hd
  exact ⟨_, _, b1, o1, b2, o2, hc, hd, e1, e2, r1, r2⟩
set_option maxRecDepth 8000 in
set_option maxHeartbeats 4000000 in
theorem rpsame_any (v1 v2 : Value) (l1 l2 : List PC) (w : World) (h1 : PS w v1 l1) (h2 : PS w v2 l2) :
    Calls Try.prog 8 #[v1, v2] w fun e w' => e = .returned (.bool (decide (l1 = l2))) ∧ Below w.heap.size w w' := by
  obtain ⟨a1, c1, rfl, hc1, hm1, _⟩ := h1.form
  obtain ⟨a2, c2, rfl, hc2, hm2, _⟩ := h2.form
  by_cases hlen : l1.length = l2.length
  · obtain ⟨n, hn⟩ : ∃ n, l1.length = n := ⟨_, rfl⟩
    have hn2 : l2.length = n := by omega
    rw [hn] at h1 hc1 ⊢
    rw [hn2] at h2 hc2 ⊢
    have H1 := Lib.hid h1
    have H2 := Lib.hid h2
    have HN := Lib.hid (And.intro hn hn2)
    obtain ⟨y, hy⟩ : ∃ y, decide (l1 = l2) = y := ⟨_, rfl⟩
    rw [hy]
    have HY := Lib.hid hy
    clear h1 h2 hn hn2 hlen hy
    go_enter Try.func8, Try.ntmps8
    go_wp2
    go_loopw [5] (fun iv wr => ∃ i : Nat, iv = .int .i64 i ∧ i ≤ n ∧ Hid (Below w.heap.size w wr) ∧ Hid (∀ j, j < i → l1[j]? = l2[j]?)) (fun iv _ => n - (intOf iv).toNat)
    case atStart => exact ⟨0, rfl, by omega, Lib.hid (Below.refl _ _), Lib.hid fun j hj => absurd hj (by omega)⟩
    case round =>
      obtain ⟨i, rfl, hi, HB, HE⟩ := hrel
      by_cases hlt : (i : Int) < (n : Int)
      · obtain ⟨c, d, b1, o1, b2, o2, hc, hd, rfl, rfl, r1, r2⟩ := rows_at H1.out H2.out HN.out.1 HN.out.2 i (by omega)
        have HC := Lib.hid (And.intro hc hd)
        have HR1 := Lib.hid r1
        have HR2 := Lib.hid r2
        clear hc hd r1 r2
        go_wp2_with fail
        refine wp_region_held_drew (S := (fun W' => Below w.heap.size w W')) (by kernel_rfl) (HB.out.drew) (fun hS => ?_)
        refine wpAnyH_take (i := 0) (oi := ({ dst := some 17, op := Op.move (Operand.tmp 0), type := 22, pos := "ref.go:43", after := #[], guard := none } : Oper)) (v := ?_) rfl (by kernel_rfl) (by kernel_rfl) (by kernel_rfl) (fun _ _ _ h => h) (Or.inl ⟨by rfl, ?_⟩) hS ?_
        rotate_left
        · (intro w hSw; (try dsimp only at hSw); go_simp; try with_reducible rfl)
        (try simp only [Act.put, List.setIfInBounds_toArray, List.set_cons_zero, List.set_cons_succ])
        refine wpAnyH_take (i := 1) (oi := ({ dst := some 18, op := Op.move (Operand.tmp 5), type := 3, pos := "ref.go:43", after := #[], guard := none } : Oper)) (v := ?_) rfl (by kernel_rfl) (by kernel_rfl) (by kernel_rfl) (fun _ _ _ h => h) (Or.inl ⟨by rfl, ?_⟩) hS ?_
        rotate_left
        · (intro w hSw; (try dsimp only at hSw); go_simp; try with_reducible rfl)
        (try simp only [Act.put, List.setIfInBounds_toArray, List.set_cons_zero, List.set_cons_succ])
        refine wpAnyH_take (i := 2) (oi := ({ dst := some 19, op := Op.indexAddr 22 (Operand.tmp 17) (Operand.tmp 18), type := 0, pos := "ref.go:43", after := #[{ on := 0, ground := Ground.data }, { on := 1, ground := Ground.data }], guard := none } : Oper)) (v := ?_) rfl (by kernel_rfl) (by kernel_rfl) (by kernel_rfl) (fun _ _ _ h => h) (Or.inl ⟨by rfl, ?_⟩) hS ?_
        rotate_left
        · (intro w hSw; (try dsimp only at hSw); go_simp; try with_reducible rfl)
        (try simp only [Act.put, List.setIfInBounds_toArray, List.set_cons_zero, List.set_cons_succ])
        refine wpAnyH_take (i := 3) (oi := ({ dst := some 20, op := Op.load 28 (Operand.tmp 19), type := 28, pos := "ref.go:43", after := #[{ on := 2, ground := Ground.data }], guard := none } : Oper)) (v := pV c) rfl (by kernel_rfl) (by kernel_rfl) (by kernel_rfl) (fun _ _ _ h => h) (Or.inl ⟨by rfl, ?_⟩) hS ?_
        · (intro w hSw; (try dsimp only at hSw); exact exec_load_pc (.tmp 19) rfl rfl (rangeAt_keep hSw HR1.out))
        (try simp only [Act.put, List.setIfInBounds_toArray, List.set_cons_zero, List.set_cons_succ])
        refine wpAnyH_take (i := 4) (oi := ({ dst := some 21, op := Op.move (Operand.tmp 1), type := 22, pos := "ref.go:43", after := #[], guard := none } : Oper)) (v := ?_) rfl (by kernel_rfl) (by kernel_rfl) (by kernel_rfl) (fun _ _ _ h => h) (Or.inl ⟨by rfl, ?_⟩) hS ?_
        rotate_left
        · (intro w hSw; (try dsimp only at hSw); go_simp; try with_reducible rfl)
        (try simp only [Act.put, List.setIfInBounds_toArray, List.set_cons_zero, List.set_cons_succ])
        refine wpAnyH_take (i := 5) (oi := ({ dst := some 22, op := Op.move (Operand.tmp 5), type := 3, pos := "ref.go:43", after := #[], guard := none } : Oper)) (v := ?_) rfl (by kernel_rfl) (by kernel_rfl) (by kernel_rfl) (fun _ _ _ h => h) (Or.inl ⟨by rfl, ?_⟩) hS ?_
        rotate_left
        · (intro w hSw; (try dsimp only at hSw); go_simp; try with_reducible rfl)
        (try simp only [Act.put, List.setIfInBounds_toArray, List.set_cons_zero, List.set_cons_succ])
        refine wpAnyH_take (i := 6) (oi := ({ dst := some 23, op := Op.indexAddr 22 (Operand.tmp 21) (Operand.tmp 22), type := 0, pos := "ref.go:43", after := #[{ on := 4, ground := Ground.data }, { on := 5, ground := Ground.data }], guard := none } : Oper)) (v := ?_) rfl (by kernel_rfl) (by kernel_rfl) (by kernel_rfl) (fun _ _ _ h => h) (Or.inl ⟨by rfl, ?_⟩) hS ?_
        rotate_left
        · (intro w hSw; (try dsimp only at hSw); go_simp; try with_reducible rfl)
        (try simp only [Act.put, List.setIfInBounds_toArray, List.set_cons_zero, List.set_cons_succ])
        refine wpAnyH_take (i := 7) (oi := ({ dst := some 24, op := Op.load 28 (Operand.tmp 23), type := 28, pos := "ref.go:43", after := #[{ on := 6, ground := Ground.data }], guard := none } : Oper)) (v := pV d) rfl (by kernel_rfl) (by kernel_rfl) (by kernel_rfl) (fun _ _ _ h => h) (Or.inl ⟨by rfl, ?_⟩) hS ?_
        · (intro w hSw; (try dsimp only at hSw); exact exec_load_pc (.tmp 23) rfl rfl (rangeAt_keep hSw HR2.out))
        (try simp only [Act.put, List.setIfInBounds_toArray, List.set_cons_zero, List.set_cons_succ])
        refine wpAnyH_take (i := 8) (oi := ({ dst := some 25, op := Op.binOp BinOp.neq 28 (Operand.tmp 20) (Operand.tmp 24) 28, type := 4, pos := "ref.go:43", after := #[{ on := 3, ground := Ground.data }, { on := 7, ground := Ground.data }], guard := none } : Oper)) (v := .bool (!decide (c = d))) rfl (by kernel_rfl) (by kernel_rfl) (by kernel_rfl) (fun _ _ _ h => h) (Or.inl ⟨by rfl, ?_⟩) hS ?_
        · (intro w hSw; (try dsimp only at hSw); exact exec_neq_pc (.tmp 20) (.tmp 24) _ rfl rfl rfl)
        (try simp only [Act.put, List.setIfInBounds_toArray, List.set_cons_zero, List.set_cons_succ])
        refine wpAnyH_done (by kernel_rfl) ?_ _
        have HB2 := Lib.hid hS
        clear hS
        generalize hq : (!decide (c = d)) = q
        cases q with
        | false =>
          have hcd : c = d := by simpa using hq
          clear hq
          go_wp2
          go_roundw
          case rel =>
            refine ⟨i + 1, by go_num, by omega, HB2, Lib.hid fun j hj => ?_⟩
            by_cases hji : j = i
            · subst hji; rw [HC.out.1, HC.out.2, hcd]
            · exact HE.out j (by omega)
          case measure => simp [intOf]; omega
        | true =>
          have hcd : ¬ c = d := by simpa using hq
          clear hq
          go_wp2
          go_ret
          refine ⟨?_, HB2.out⟩
          have : y = false := by
            rw [← HY.out]
            refine decide_eq_false fun e => hcd ?_
            have := HC.out
            rw [e, this.2] at this
            simpa using this.1.symm
          rw [this]
          rfl
      · have hq : i = n := by omega
        subst hq
        go_wp2
        go_ret
        refine ⟨?_, HB.out⟩
        have : y = true := by
          rw [← HY.out]
          exact decide_eq_true (list_eq_of i HN.out.1 HN.out.2 HE.out)
        rw [this]
        rfl
  · have hne : ((l1.length : Int) != (l2.length : Int)) = true := by simpa using fun e => hlen (by omega)
    rw [show decide (l1 = l2) = false from decide_eq_false fun e => hlen (by rw [e])]
    obtain ⟨n1, hn1⟩ : ∃ n, l1.length = n := ⟨_, rfl⟩
    obtain ⟨n2, hn2⟩ : ∃ n, l2.length = n := ⟨_, rfl⟩
    rw [hn1, hn2] at hne
    rw [hn1, hn2]
    clear h1 h2
    go_enter Try.func8, Try.ntmps8
    go_wp2
    go_ret
    exact ⟨rfl, Below.refl _ _⟩
end Go.Proofs.Ytepmiooemjjhdaa
