/-
  WHAT THE DOCUMENT'S ANSWERS OF LAYER 11 (record) ANSWER: the reference's Right, Same, Bytes, Encode; a record in a block. No condition of ours but a bound on the data's length.
-/
import Derived.Test.YtnnkaddgbcdehaaRecMath
import Derived.Test.YtnnkaddgbcdehaaBelow
import Derived.Test.YtnnkaddgbcdehaaRegion
import Derived.Test.YtnnkaddgbcdehaaList
namespace Go.Proofs.Ytnnkaddgbcdehaa
open Go.RowKit
abbrev rA (k c l p : Int) (v : Value) : Array Value := #[.int .i64 k, .int .i64 c, .int .i64 l, .int .i64 p, v]
theorem rec_info (c : Array Value) (h : c.size = 5) : (Try.prog.info? 24).map (·.size) = some c.size := by rw [h]; kernel_rfl
theorem rec_one (k c l p : Int) (a : Option Addr) (n m : Nat) : (rA k c l p (.slice a n m)).all (·.oneCell') = true := by simp [rA, Value.oneCell']
/-- the block b holds a record, its data's slice is v -/
def RO (w : World) (b : Nat) (k c l p : Int) (v : Value) : Prop := w.heap[b]? = some (.cells (rA k c l p v) 24 (0, 0))
section
variable {w w' : World} {b b' : Nat} {k c l p : Int} {v : Value}
theorem RO.lt (h : RO w b k c l p v) : b < w.heap.size := (Array.getElem?_eq_some_iff.1 h).1
theorem RO.keep (h : RO w b k c l p v) (hb : Below w.heap.size w w') : RO w' b k c l p v := (hb.block b h.lt).trans h
theorem RO.load (h : RO w b k c l p v) : (loadVar 24 ⟨b, 0, none⟩).run Try.prog w = .ok (.agg (rA k c l p v)) w :=
  run_loadVar_row w b _ 24 (rA k c l p v) (0, 0) _ h Try.underlying24 rfl (rec_info _ rfl)
theorem RO.row (h : RO w b k c l p v) (k' c' l' p' : Int) (v' : Value) : RO (w.setRow b (rA k' c' l' p' v')) b k' c' l' p' v' := setRow_heap w b _ _ _ _ h
theorem RO.apart (h : RO w b k c l p v) (hne : b ≠ b') (x : Array Value) : RO (w.setRow b' x) b k c l p v := (setRow_other w b' b x hne).trans h
theorem RO.set3 (h : RO w b k c l p v) (p' : Int) : RO (w.setCell ⟨b, 3, none⟩ (.int .i64 p')) b k c l p' v := Joins.block_setCell h _
theorem RO.set4 (h : RO w b k c l p v) (v' : Value) : RO (w.setCell ⟨b, 4, none⟩ v') b k c l p v' := Joins.block_setCell h _
theorem RO.set_apart (h : RO w b k c l p v) (hne : b ≠ b') (j : Nat) (x : Value) : RO (w.setCell ⟨b', j, none⟩ x) b k c l p v := (heap_setCell_other w ⟨b', j, none⟩ b x hne).trans h
theorem RO.frozen (h : RO w b k c l p v) (j : Nat) : w.frozen? ⟨b, j, none⟩ = false := Joins.unfrozen_of_block h j
theorem RO.cells (h : RO w b k c l p v) : w.cell? ⟨b, 0, none⟩ = some (.int .i64 k) ∧ w.cell? ⟨b, 1, none⟩ = some (.int .i64 c) ∧ w.cell? ⟨b, 2, none⟩ = some (.int .i64 l) ∧ w.cell? ⟨b, 3, none⟩ = some (.int .i64 p) ∧ w.cell? ⟨b, 4, none⟩ = some v :=
  ⟨cell_of_row w b 0 _ _ _ h, cell_of_row w b 1 _ _ _ h, cell_of_row w b 2 _ _ _ h, cell_of_row w b 3 _ _ _ h, cell_of_row w b 4 _ _ _ h⟩
theorem RO.alloc (w : World) : RO (w.alloc (.cells (rA k c l p v) 24)) w.heap.size k c l p v := heap_alloc_last w _
theorem RO.new (x : Array Value) : RO ((w.alloc (.cells x 24)).setRow w.heap.size (rA k c l p v)) w.heap.size k c l p v := setRow_heap _ _ _ _ _ _ (heap_alloc_last w _)
/-- a row of bytes is not the block of a record -/
theorem RO.ne_own (h : RO w b k c l p v) {base n : Nat} {u : Value} {xs : List Value} (ho : w.ownsRow base 5 1 u n xs) : ∀ q, u.ownBlock = some q → q ≠ b := by
  intro q hq e
  subst e
  rcases ho.2 with ⟨rfl, _⟩ | ⟨q', cap, cur, rfl, _, hcur, _⟩
  · simp [Value.ownBlock] at hq
  · simp only [Value.ownBlock, Option.some.injEq] at hq
    subst hq
    rw [h] at hcur
    simp only [Option.some.injEq, Obj.cells.injEq] at hcur
    exact absurd hcur.2.1 (by decide)
theorem RO.grown (h : RO w b k c l p v) {base n : Nat} {u : Value} {xs : List Value} (ho : w.ownsRow base 5 1 u n xs) (hg : w.grownBy w' u.ownBlock) : RO w' b k c l p v :=
  (hg.block b h.lt (fun e => h.ne_own ho b e.symm rfl)).trans h
theorem grown_row (w : World) (b : Nat) (x : Array Value) : w.grownBy (w.setRow b x) (some b) := ⟨rfl, rfl, rfl, by simp, fun i _ hne => setRow_other w b i x (fun e => hne (by rw [e]))⟩
theorem RO.row_own (h : RO w b k c l p v) (x : Array Value) {base n : Nat} {u : Value} {xs : List Value} (ho : w.ownsRow base 5 1 u n xs) : (w.setRow b x).ownsRow base 5 1 u n xs :=
  own_over ho (grown_row w b x) (fun g hg e => h.ne_own ho g hg (Option.some.inj e))
theorem grown_cell (w : World) (b j : Nat) (x : Value) : w.grownBy (w.setCell ⟨b, j, none⟩ x) (some b) := ⟨rfl, rfl, rfl, by simp, fun i _ hne => heap_setCell_other w ⟨b, j, none⟩ i x (fun e => hne (by rw [e]))⟩
theorem RO.set_own (h : RO w b k c l p v) (j : Nat) (x : Value) {base n : Nat} {u : Value} {xs : List Value} (ho : w.ownsRow base 5 1 u n xs) : (w.setCell ⟨b, j, none⟩ x).ownsRow base 5 1 u n xs :=
  own_over ho (grown_cell w b j x) (fun g hg e => h.ne_own ho g hg (Option.some.inj e))
theorem exec_load_rec {o : Oper} {a : Act} (x : Operand) (ho : o.op = .load 24 x) (hx : a.eval x = .pointer (some ⟨b, 0, none⟩)) (h : RO w b k c l p v) :
    (execOp a.eval o).run Try.prog w = .ok (.value (.agg (rA k c l p v))) w := by
  unfold execOp
  simp only [ho, hx, Instr.loadAt, Instr.sureAddr, Sem.run_bind, Sem.run_pure, Result.andThen_ok, h.load]
/-- .. guarded or not -/
theorem wpl_load_rec {ops : Array Oper} {rest : List Oper} {o : Oper} {a : Act} {Q : Exit → Act → World → Prop} (hw : Region.wanted o (yielded ops a.tmps) = true) (x : Operand) (ho : o.op = .load 24 x) (hx : a.eval x = .pointer (some ⟨b, 0, none⟩)) (h : RO w b k c l p v)
    (hk : wpList Try.prog ops Q rest (a.put o.dst (.agg (rA k c l p v))) w) : wpList Try.prog ops Q (o :: rest) a w := by
  unfold wpList
  rw [if_pos hw]
  exact Or.inl (wp_load_row 24 x ho b hx _ (rA k c l p v) (0, 0) _ h Try.underlying24 rfl (rec_info _ rfl) hk)
end
set_option maxRecDepth 8000 in
set_option maxHeartbeats 2000000 in
theorem rrecok_any (k c l p : Int) (v : Value) (w : World) :
    Calls Try.prog 9 #[.agg (rA k c l p v)] w fun e w' => e = .returned (.bool (recOk k c l p)) ∧ Below w.heap.size w w' := by
  cases hr : recOk k c l p with
  | true =>
    obtain ⟨h1, h2, h3, h4, h5, h6, h7, h8⟩ := ok_parts hr
    clear hr
    go_enter Try.func9, Try.ntmps9
    go_wp2
    go_ret
    exact ⟨rfl, balloc _ _⟩
  | false =>
    have hn : ¬ (1 ≤ k ∧ k ≤ 9 ∧ 0 ≤ c ∧ c ≤ 3 ∧ 1 ≤ l ∧ l ≤ 2147483647 ∧ 0 ≤ p ∧ p < l) := of_decide_eq_false hr
    clear hr
    rcases (by omega : k < 1 ∨ (1 ≤ k ∧ 9 < k) ∨ (1 ≤ k ∧ k ≤ 9 ∧ c < 0) ∨ (1 ≤ k ∧ k ≤ 9 ∧ 0 ≤ c ∧ 3 < c) ∨ (1 ≤ k ∧ k ≤ 9 ∧ 0 ≤ c ∧ c ≤ 3 ∧ l < 1) ∨ (1 ≤ k ∧ k ≤ 9 ∧ 0 ≤ c ∧ c ≤ 3 ∧ 1 ≤ l ∧ 2147483647 < l) ∨ (1 ≤ k ∧ k ≤ 9 ∧ 0 ≤ c ∧ c ≤ 3 ∧ 1 ≤ l ∧ l ≤ 2147483647 ∧ p < 0) ∨ (1 ≤ k ∧ k ≤ 9 ∧ 0 ≤ c ∧ c ≤ 3 ∧ 1 ≤ l ∧ l ≤ 2147483647 ∧ 0 ≤ p ∧ l ≤ p)) with h1 | ⟨h1, h2⟩ | ⟨h1, h2, h3⟩ | ⟨h1, h2, h3, h4⟩ | ⟨h1, h2, h3, h4, h5⟩ | ⟨h1, h2, h3, h4, h5, h6⟩ | ⟨h1, h2, h3, h4, h5, h6, h7⟩ | ⟨h1, h2, h3, h4, h5, h6, h7, h8⟩
    all_goals
      clear hn
      go_enter Try.func9, Try.ntmps9
      go_wp2
      go_ret
      refine ⟨?_, balloc _ _⟩
      first
        | rfl
        | exact ret_bool (decide_eq_false (by omega))
theorem below2 (w : World) (x y : Obj) : Below w.heap.size w ((w.alloc x).alloc y) := bch (balloc w x) (balloc _ y)
theorem rec_same (k c l p : Int) (d : List Int) (k' c' l' p' : Int) (d' : List Int) : decide ((⟨k, c, l, p, d⟩ : RC) = ⟨k', c', l', p', d'⟩) = (decide (k = k') && (decide (c = c') && (decide (l = l') && (decide (p = p') && decide (d = d'))))) := by
  rw [Bool.eq_iff_iff]; simp [RC.mk.injEq]
set_option maxRecDepth 8000 in
set_option maxHeartbeats 2000000 in
theorem rrsame_any (k c l p : Int) (v : Value) (n : Nat) (d : List Int) (k' c' l' p' : Int) (v' : Value) (n' : Nat) (d' : List Int) (w : World) (h1 : RI .u8 w v n d) (h2 : RI .u8 w v' n' d') (hb1 : isB d) (hb2 : isB d') :
    Calls Try.prog 14 #[.agg (rA k c l p v), .agg (rA k' c' l' p' v')] w fun e w' => e = .returned (.bool (decide ((⟨k, c, l, p, d⟩ : RC) = ⟨k', c', l', p', d'⟩))) ∧ Below w.heap.size w w' := by
  rw [rec_same]
  by_cases hk : k = k'
  · subst hk
    by_cases hc : c = c'
    · subst hc
      by_cases hl : l = l'
      · subst hl
        by_cases hp : p = p'
        · subst hp
          have q1 := conv_ri (h1.keep (below2 w (.cells (rA k c l p v) 24) (.cells (rA k c l p v') 24)))
          have q2 := conv_ri (h2.keep (below2 w (.cells (rA k c l p v) 24) (.cells (rA k c l p v') 24)))
          obtain ⟨a, m, rfl, _⟩ := h1
          obtain ⟨a', m', rfl, _⟩ := h2
          by_cases hd : d = d'
          · subst hd
            rw [show (decide (k = k) && (decide (c = c) && (decide (l = l) && (decide (p = p) && decide (d = d))))) = true from by simp]
            clear hb1 hb2
            go_enter Try.func14, Try.ntmps14
            go_wp2
            go_ret
            exact ⟨rfl, below2 _ _ _⟩
          · rw [show (decide (k = k) && (decide (c = c) && (decide (l = l) && (decide (p = p) && decide (d = d'))))) = false from by simp [hd]]
            have hs : ¬ strOfNums d = strOfNums d' := fun e => hd (strOfNums_inj hb1 hb2 e)
            have hs2 := str_ne hs
            clear hb1 hb2
            go_enter Try.func14, Try.ntmps14
            go_wp2
            go_ret
            exact ⟨rfl, below2 _ _ _⟩
        · rw [show (decide (k = k) && (decide (c = c) && (decide (l = l) && (decide (p = p') && decide (d = d'))))) = false from by simp [hp]]
          have hq : (p == p') = false := by simpa using hp
          clear h1 h2 hb1 hb2
          go_enter Try.func14, Try.ntmps14
          go_wp2
          go_ret
          exact ⟨rfl, below2 _ _ _⟩
      · rw [show (decide (k = k) && (decide (c = c) && (decide (l = l') && (decide (p = p') && decide (d = d'))))) = false from by simp [hl]]
        have hq : (l == l') = false := by simpa using hl
        clear h1 h2 hb1 hb2
        go_enter Try.func14, Try.ntmps14
        go_wp2
        go_ret
        exact ⟨rfl, below2 _ _ _⟩
    · rw [show (decide (k = k) && (decide (c = c') && (decide (l = l') && (decide (p = p') && decide (d = d'))))) = false from by simp [hc]]
      have hq : (c == c') = false := by simpa using hc
      clear h1 h2 hb1 hb2
      go_enter Try.func14, Try.ntmps14
      go_wp2
      go_ret
      exact ⟨rfl, below2 _ _ _⟩
  · rw [show (decide (k = k') && (decide (c = c') && (decide (l = l') && (decide (p = p') && decide (d = d'))))) = false from by simp [hk]]
    have hq : (k == k') = false := by simpa using hk
    clear h1 h2 hb1 hb2
    go_enter Try.func14, Try.ntmps14
    go_wp2
    go_ret
    exact ⟨rfl, below2 _ _ _⟩
end Go.Proofs.Ytnnkaddgbcdehaa
