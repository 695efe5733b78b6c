/-
  WHAT THE PROGRAM'S OWN Get OF LAYER 10 (op) ANSWERS. No condition but a bound on the length.
-/
import Derived.Test.YtmcfnlfaclkbhaaOpText
namespace Go.Proofs.Ytmcfnlfaclkbhaa
open Go.RowKit
/-- one step of the reading: what is read, where it goes on, and the error -/
def stepR (zs : List Int) (i : Nat) (m : Nat) (k : Int) (s t : ByteArray) : (Nat × Int × ByteArray × ByteArray) × Int :=
  if i = 0 then
    match zs with
    | [] => ((m, k, s, t), 1)
    | h :: _ => ((1, h, s, t), if h ≠ 1 ∧ h ≠ 2 then 2 else 0)
  else if i = 1 then ((m + (gf (zs.drop m)).2.1, k, ls (gf (zs.drop m)).1, t), (gf (zs.drop m)).2.2)
  else if i = 2 then
    if k = 1 then ((m + (gf (zs.drop m)).2.1, k, s, ls (gf (zs.drop m)).1), (gf (zs.drop m)).2.2) else ((m, k, s, t), 0)
  else ((m, k, s, t), if opRight k s t = true then 0 else 2)
/-- n steps more, from the i-th on -/
def runR (zs : List Int) : Nat → Nat → Nat → Int → ByteArray → ByteArray → (Int × ByteArray × ByteArray) × Nat × Int
  | 0, _, m, k, s, t => ((k, s, t), m, 0)
  | n + 1, i, m, k, s, t => if (stepR zs i m k s t).2 ≠ 0 then (noO, 0, (stepR zs i m k s t).2) else runR zs n (i + 1) (stepR zs i m k s t).1.1 (stepR zs i m k s t).1.2.1 (stepR zs i m k s t).1.2.2.1 (stepR zs i m k s t).1.2.2.2
theorem runR_all (zs : List Int) : runR zs 4 0 0 0 ⟨#[]⟩ ⟨#[]⟩ = opG zs := by
  cases zs with
  | nil => rfl
  | cons h r =>
    simp only [runR, stepR, opG, if_true, if_false, List.drop_succ_cons, List.drop_zero, Nat.reduceAdd, Nat.reduceEqDiff]
    by_cases hk : h ≠ 1 ∧ h ≠ 2
    · simp [hk]
    · simp only [hk, if_false, ne_eq, not_true_eq_false]
      by_cases he : (gf r).2.2 = 0
      · simp only [he, not_true_eq_false, if_false]
        by_cases h1 : h = 1
        · subst h1
          simp only [if_true]
          rw [show (1 + (gf r).2.1) = (gf r).2.1 + 1 from by omega, List.drop_succ_cons]
          by_cases he2 : (gf (r.drop (gf r).2.1)).2.2 = 0
          · simp only [he2, not_true_eq_false, if_false]
            by_cases hr : opRight 1 (ls (gf r).1) (ls (gf (r.drop (gf r).2.1)).1) = true
            · simp [hr]
            · simp [hr]
          · simp [he2]
        · simp only [h1, if_false, not_true_eq_false]
          obtain rfl : h = 2 := by omega
          by_cases hr : opRight 2 (ls (gf r).1) ⟨#[]⟩ = true
          · simp [hr]
          · simp [hr]
      · simp [he]
def fnK (i : Nat) : Nat := if i = 0 then 25 else if i = 1 then 26 else if i = 2 then 27 else 28
theorem fnK_eg (i : Nat) : ∀ args w, (callFunc (fnK i) args).run Try.prog w = .ok (.enter (fnK i) args) w := by
  intro args w
  unfold fnK
  split
  · kernel_rfl
  · split
    · kernel_rfl
    · split <;> kernel_rfl
theorem step_any (v : Value) (len : Nat) (zs : List Int) (i m : Nat) (k : Int) (s t : ByteArray) (W0 w : World) (hri : RI .u8 W0 v len zs) (hbz : isB zs) (hm : m ≤ len) (hlen : (len : Int) ≤ 200000000000000) (hb : Below W0.heap.size W0 w) (hrd : RD w W0.heap.size v m k s t)
    (m' : Nat) (k' : Int) (s' t' : ByteArray) (y : Int) (hst : stepR zs i m k s t = ((m', k', s', t'), y)) :
    Calls Try.prog (fnK i) #[.pointer (some ⟨W0.heap.size, 0, none⟩)] w fun e w' => e = .returned (.int .i64 y) ∧ RD w' W0.heap.size v m' k' s' t' ∧ w.grownBy w' (some W0.heap.size) ∧ m' ≤ len := by
  have hz := hri.length
  unfold stepR at hst
  unfold fnK
  by_cases h0 : i = 0
  · rw [if_pos h0] at hst ⊢
    cases zs with
    | nil =>
      simp only [Prod.mk.injEq] at hst
      obtain ⟨⟨rfl, rfl, rfl, rfl⟩, rfl⟩ := hst
      obtain rfl : len = 0 := by simpa using hz.symm
      exact (kind_nil v m k s t W0 w hri hrd).mono fun _ _ ⟨a, b, c⟩ => ⟨a, b, c, hm⟩
    | cons h r =>
      simp only [Prod.mk.injEq] at hst
      obtain ⟨⟨rfl, rfl, rfl, rfl⟩, rfl⟩ := hst
      have hl : 1 ≤ len := by simp at hz; omega
      exact (kind_cons v len h r m k s t W0 w hri (hbz h (by simp)) hb hrd _ rfl).mono fun _ _ ⟨a, b, c⟩ => ⟨a, b, c, hl⟩
  · rw [if_neg h0] at hst ⊢
    have hgl := gf_le (zs.drop m) (fun x hx => hbz x (List.mem_of_mem_drop hx))
    rw [List.length_drop, hz] at hgl
    by_cases h1 : i = 1
    · rw [if_pos h1] at hst ⊢
      simp only [Prod.mk.injEq] at hst
      obtain ⟨⟨rfl, rfl, rfl, rfl⟩, rfl⟩ := hst
      exact (key_any v len zs m k s t W0 w hri hbz hm hlen hb hrd _ _ _ rfl).mono fun _ _ ⟨a, b, c⟩ => ⟨a, by rw [Int.natCast_add]; exact b, c, by omega⟩
    · rw [if_neg h1] at hst ⊢
      by_cases h2 : i = 2
      · rw [if_pos h2] at hst ⊢
        by_cases hk : k = 1
        · rw [if_pos hk] at hst
          simp only [Prod.mk.injEq] at hst
          obtain ⟨⟨rfl, rfl, rfl, rfl⟩, rfl⟩ := hst
          exact (val_put v len zs m k s t W0 w hri hbz hm hlen hb hrd _ _ _ rfl hk).mono fun _ _ ⟨a, b, c⟩ => ⟨a, by rw [Int.natCast_add]; exact b, c, by omega⟩
        · rw [if_neg hk] at hst
          simp only [Prod.mk.injEq] at hst
          obtain ⟨⟨rfl, rfl, rfl, rfl⟩, rfl⟩ := hst
          exact (val_del v m k s t W0 w hrd hk).mono fun _ _ ⟨a, b, c⟩ => ⟨a, b, c, hm⟩
      · rw [if_neg h2] at hst ⊢
        simp only [Prod.mk.injEq] at hst
        obtain ⟨⟨rfl, rfl, rfl, rfl⟩, rfl⟩ := hst
        exact (end_any v m k s t W0 w hrd).mono fun _ _ ⟨a, b, c⟩ => ⟨a, b, c, hm⟩
theorem OB.grown {w w' : World} {b q : Nat} {k : Int} {s t : ByteArray} (h : OB w b k s t) (hg : w.grownBy w' (some q)) (hne : b ≠ q) : OB w' b k s t :=
  (hg.block b h.lt (fun e => hne (Option.some.inj e))).trans h
theorem RD.row_apart {w : World} {b b' : Nat} {v : Value} {m k : Int} {s t : ByteArray} (h : RD w b v m k s t) (hne : b ≠ b') (c : Array Value) : RD (w.setRow b' c) b v m k s t := (setRow_other w b' b c hne).trans h
theorem mf_run (fn : Fn) (first cap : Array Value) (w : World) : (Instr.makeFunc fn first cap).run Try.prog w = .ok (.func fn first cap) w := rfl
/-- the list of the steps -/
abbrev fnsA (b : Nat) : Array Value := #[.func (.func (fnK 0)) #[.pointer (some ⟨b, 0, none⟩)] #[], .func (.func (fnK 1)) #[.pointer (some ⟨b, 0, none⟩)] #[], .func (.func (fnK 2)) #[.pointer (some ⟨b, 0, none⟩)] #[], .func (.func (fnK 3)) #[.pointer (some ⟨b, 0, none⟩)] #[]]
set_option maxRecDepth 8000 in
set_option maxHeartbeats 4000000 in
theorem oget_any (v : Value) (len : Nat) (zs : List Int) (w : World) (hri : RI .u8 w v len zs) (hbz : isB zs) (hlen : (len : Int) ≤ 200000000000000) :
    Calls Try.prog 19 #[v] w fun e w' => e = .returned (.tuple #[.agg (oA (opG zs).1.1 (opG zs).1.2.1 (opG zs).1.2.2), .int .i64 (opG zs).2.1, .int .i64 (opG zs).2.2]) ∧ Below w.heap.size w w' := by
  obtain ⟨g, hg⟩ : ∃ g, opG zs = g := ⟨_, rfl⟩
  rw [hg]
  have HRUN := Lib.hid (runR_all zs)
  rw [hg] at HRUN
  obtain ⟨p, c, rfl⟩ : ∃ a c, v = .slice a len c := by obtain ⟨a, c, e, _⟩ := hri; exact ⟨a, c, e⟩
  have hmf := mf_run
  have hw0 : (w.alloc (.cells (oA 0 ⟨#[]⟩ ⟨#[]⟩) 36)).heap.size = w.heap.size + 1 := by simp
  have hb0 := balloc w (.cells (oA 0 ⟨#[]⟩ ⟨#[]⟩) 36)
  have ho0 : OB (w.alloc (.cells (oA 0 ⟨#[]⟩ ⟨#[]⟩) 36)) w.heap.size 0 ⟨#[]⟩ ⟨#[]⟩ := heap_alloc_last w _
  obtain ⟨W0, hW0⟩ : ∃ W0, w.alloc (.cells (oA 0 ⟨#[]⟩ ⟨#[]⟩) 36) = W0 := ⟨_, rfl⟩
  rw [hW0] at hw0 hb0 ho0
  have hri0 := hri.keep hb0
  have hr1 : RD (W0.alloc (.cells (rA (.slice p len c) 0 0 ⟨#[]⟩ ⟨#[]⟩) 49)) W0.heap.size (.slice p len c) 0 0 ⟨#[]⟩ ⟨#[]⟩ := heap_alloc_last W0 _
  have hb1 := balloc W0 (.cells (rA (.slice p len c) 0 0 ⟨#[]⟩ ⟨#[]⟩) 49)
  obtain ⟨W1, hW1⟩ : ∃ W1, W0.alloc (.cells (rA (.slice p len c) 0 0 ⟨#[]⟩ ⟨#[]⟩) 49) = W1 := ⟨_, rfl⟩
  have hw1 : W1.heap.size = w.heap.size + 1 + 1 := by rw [← hW1]; simp [hw0]
  rw [hW1] at hr1 hb1
  have hf2 := heap_alloc_last W1 (.cells (fnsA (w.heap.size + 1)) 50)
  have hb2 := balloc W1 (.cells (fnsA (w.heap.size + 1)) 50)
  obtain ⟨W2, hW2⟩ : ∃ W2, W1.alloc (.cells (fnsA (w.heap.size + 1)) 50) = W2 := ⟨_, rfl⟩
  rw [hW2] at hf2 hb2
  rw [hw1] at hf2
  have HR2 := Lib.hid (hr1.keep hb2)
  rw [hw0] at HR2
  have HF2 := Lib.hid hf2
  have HO2 := Lib.hid ((ho0.keep hb1).keep hb2)
  have HB2 := Lib.hid (bch hb1 hb2)
  have HW0 := Lib.hid hw0
  have HB0 := Lib.hid hb0
  have HWW : Hid ((((w.alloc (.cells (oA 0 ⟨#[]⟩ ⟨#[]⟩) 36)).alloc (.cells (rA (.slice p len c) 0 0 ⟨#[]⟩ ⟨#[]⟩) 49)).alloc (.cells (fnsA (w.heap.size + 1)) 50)) = W2) := Lib.hid (by rw [hW0, hW1, hW2])
  clear hg hW0 hw0 hb0 ho0 hr1 hb1 hW1 hw1 hf2 hb2 hW2
  have HRI := Lib.hid hri0
  have HBZ := Lib.hid hbz
  clear hri hbz hri0
  go_enter Try.func19, Try.ntmps19
  go_wp2
  rw [show (((w.alloc (.cells #[.int .i64 0, .string ⟨#[]⟩, .string ⟨#[]⟩] 36)).alloc (.cells #[.slice p len c, .int .i64 0, .int .i64 0, .string ⟨#[]⟩, .string ⟨#[]⟩] 49)).alloc (.cells #[.func (.func 25) #[.pointer (some ⟨w.heap.size + 1, 0, none⟩)] #[], .func (.func 26) #[.pointer (some ⟨w.heap.size + 1, 0, none⟩)] #[], .func (.func 27) #[.pointer (some ⟨w.heap.size + 1, 0, none⟩)] #[], .func (.func 28) #[.pointer (some ⟨w.heap.size + 1, 0, none⟩)] #[]] 50)) = W2 from HWW.out]
  clear HWW
  go_loopw [22] (fun iv wr => ∃ (i m : Nat) (k : Int) (s t : ByteArray), iv = .int .i64 i ∧ i ≤ 4 ∧ m ≤ len ∧ Hid (RD wr (w.heap.size + 1) (.slice p len c) m k s t) ∧ Hid (runR zs (4 - i) i m k s t = g) ∧ Hid (wr.heap[w.heap.size + 1 + 1]? = some (.cells (fnsA (w.heap.size + 1)) 50 (0, 0))) ∧ Hid (OB wr w.heap.size 0 ⟨#[]⟩ ⟨#[]⟩) ∧ Hid (Below W0.heap.size W0 wr)) (fun iv _ => 4 - (intOf iv).toNat)
  case atStart => exact ⟨0, 0, 0, ⟨#[]⟩, ⟨#[]⟩, rfl, by omega, by omega, HR2, HRUN, HF2, HO2, HB2⟩
  case round =>
    obtain ⟨i, m, k, s, t, rfl, hi, hm, HR, HN, HF, HO, HB⟩ := hrel
    by_cases hlt : (i : Int) < 4
    · obtain ⟨n, hn⟩ : ∃ n, 4 - i = n + 1 := ⟨3 - i, by omega⟩
      obtain ⟨⟨⟨m', k', s', t'⟩, y⟩, hst⟩ : ∃ q, stepR zs i m k s t = q := ⟨_, rfl⟩
      have hrun := HN.out
      rw [hn] at hrun
      simp only [runR, hst] at hrun
      have hcell : wr.cell? ⟨w.heap.size + 1 + 1, i, none⟩ = some (.func (.func (fnK i)) #[.pointer (some ⟨w.heap.size + 1, 0, none⟩)] #[]) := by
        match i, hlt with
        | 0, _ => exact cell_of_row wr _ 0 _ _ _ HF.out
        | 1, _ => exact cell_of_row wr _ 1 _ _ _ HF.out
        | 2, _ => exact cell_of_row wr _ 2 _ _ _ HF.out
        | 3, _ => exact cell_of_row wr _ 3 _ _ _ HF.out
        | i + 4, h => omega
      have hstep := step_any (.slice p len c) len zs i m k s t W0 wr HRI.out HBZ.out hm hlen HB.out (by rw [HW0.out]; exact HR.out) m' k' s' t' y hst
      rw [HW0.out] at hstep
      have eg := fnK_eg i
      obtain ⟨fn, hfn⟩ : ∃ fn, fnK i = fn := ⟨_, rfl⟩
      rw [hfn] at eg hstep hcell
      have HST := Lib.hid hstep
      have HRUN2 := Lib.hid hrun
      have HN' := Lib.hid hn
      have hi4 : (i : Int) + 1 ≤ 4 := by omega
      clear hst hstep hrun hfn hn
      by_cases hy : y = 0
      · subst hy
        go_wp2_with (first
          | (with_reducible refine HST.out.mono ?_; rintro e w1 ⟨rfl, hr1, hg1, hm1⟩; have HR1 := Lib.hid hr1; have HM1 := Lib.hid hm1; have HB1 := Lib.hid (HB.out.grown hg1 HB.out.size (fun q e => by cases e; exact Nat.le_of_eq HW0.out)); have HF1 := Lib.hid ((hg1.block _ (Array.getElem?_eq_some_iff.1 HF.out).1 (by simp)).trans HF.out); have HO1 : Hid (OB w1 w.heap.size 0 ⟨#[]⟩ ⟨#[]⟩) := Lib.hid (HO.out.grown hg1 (by omega)); clear hr1 hg1 hm1))
        go_roundw
        case rel =>
          have h1 := HRUN2.out
          rw [if_neg (by simp)] at h1
          exact ⟨i + 1, m', k', s', t', by go_num, by omega, HM1.out, HR1, Lib.hid (by rw [show 4 - (i + 1) = n from by have := HN'.out; omega]; exact h1), HF1, HO1, HB1⟩
        case measure => simp [intOf]; omega
      · have hy1 : (y != 0) = true := by simpa using hy
        have h1 := HRUN2.out
        rw [if_pos hy] at h1
        obtain rfl := h1
        go_wp2_with (first
          | (with_reducible refine HST.out.mono ?_; rintro e w1 ⟨rfl, hr1, hg1, hm1⟩; have HB1 := Lib.hid (HB.out.grown hg1 HB.out.size (fun q e => by cases e; exact Nat.le_of_eq HW0.out)); have HO1 : Hid (OB w1 w.heap.size 0 ⟨#[]⟩ ⟨#[]⟩) := Lib.hid (HO.out.grown hg1 (by omega)); clear hr1 hg1 hm1)
          | (refine wpList_store_row rfl 36 _ _ rfl w.heap.size (oA 0 ⟨#[]⟩ ⟨#[]⟩) rfl rfl _ _ HO1.out (op_info _ rfl) rfl (op_one _ _ _) ?_))
        refine bodyPost_ret_by (results_row_tmp2 rfl _ _ w.heap.size _ rfl (HO1.out.row 0 ⟨#[]⟩ ⟨#[]⟩).load) rfl ⟨rfl, brow (bch HB0.out HB1.out) (Nat.le_refl _) (Nat.le_refl _) _⟩
    · obtain rfl : i = 4 := by omega
      have h1 := HN.out
      simp only [Nat.sub_self, runR] at h1
      obtain rfl := h1
      go_wp2_with fail
      refine wp_region_held_drew (S := (fun W' => RD W' (w.heap.size + 1) (.slice p len c) m k s t)) (by kernel_rfl) (HR.out.keep ((Below.refl _ _).drew)) (fun hS => ?_)
      refine wpAnyH_take (i := 0) (oi := ({ dst := some 33, op := Op.move (Operand.tmp 5), type := 47, pos := "op.go:45", after := #[], guard := none } : Oper)) (v := ?_) rfl (by kernel_rfl) (by kernel_rfl) (by kernel_rfl) (fun _ _ _ h => h) (Or.inl ⟨by rfl, ?_⟩) hS ?_
      rotate_left
      · (intro w hSw; (try dsimp only at hSw); go_simp; try with_reducible rfl)
      (try simp only [Act.put, List.setIfInBounds_toArray, List.set_cons_zero, List.set_cons_succ])
      refine wpAnyH_take (i := 1) (oi := ({ dst := some 34, op := Op.nilCheck (Operand.tmp 33), type := 0, pos := "op.go:45", after := #[{ on := 0, ground := Ground.data }], guard := none } : Oper)) (v := ?_) rfl (by kernel_rfl) (by kernel_rfl) (by kernel_rfl) (fun _ _ _ h => h) (Or.inl ⟨by rfl, ?_⟩) hS ?_
      rotate_left
      · (intro w hSw; (try dsimp only at hSw); go_simp; try with_reducible rfl)
      (try simp only [Act.put, List.setIfInBounds_toArray, List.set_cons_zero, List.set_cons_succ])
      refine wpAnyH_take (i := 2) (oi := ({ dst := some 35, op := Op.fieldAddr 49 (Operand.tmp 34) 2, type := 0, pos := "op.go:45", after := #[{ on := 1, ground := Ground.data }], guard := none } : Oper)) (v := ?_) rfl (by kernel_rfl) (by kernel_rfl) (by kernel_rfl) (fun _ _ _ h => h) (Or.inl ⟨by rfl, ?_⟩) hS ?_
      rotate_left
      · (intro w hSw; (try dsimp only at hSw); go_simp; try with_reducible rfl)
      (try simp only [Act.put, List.setIfInBounds_toArray, List.set_cons_zero, List.set_cons_succ])
      refine wpAnyH_take (i := 3) (oi := ({ dst := some 36, op := Op.load 36 (Operand.tmp 35), type := 36, pos := "op.go:45", after := #[{ on := 2, ground := Ground.data }], guard := none } : Oper)) (v := ?_) rfl (by kernel_rfl) (by kernel_rfl) (by kernel_rfl) (fun _ _ _ h => h) (Or.inl ⟨by rfl, ?_⟩) hS ?_
      rotate_left
      · (intro w hSw; (try dsimp only at hSw); obtain ⟨q0, q1, q2, q3, q4⟩ := RD.cells hSw; go_simp; try with_reducible rfl)
      (try simp only [Act.put, List.setIfInBounds_toArray, List.set_cons_zero, List.set_cons_succ])
      refine wpAnyH_take (i := 4) (oi := ({ dst := some 37, op := Op.move (Operand.tmp 5), type := 47, pos := "op.go:45", after := #[{ on := 8, ground := Ground.gcOnly Departure.lateStores }], guard := none } : Oper)) (v := ?_) rfl (by kernel_rfl) (by kernel_rfl) (by kernel_rfl) (fun _ _ _ h => h) (Or.inl ⟨by rfl, ?_⟩) hS ?_
      rotate_left
      · (intro w hSw; (try dsimp only at hSw); go_simp; try with_reducible rfl)
      (try simp only [Act.put, List.setIfInBounds_toArray, List.set_cons_zero, List.set_cons_succ])
      refine wpAnyH_take (i := 5) (oi := ({ dst := some 38, op := Op.nilCheck (Operand.tmp 37), type := 0, pos := "op.go:45", after := #[{ on := 4, ground := Ground.data }, { on := 8, ground := Ground.gcOnly Departure.lateStores }], guard := none } : Oper)) (v := ?_) rfl (by kernel_rfl) (by kernel_rfl) (by kernel_rfl) (fun _ _ _ h => h) (Or.inl ⟨by rfl, ?_⟩) hS ?_
      rotate_left
      · (intro w hSw; (try dsimp only at hSw); go_simp; try with_reducible rfl)
      (try simp only [Act.put, List.setIfInBounds_toArray, List.set_cons_zero, List.set_cons_succ])
      refine wpAnyH_take (i := 6) (oi := ({ dst := some 39, op := Op.fieldAddr 49 (Operand.tmp 38) 1, type := 0, pos := "op.go:45", after := #[{ on := 5, ground := Ground.data }, { on := 8, ground := Ground.gcOnly Departure.lateStores }], guard := none } : Oper)) (v := ?_) rfl (by kernel_rfl) (by kernel_rfl) (by kernel_rfl) (fun _ _ _ h => h) (Or.inl ⟨by rfl, ?_⟩) hS ?_
      rotate_left
      · (intro w hSw; (try dsimp only at hSw); go_simp; try with_reducible rfl)
      (try simp only [Act.put, List.setIfInBounds_toArray, List.set_cons_zero, List.set_cons_succ])
      refine wpAnyH_take (i := 7) (oi := ({ dst := some 40, op := Op.load 3 (Operand.tmp 39), type := 3, pos := "op.go:45", after := #[{ on := 6, ground := Ground.data }, { on := 8, ground := Ground.gcOnly Departure.lateStores }], guard := none } : Oper)) (v := ?_) rfl (by kernel_rfl) (by kernel_rfl) (by kernel_rfl) (fun _ _ _ h => h) (Or.inl ⟨by rfl, ?_⟩) hS ?_
      rotate_left
      · (intro w hSw; (try dsimp only at hSw); obtain ⟨q0, q1, q2, q3, q4⟩ := RD.cells hSw; go_simp; try with_reducible rfl)
      (try simp only [Act.put, List.setIfInBounds_toArray, List.set_cons_zero, List.set_cons_succ])
      refine rg_one 8 ({ dst := none, op := Op.store 36 (Operand.tmp 2) (Operand.tmp 36), type := 0, pos := "op.go:45", after := #[{ on := 3, ground := Ground.data }, { on := 0, ground := Ground.phase }, { on := 1, ground := Ground.phase }, { on := 2, ground := Ground.phase }, { on := 3, ground := Ground.phase }, { on := 4, ground := Ground.textOnly Departure.lateStores }, { on := 5, ground := Ground.textOnly Departure.lateStores }, { on := 6, ground := Ground.textOnly Departure.lateStores }, { on := 7, ground := Ground.textOnly Departure.lateStores }], guard := none } : Oper) (by kernel_rfl) rfl (fun K hK => ?_)
      rw [if_pos (by rfl)]; refine wp_store_row 36 (.tmp 2) (.tmp 36) rfl w.heap.size (oA k s t) rfl rfl _ _ (show OB wr.drew w.heap.size 0 ⟨#[]⟩ ⟨#[]⟩ from HO.out) (op_info _ rfl) rfl (op_one _ _ _) ?_; have hN := RD.row_apart hS (b' := w.heap.size) (by omega) (oA k s t)
      refine hK.out _ _ ?_ (fun hS1 => ?_)
      · (exact hN)
      clear hK K hS; have hS := hS1; clear hS1
      (try simp only [Act.put])
      refine wpAnyH_take (i := 9) (oi := ({ dst := some 3, op := Op.assign (Operand.tmp 40), type := 3, pos := "op.go:45", after := #[{ on := 7, ground := Ground.data }, { on := 8, ground := Ground.chain }, { on := 0, ground := Ground.phase }, { on := 1, ground := Ground.phase }, { on := 2, ground := Ground.phase }, { on := 3, ground := Ground.phase }, { on := 4, ground := Ground.phase }, { on := 5, ground := Ground.phase }, { on := 6, ground := Ground.phase }, { on := 7, ground := Ground.phase }, { on := 8, ground := Ground.phase }], guard := none } : Oper)) (v := ?_) rfl (by kernel_rfl) (by kernel_rfl) (by kernel_rfl) (fun _ _ _ h => h) (Or.inl ⟨by rfl, ?_⟩) hS ?_
      rotate_left
      · (intro w hSw; (try dsimp only at hSw); go_simp; try with_reducible rfl)
      (try simp only [Act.put, List.setIfInBounds_toArray, List.set_cons_zero, List.set_cons_succ])
      refine wpAnyH_take (i := 10) (oi := ({ dst := some 4, op := Op.assign (Operand.const (Value.int IntKind.i64 0)), type := 25, pos := "op.go:45", after := #[{ on := 9, ground := Ground.chain }, { on := 0, ground := Ground.phase }, { on := 1, ground := Ground.phase }, { on := 2, ground := Ground.phase }, { on := 3, ground := Ground.phase }, { on := 4, ground := Ground.phase }, { on := 5, ground := Ground.phase }, { on := 6, ground := Ground.phase }, { on := 7, ground := Ground.phase }, { on := 8, ground := Ground.phase }, { on := 9, ground := Ground.phase }], guard := none } : Oper)) (v := ?_) rfl (by kernel_rfl) (by kernel_rfl) (by kernel_rfl) (fun _ _ _ h => h) (Or.inl ⟨by rfl, ?_⟩) hS ?_
      rotate_left
      · (intro w hSw; (try dsimp only at hSw); go_simp; try with_reducible rfl)
      (try simp only [Act.put, List.setIfInBounds_toArray, List.set_cons_zero, List.set_cons_succ])
      refine wpAnyH_done (by kernel_rfl) ?_ _
      have HO1 : Hid (OB (World.setRow wr.drew w.heap.size (oA k s t)) w.heap.size k s t) := Lib.hid (OB.row (w := wr.drew) HO.out k s t)
      have HB1 := Lib.hid (brow (bch HB0.out HB.out).drew (b := w.heap.size) (Nat.le_refl _) (Nat.le_refl _) (oA k s t))
      clear hS hN
      go_wp2
      refine bodyPost_ret_by (results_row_tmp2 rfl _ _ w.heap.size _ rfl HO1.out.load) rfl ⟨rfl, HB1.out⟩
end Go.Proofs.Ytmcfnlfaclkbhaa
