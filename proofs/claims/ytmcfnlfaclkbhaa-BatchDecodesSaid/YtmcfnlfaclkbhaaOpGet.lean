/-
  WHAT THE DOCUMENT'S ANSWERS OF LAYER 10 (op) ANSWER: the reference's Get. No condition of ours but bounds on lengths.
-/
import Derived.Test.YtmcfnlfaclkbhaaOpRef
import Derived.Lib.SmallJoins
namespace Go.Proofs.Ytmcfnlfaclkbhaa
open Go.RowKit
abbrev oA (k : Int) (s t : ByteArray) : Array Value := #[.int .i64 k, .string s, .string t]
abbrev noO : (Int × ByteArray × ByteArray) := (0, ⟨#[]⟩, ⟨#[]⟩)
/-- what bytes begin with -/
def opG (zs : List Int) : (Int × ByteArray × ByteArray) × Nat × Int :=
  match zs with
  | [] => (noO, 0, 1)
  | h :: r =>
    if h ≠ 1 ∧ h ≠ 2 then (noO, 0, 2) else
    if (gf r).2.2 ≠ 0 then (noO, 0, (gf r).2.2) else
    if h = 1 then
      if (gf (r.drop (gf r).2.1)).2.2 ≠ 0 then (noO, 0, (gf (r.drop (gf r).2.1)).2.2) else
      if opRight 1 (ls (gf r).1) (ls (gf (r.drop (gf r).2.1)).1) = true then ((1, ls (gf r).1, ls (gf (r.drop (gf r).2.1)).1), 1 + (gf r).2.1 + (gf (r.drop (gf r).2.1)).2.1, 0) else (noO, 0, 2)
    else if opRight 2 (ls (gf r).1) ⟨#[]⟩ = true then ((2, ls (gf r).1, ⟨#[]⟩), 1 + (gf r).2.1, 0) else (noO, 0, 2)
theorem op_info (c : Array Value) (h : c.size = 3) : (Try.prog.info? 36).map (·.size) = some c.size := by rw [h]; kernel_rfl
theorem op_one (k : Int) (s t : ByteArray) : (oA k s t).all (·.oneCell') = true := by simp [oA, Value.oneCell']
def OB (w : World) (b : Nat) (k : Int) (s t : ByteArray) : Prop := w.heap[b]? = some (.cells (oA k s t) 36 (0, 0))
theorem OB.keep {w w' : World} {b : Nat} {k : Int} {s t : ByteArray} (h : OB w b k s t) (hb : Below w.heap.size w w') : OB w' b k s t := (hb.block b (Array.getElem?_eq_some_iff.1 h).1).trans h
theorem OB.load {w : World} {b : Nat} {k : Int} {s t : ByteArray} (h : OB w b k s t) : (loadVar 36 ⟨b, 0, none⟩).run Try.prog w = .ok (.agg (oA k s t)) w :=
  run_loadVar_row w b _ 36 (oA k s t) (0, 0) _ h Try.underlying36 rfl (op_info _ rfl)
theorem OB.row {w : World} {b : Nat} {k : Int} {s t : ByteArray} (h : OB w b k s t) (k' : Int) (s' t' : ByteArray) : OB (w.setRow b (oA k' s' t')) b k' s' t' := setRow_heap w b _ _ _ _ h
theorem OB.apart {w : World} {b b' : Nat} {k : Int} {s t : ByteArray} (h : OB w b k s t) (hne : b ≠ b') (c : Array Value) : OB (w.setRow b' c) b k s t := (setRow_other w b' b c hne).trans h
theorem OB.set2 {w : World} {b : Nat} {k : Int} {s t : ByteArray} (h : OB w b k s t) (t' : ByteArray) : OB (w.setCell ⟨b, 2, none⟩ (.string t')) b k s t' := Joins.block_setCell h _
theorem OB.set_apart {w : World} {b b' : Nat} {k : Int} {s t : ByteArray} (h : OB w b k s t) (hne : b ≠ b') (j : Nat) (v : Value) : OB (w.setCell ⟨b', j, none⟩ v) b k s t := (heap_setCell_other w ⟨b', j, none⟩ b v hne).trans h
theorem OB.frozen {w : World} {b : Nat} {k : Int} {s t : ByteArray} (h : OB w b k s t) (j : Nat) : w.frozen? ⟨b, j, none⟩ = false := Joins.unfrozen_of_block h j
theorem OB.lt {w : World} {b : Nat} {k : Int} {s t : ByteArray} (h : OB w b k s t) : b < w.heap.size := (Array.getElem?_eq_some_iff.1 h).1
theorem OB.cells {w : World} {b : Nat} {k : Int} {s t : ByteArray} (h : OB w b k s t) : w.cell? ⟨b, 0, none⟩ = some (.int .i64 k) ∧ w.cell? ⟨b, 1, none⟩ = some (.string s) ∧ w.cell? ⟨b, 2, none⟩ = some (.string t) :=
  ⟨cell_of_row w b 0 _ _ _ h, cell_of_row w b 1 _ _ _ h, cell_of_row w b 2 _ _ _ h⟩
set_option maxRecDepth 8000 in
set_option maxHeartbeats 4000000 in
theorem roget_any (v : Value) (len : Nat) (zs : List Int) (w : World) (hri : RI .u8 w v len zs) (hb : isB zs) (hlen : (len : Int) ≤ 200000000000000) :
    Calls Try.prog 21 #[v] w fun e w' => e = .returned (.tuple #[.agg (oA (opG zs).1.1 (opG zs).1.2.1 (opG zs).1.2.2), .int .i64 (opG zs).2.1, .int .i64 (opG zs).2.2]) ∧ Below w.heap.size w w' := by
  have hz := hri.length
  have hA0 : OB (w.alloc (.cells (oA 0 ⟨#[]⟩ ⟨#[]⟩) 36)) w.heap.size 0 ⟨#[]⟩ ⟨#[]⟩ := heap_alloc_last w _
  have hB0 := balloc w (.cells (oA 0 ⟨#[]⟩ ⟨#[]⟩) 36)
  have HRI := Lib.hid (hri.keep hB0)
  obtain ⟨a, cap, rfl⟩ : ∃ a cap, v = .slice a len cap := by obtain ⟨a, c, e, _⟩ := hri; exact ⟨a, c, e⟩
  cases zs with
  | nil =>
    obtain rfl : len = 0 := by simpa using hz.symm
    have HA0 := Lib.hid hA0
    have HB0 := Lib.hid hB0
    clear hri hb hA0 hB0
    go_enter Try.func21, Try.ntmps21
    go_wp2
    refine bodyPost_ret_by (results_row_tmp2 rfl _ _ w.heap.size _ rfl HA0.out.load) rfl ⟨rfl, HB0.out⟩
  | cons h r =>
    have hl0 : 0 < len := by simp at hz; omega
    have hl1 : ¬ (len : Int) = 0 := by omega
    have HZR : Hid (r.length = len - 1) := Lib.hid (by simp at hz; omega)
    have HLEN := Lib.hid hlen
    have hbr : isB r := fun x hx => hb x (List.mem_cons_of_mem _ hx)
    have hh : 0 ≤ h ∧ h ≤ 255 := hb h (by simp)
    obtain ⟨b, off, rfl, hcell⟩ := (hri.keep hB0).at_ (by omega)
    have hc0 := hcell 0 (by omega)
    rw [Nat.add_zero, show (h :: r).getD 0 0 = h from rfl] at hc0
    have HCE := Lib.hid hc0
    have HA0 := Lib.hid hA0
    have HB0 := Lib.hid hB0
    have HBR := Lib.hid hbr
    have hlm : (0 : Int) < (len : Int) := by omega
    clear hri hb hA0 hB0 hcell hz hlen
    by_cases hk : h = 1 ∨ h = 2
    · have hk' : ¬ (h ≠ 1 ∧ h ≠ 2) := by omega
      obtain ⟨⟨f, n, e1⟩, hg⟩ : ∃ g, gf r = g := ⟨_, rfl⟩
      have hnl := gf_le r hbr
      have hfl := gf_len r hbr
      rw [hg] at hnl hfl
      simp only at hnl hfl
      have HG := Lib.hid hg
      by_cases he1 : e1 = 0
      · subst he1
        rcases hk with rfl | rfl
        -- BEGIN g13
        · obtain ⟨g, hGg⟩ : ∃ g, opG (1 :: r) = g := ⟨_, rfl⟩
          rw [hGg]
          have HGG := Lib.hid hGg
          clear hGg
          obtain ⟨⟨f2, n2, e2⟩, hg2⟩ : ∃ g, gf (r.drop n) = g := ⟨_, rfl⟩
          have HBD : Hid (isB (r.drop n)) := Lib.hid (fun x hx => hbr x (List.mem_of_mem_drop hx))
          have HN2 : Hid (n2 ≤ r.length - n) := Lib.hid (by have := gf_le _ HBD.out; rw [hg2, List.length_drop] at this; exact this)
          have HG2 := Lib.hid hg2
          have HNL := Lib.hid hnl
          have HG' : Hid ((gf r).2.1 = n ∧ (gf r).1 = f) := Lib.hid (by rw [hg]; exact ⟨rfl, rfl⟩)
          clear hg2
          go_enter Try.func21, Try.ntmps21
          go_wp2_with (first
            | (refine wpl_from rfl (.tmp 28) (.const (.int .i64 1)) rfl _ len 1 _ rfl rfl HRI.out (by omega) ?_; intro p1 c1 hr1; have HR1 : Hid (RI .u8 _ (.slice p1 (len - 1) c1) (len - 1) r) := Lib.hid hr1; clear hr1)
            | (go_at_call 30; (with_reducible refine (rgetf_any _ (len - 1) r _ HR1.out HBR.out (by have := HLEN.out; omega) f n 0 HG.out).mono ?_); rintro e w2 ⟨v2, rfl, ho2, hb2⟩; obtain ⟨p2, c2, rfl⟩ := own_form ho2; have HF2 := Lib.hid (RI.own ho2); have HA2 := Lib.hid (HA0.out.keep hb2); have HB2 := Lib.hid (bch HB0.out hb2); have HRI2 := Lib.hid (HRI.out.keep hb2); have HCE2 := Lib.hid (cell_keep hb2 HCE.out); clear ho2 hb2))
          refine wp_region_held_drew (S := (fun W' => Below w2.heap.size w2 W')) (by kernel_rfl) ((Below.refl _ _).drew) (fun hS => ?_)
          refine wpAnyH_take (i := 0) (oi := ({ dst := some 38, op := Op.move (Operand.tmp 0), type := 24, pos := "ref.go:38", after := #[], guard := none } : Oper)) (v := ?_) rfl (by kernel_rfl) (by kernel_rfl) (by kernel_rfl) (fun _ _ _ h => h) (Or.inl ⟨by rfl, ?_⟩) hS ?_
          rotate_left
          · (intro w hSw; (try dsimp only at hSw); go_simp; try with_reducible rfl)
          (try simp only [Act.put, List.setIfInBounds_toArray, List.set_cons_zero, List.set_cons_succ])
          refine wpAnyH_take (i := 1) (oi := ({ dst := some 39, op := Op.indexAddr 24 (Operand.tmp 38) (Operand.const (Value.int IntKind.i64 0)), type := 0, pos := "ref.go:38", after := #[{ on := 0, ground := Ground.data }], guard := none } : Oper)) (v := ?_) rfl (by kernel_rfl) (by kernel_rfl) (by kernel_rfl) (fun _ _ _ h => h) (Or.inl ⟨by rfl, ?_⟩) hS ?_
          rotate_left
          · (intro w hSw; (try dsimp only at hSw); go_simp; try with_reducible rfl)
          (try simp only [Act.put, List.setIfInBounds_toArray, List.set_cons_zero, List.set_cons_succ])
          refine wpAnyH_take (i := 2) (oi := ({ dst := some 40, op := Op.load 5 (Operand.tmp 39), type := 5, pos := "ref.go:38", after := #[{ on := 1, ground := Ground.data }], guard := none } : Oper)) (v := ?_) rfl (by kernel_rfl) (by kernel_rfl) (by kernel_rfl) (fun _ _ _ h => h) (Or.inl ⟨by rfl, ?_⟩) hS ?_
          rotate_left
          · (intro w hSw; (try dsimp only at hSw); have z := cell_keep hSw HCE2.out; go_simp; try with_reducible rfl)
          (try simp only [Act.put, List.setIfInBounds_toArray, List.set_cons_zero, List.set_cons_succ])
          refine wpAnyH_take (i := 3) (oi := ({ dst := some 41, op := Op.convert 5 3 (Operand.tmp 40), type := 3, pos := "ref.go:38", after := #[{ on := 2, ground := Ground.data }], guard := none } : Oper)) (v := ?_) rfl (by kernel_rfl) (by kernel_rfl) (by kernel_rfl) (fun _ _ _ h => h) (Or.inl ⟨by rfl, ?_⟩) hS ?_
          rotate_left
          · (intro w hSw; (try dsimp only at hSw); go_simp; try with_reducible rfl)
          (try simp only [Act.put, List.setIfInBounds_toArray, List.set_cons_zero, List.set_cons_succ])
          refine wpAnyH_take (i := 4) (oi := ({ dst := some 42, op := Op.move (Operand.tmp 5), type := 24, pos := "ref.go:38", after := #[], guard := none } : Oper)) (v := ?_) rfl (by kernel_rfl) (by kernel_rfl) (by kernel_rfl) (fun _ _ _ h => h) (Or.inl ⟨by rfl, ?_⟩) hS ?_
          rotate_left
          · (intro w hSw; (try dsimp only at hSw); go_simp; try with_reducible rfl)
          (try simp only [Act.put, List.setIfInBounds_toArray, List.set_cons_zero, List.set_cons_succ])
          refine wpAnyH_take (i := 5) (oi := ({ dst := some 43, op := Op.convert 24 9 (Operand.tmp 42), type := 9, pos := "ref.go:38", after := #[{ on := 4, ground := Ground.data }], guard := none } : Oper)) (v := .string (ls f)) rfl (by kernel_rfl) (by kernel_rfl) (by kernel_rfl) (fun _ _ _ h => h) (Or.inl ⟨by rfl, ?_⟩) hS ?_
          · (intro w hSw; (try dsimp only at hSw); exact exec_text_of (.tmp 42) rfl _ f.length f rfl (HF2.out.keep hSw))
          (try simp only [Act.put, List.setIfInBounds_toArray, List.set_cons_zero, List.set_cons_succ])
          refine wpAnyH_take (i := 6) (oi := ({ dst := some 44, op := Op.build 36 #[(0, Operand.tmp 41), (1, Operand.tmp 43)], type := 36, pos := "ref.go:38", after := #[{ on := 3, ground := Ground.data }, { on := 5, ground := Ground.data }], guard := none } : Oper)) (v := ?_) rfl (by kernel_rfl) (by kernel_rfl) (by kernel_rfl) (fun _ _ _ h => h) (Or.inl ⟨by rfl, ?_⟩) hS ?_
          rotate_left
          · (intro w hSw; (try dsimp only at hSw); go_simp; try with_reducible rfl)
          (try simp only [Act.put, List.setIfInBounds_toArray, List.set_cons_zero, List.set_cons_succ])
          refine rg_one 7 ({ dst := some 8, op := Op.alloc 36, type := 0, pos := "ref.go:38", after := #[], guard := none } : Oper) (by kernel_rfl) rfl (fun K hK => ?_)
          go_simp
          have hb3 := bdrew0 w2 (.cells (oA 0 ⟨#[]⟩ ⟨#[]⟩) 36); have HO3 : Hid (OB (w2.alloc (.cells (oA 0 ⟨#[]⟩ ⟨#[]⟩) 36)).drew w2.heap.size 0 ⟨#[]⟩ ⟨#[]⟩) := Lib.hid (heap_alloc_last w2 _); have hN := hb3
          refine hK.out _ _ ?_ (fun hS1 => ?_)
          · (first | exact hN | exact hS)
          clear hK K hS; have hS := hS1; clear hS1
          (try simp only [Act.put, List.setIfInBounds_toArray, List.set_cons_zero, List.set_cons_succ])
          refine rg_one 8 ({ dst := none, op := Op.store 36 (Operand.tmp 8) (Operand.tmp 44), type := 0, pos := "ref.go:38", after := #[{ on := 7, ground := Ground.data }, { on := 6, ground := Ground.data }, { on := 0, ground := Ground.phase }, { on := 1, ground := Ground.phase }, { on := 2, ground := Ground.phase }, { on := 3, ground := Ground.phase }, { on := 4, ground := Ground.phase }, { on := 5, ground := Ground.phase }, { on := 6, ground := Ground.phase }, { on := 7, ground := Ground.phase }], guard := none } : Oper) (by kernel_rfl) rfl (fun K hK => ?_)
          rw [if_pos (by rfl)]; refine wp_store_row 36 (.tmp 8) (.tmp 44) rfl w2.heap.size (oA 1 (ls f) ⟨#[]⟩) rfl rfl _ _ HO3.out (op_info _ rfl) rfl (op_one _ _ _) ?_; have HO4 := Lib.hid (HO3.out.row 1 (ls f) ⟨#[]⟩); have HB24 := Lib.hid (brow hb3 (Nat.le_refl _) (Nat.le_refl _) (oA 1 (ls f) ⟨#[]⟩)); (try clear hN); have hN := HB24.out
          refine hK.out _ _ ?_ (fun hS1 => ?_)
          · (first | exact hN | exact hS)
          clear hK K hS; have hS := hS1; clear hS1
          (try simp only [Act.put])
          refine wpAnyH_done (by kernel_rfl) ?_ _
          obtain ⟨w4, hw4⟩ : ∃ w4, World.setRow (w2.alloc (.cells (oA 0 ⟨#[]⟩ ⟨#[]⟩) 36)).drew w2.heap.size (oA 1 (ls f) ⟨#[]⟩) = w4 := ⟨_, rfl⟩
          rw [hw4] at HO4 HB24 ⊢
          clear hS hN hb3 HO3 hw4
          have HA4 := Lib.hid (HA2.out.keep HB24.out)
          have HB4 := Lib.hid (bch HB2.out HB24.out)
          have HRI4 := Lib.hid (HRI2.out.keep HB24.out)
          have hc4 := cell_keep HB24.out HCE2.out
          have hn4 : (n : Int) + 1 ≤ 200000000000001 := by have := HLEN.out; have := HZR.out; omega
          have HW1 : Hid (wrap64 ((n : Int) + 1) = ((n + 1 : Nat) : Int)) := Lib.hid (by rw [IntWalk.wrap64_in _ (by omega)]; omega)
          by_cases he2 : e2 = 0
          · subst he2
            have hw2 : (n : Int) + 1 + n2 ≤ 200000000000001 := by have := HLEN.out; have := HZR.out; have := HN2.out; have := HNL.out; omega
            have HW2 : Hid (wrap64 (wrap64 ((n : Int) + 1) + (n2 : Int)) = ((1 + n + n2 : Nat) : Int)) := Lib.hid (by rw [HW1.out, IntWalk.wrap64_in _ (by omega)]; omega)
            obtain ⟨y, hy⟩ : ∃ y, opRight 1 (ls f) (ls f2) = y := ⟨_, rfl⟩
            clear hw2 hn4
            have HRR : Hid (∀ W, Calls Try.prog 18 #[.agg (oA 1 (ls f) (ls f2))] W fun e w' => e = .returned (.bool y) ∧ Below W.heap.size W w') := Lib.hid fun W => by have := roright_any 1 (ls f) (ls f2) W; rwa [hy] at this
            cases y with
            | true =>
              have hG : opG (1 :: r) = ((1, ls f, ls f2), 1 + n + n2, 0) := by simp only [opG]; rw [if_neg hk', if_neg (by rw [hg]; simp), if_pos trivial, HG'.out.1, HG'.out.2, HG2.out, if_neg (by simp), if_pos hy]
              obtain rfl := HGG.out.symm.trans hG
              clear hg hnl hfl hG hk' hbr hy HGG HG'
              go_wp2_with (first
                | (refine wpl_from rfl (.tmp 52) (.tmp 53) rfl _ len (n + 1) _ rfl (congrArg (Value.int .i64) HW1.out) HRI4.out (by have := HNL.out; have := HZR.out; omega) ?_; intro p4 c4 hr4; have HR4 : Hid (RI .u8 w4 (.slice p4 (len - (n + 1)) c4) (len - (n + 1)) (r.drop n)) := Lib.hid hr4; clear hr4)
                | (go_at_call 30; (with_reducible refine (rgetf_any _ (len - (n + 1)) (r.drop n) _ HR4.out HBD.out (by have := HLEN.out; omega) f2 n2 0 HG2.out).mono ?_); rintro e w5 ⟨v5, rfl, ho5, hb5⟩; obtain ⟨p5, c5, rfl⟩ := own_form ho5; have HF5 := Lib.hid (RI.own ho5); have HA5 := Lib.hid (HA4.out.keep hb5); have HO5 := Lib.hid (HO4.out.keep hb5); have HB5 := Lib.hid (bch HB4.out hb5); have hfz5 := HO5.out.frozen 2; have hcz5 := HO5.out.cells.2.2; clear ho5 hb5)
                | (refine wpl_text_of rfl (.tmp 63) rfl _ f2.length f2 rfl HF5.out ?_; have HO6 := Lib.hid (HO5.out.set2 (ls f2)); have HA6 := Lib.hid (HA5.out.set_apart (Nat.ne_of_lt HA2.out.lt) 2 (.string (ls f2))); have HB6 := Lib.hid (bset HB5.out (b := w2.heap.size) (Nat.le_of_lt HA2.out.lt) (Nat.le_refl _) 2 (.string (ls f2))))
                | (refine wpList_load_row rfl 36 _ rfl w2.heap.size rfl _ (oA 1 (ls f) (ls f2)) (0, 0) _ HO6.out Try.underlying36 rfl (op_info _ rfl) ?_)
                | (go_at_call 18; (with_reducible refine (HRR.out _).mono ?_); rintro e w7 ⟨rfl, hb7⟩; have HA7 := Lib.hid (HA6.out.keep hb7); have HO7 := Lib.hid (HO6.out.keep hb7); have HB7 := Lib.hid (bch HB6.out hb7); clear hb7)
                | (refine wpList_load_row rfl 36 _ rfl w2.heap.size rfl _ (oA 1 (ls f) (ls f2)) (0, 0) _ HO7.out Try.underlying36 rfl (op_info _ rfl) ?_)
                | (refine wpList_store_row rfl 36 _ _ rfl w.heap.size (oA 1 (ls f) (ls f2)) rfl rfl _ _ HA7.out (op_info _ rfl) rfl (op_one _ _ _) ?_))
              refine bodyPost_ret_by (results_row_tmp2 rfl _ _ w.heap.size _ rfl (HA7.out.row 1 (ls f) (ls f2)).load) rfl ⟨?_, brow HB7.out (Nat.le_refl _) (Nat.le_refl _) _⟩
              exact congrArg (fun z => Ending.returned (.tuple #[.agg (oA 1 (ls f) (ls f2)), .int .i64 z, .int .i64 0])) HW2.out
            | false =>
              have hG : opG (1 :: r) = (noO, 0, 2) := by simp only [opG]; rw [if_neg hk', if_neg (by rw [hg]; simp), if_pos trivial, HG'.out.1, HG'.out.2, HG2.out, if_neg (by simp), if_neg (by rw [hy]; simp)]
              obtain rfl := HGG.out.symm.trans hG
              clear hg hnl hfl hG hk' hbr hy HGG HG'
              go_wp2_with (first
                | (refine wpl_from rfl (.tmp 52) (.tmp 53) rfl _ len (n + 1) _ rfl (congrArg (Value.int .i64) HW1.out) HRI4.out (by have := HNL.out; have := HZR.out; omega) ?_; intro p4 c4 hr4; have HR4 : Hid (RI .u8 w4 (.slice p4 (len - (n + 1)) c4) (len - (n + 1)) (r.drop n)) := Lib.hid hr4; clear hr4)
                | (go_at_call 30; (with_reducible refine (rgetf_any _ (len - (n + 1)) (r.drop n) _ HR4.out HBD.out (by have := HLEN.out; omega) f2 n2 0 HG2.out).mono ?_); rintro e w5 ⟨v5, rfl, ho5, hb5⟩; obtain ⟨p5, c5, rfl⟩ := own_form ho5; have HF5 := Lib.hid (RI.own ho5); have HA5 := Lib.hid (HA4.out.keep hb5); have HO5 := Lib.hid (HO4.out.keep hb5); have HB5 := Lib.hid (bch HB4.out hb5); have hfz5 := HO5.out.frozen 2; have hcz5 := HO5.out.cells.2.2; clear ho5 hb5)
                | (refine wpl_text_of rfl (.tmp 63) rfl _ f2.length f2 rfl HF5.out ?_; have HO6 := Lib.hid (HO5.out.set2 (ls f2)); have HA6 := Lib.hid (HA5.out.set_apart (Nat.ne_of_lt HA2.out.lt) 2 (.string (ls f2))); have HB6 := Lib.hid (bset HB5.out (b := w2.heap.size) (Nat.le_of_lt HA2.out.lt) (Nat.le_refl _) 2 (.string (ls f2))))
                | (refine wpList_load_row rfl 36 _ rfl w2.heap.size rfl _ (oA 1 (ls f) (ls f2)) (0, 0) _ HO6.out Try.underlying36 rfl (op_info _ rfl) ?_)
                | (go_at_call 18; (with_reducible refine (HRR.out _).mono ?_); rintro e w7 ⟨rfl, hb7⟩; have HA7 := Lib.hid (HA6.out.keep hb7); have HO7 := Lib.hid (HO6.out.keep hb7); have HB7 := Lib.hid (bch HB6.out hb7); clear hb7)
                | (refine wpList_store_row rfl 36 _ _ rfl w.heap.size (oA 0 ⟨#[]⟩ ⟨#[]⟩) rfl rfl _ _ HA7.out (op_info _ rfl) rfl (op_one _ _ _) ?_))
              refine bodyPost_ret_by (results_row_tmp2 rfl _ _ w.heap.size _ rfl (HA7.out.row 0 ⟨#[]⟩ ⟨#[]⟩).load) rfl ⟨?_, brow HB7.out (Nat.le_refl _) (Nat.le_refl _) _⟩
              rfl
          · have hG : opG (1 :: r) = (noO, 0, e2) := by simp only [opG]; rw [if_neg hk', if_neg (by rw [hg]; simp), if_pos trivial, HG'.out.1, HG2.out, if_pos he2]
            have he2' : (e2 != 0) = true := by simpa using he2
            clear hn4
            obtain rfl := HGG.out.symm.trans hG
            clear hg hnl hfl hG hk' hbr HGG HG'
            go_wp2_with (first
              | (refine wpl_from rfl (.tmp 52) (.tmp 53) rfl _ len (n + 1) _ rfl (congrArg (Value.int .i64) HW1.out) HRI4.out (by have := HNL.out; have := HZR.out; omega) ?_; intro p4 c4 hr4; have HR4 : Hid (RI .u8 w4 (.slice p4 (len - (n + 1)) c4) (len - (n + 1)) (r.drop n)) := Lib.hid hr4; clear hr4)
              | (go_at_call 30; (with_reducible refine (rgetf_any _ (len - (n + 1)) (r.drop n) _ HR4.out HBD.out (by have := HLEN.out; omega) f2 n2 e2 HG2.out).mono ?_); rintro e w5 ⟨v5, rfl, ho5, hb5⟩; obtain ⟨p5, c5, rfl⟩ := own_form ho5; have HF5 := Lib.hid (RI.own ho5); have HA5 := Lib.hid (HA4.out.keep hb5); have HO5 := Lib.hid (HO4.out.keep hb5); have HB5 := Lib.hid (bch HB4.out hb5); have hfz5 := HO5.out.frozen 2; have hcz5 := HO5.out.cells.2.2; clear ho5 hb5)
              | (refine wpList_store_row rfl 36 _ _ rfl w.heap.size (oA 0 ⟨#[]⟩ ⟨#[]⟩) rfl rfl _ _ HA5.out (op_info _ rfl) rfl (op_one _ _ _) ?_))
            refine bodyPost_ret_by (results_row_tmp2 rfl _ _ w.heap.size _ rfl (HA5.out.row 0 ⟨#[]⟩ ⟨#[]⟩).load) rfl ⟨?_, brow HB5.out (Nat.le_refl _) (Nat.le_refl _) _⟩
            rfl
        -- END g13
        · obtain ⟨g, hGg⟩ : ∃ g, opG (2 :: r) = g := ⟨_, rfl⟩
          rw [hGg]
          have HGG := Lib.hid hGg
          clear hGg
          go_enter Try.func21, Try.ntmps21
          go_wp2_with (first
            | (refine wpl_from rfl (.tmp 28) (.const (.int .i64 1)) rfl _ len 1 _ rfl rfl HRI.out (by omega) ?_; intro p1 c1 hr1; have HR1 : Hid (RI .u8 _ (.slice p1 (len - 1) c1) (len - 1) r) := Lib.hid hr1; clear hr1)
            | (go_at_call 30; (with_reducible refine (rgetf_any _ (len - 1) r _ HR1.out HBR.out (by have := HLEN.out; omega) f n 0 HG.out).mono ?_); rintro e w2 ⟨v2, rfl, ho2, hb2⟩; obtain ⟨p2, c2, rfl⟩ := own_form ho2; have HF2 := Lib.hid (RI.own ho2); have HA2 := Lib.hid (HA0.out.keep hb2); have HB2 := Lib.hid (bch HB0.out hb2); have HRI2 := Lib.hid (HRI.out.keep hb2); have HCE2 := Lib.hid (cell_keep hb2 HCE.out); clear ho2 hb2))
          refine wp_region_held_drew (S := (fun W' => Below w2.heap.size w2 W')) (by kernel_rfl) ((Below.refl _ _).drew) (fun hS => ?_)
          refine wpAnyH_take (i := 0) (oi := ({ dst := some 38, op := Op.move (Operand.tmp 0), type := 24, pos := "ref.go:38", after := #[], guard := none } : Oper)) (v := ?_) rfl (by kernel_rfl) (by kernel_rfl) (by kernel_rfl) (fun _ _ _ h => h) (Or.inl ⟨by rfl, ?_⟩) hS ?_
          rotate_left
          · (intro w hSw; (try dsimp only at hSw); go_simp; try with_reducible rfl)
          (try simp only [Act.put, List.setIfInBounds_toArray, List.set_cons_zero, List.set_cons_succ])
          refine wpAnyH_take (i := 1) (oi := ({ dst := some 39, op := Op.indexAddr 24 (Operand.tmp 38) (Operand.const (Value.int IntKind.i64 0)), type := 0, pos := "ref.go:38", after := #[{ on := 0, ground := Ground.data }], guard := none } : Oper)) (v := ?_) rfl (by kernel_rfl) (by kernel_rfl) (by kernel_rfl) (fun _ _ _ h => h) (Or.inl ⟨by rfl, ?_⟩) hS ?_
          rotate_left
          · (intro w hSw; (try dsimp only at hSw); go_simp; try with_reducible rfl)
          (try simp only [Act.put, List.setIfInBounds_toArray, List.set_cons_zero, List.set_cons_succ])
          refine wpAnyH_take (i := 2) (oi := ({ dst := some 40, op := Op.load 5 (Operand.tmp 39), type := 5, pos := "ref.go:38", after := #[{ on := 1, ground := Ground.data }], guard := none } : Oper)) (v := ?_) rfl (by kernel_rfl) (by kernel_rfl) (by kernel_rfl) (fun _ _ _ h => h) (Or.inl ⟨by rfl, ?_⟩) hS ?_
          rotate_left
          · (intro w hSw; (try dsimp only at hSw); have z := cell_keep hSw HCE2.out; go_simp; try with_reducible rfl)
          (try simp only [Act.put, List.setIfInBounds_toArray, List.set_cons_zero, List.set_cons_succ])
          refine wpAnyH_take (i := 3) (oi := ({ dst := some 41, op := Op.convert 5 3 (Operand.tmp 40), type := 3, pos := "ref.go:38", after := #[{ on := 2, ground := Ground.data }], guard := none } : Oper)) (v := ?_) rfl (by kernel_rfl) (by kernel_rfl) (by kernel_rfl) (fun _ _ _ h => h) (Or.inl ⟨by rfl, ?_⟩) hS ?_
          rotate_left
          · (intro w hSw; (try dsimp only at hSw); go_simp; try with_reducible rfl)
          (try simp only [Act.put, List.setIfInBounds_toArray, List.set_cons_zero, List.set_cons_succ])
          refine wpAnyH_take (i := 4) (oi := ({ dst := some 42, op := Op.move (Operand.tmp 5), type := 24, pos := "ref.go:38", after := #[], guard := none } : Oper)) (v := ?_) rfl (by kernel_rfl) (by kernel_rfl) (by kernel_rfl) (fun _ _ _ h => h) (Or.inl ⟨by rfl, ?_⟩) hS ?_
          rotate_left
          · (intro w hSw; (try dsimp only at hSw); go_simp; try with_reducible rfl)
          (try simp only [Act.put, List.setIfInBounds_toArray, List.set_cons_zero, List.set_cons_succ])
          refine wpAnyH_take (i := 5) (oi := ({ dst := some 43, op := Op.convert 24 9 (Operand.tmp 42), type := 9, pos := "ref.go:38", after := #[{ on := 4, ground := Ground.data }], guard := none } : Oper)) (v := .string (ls f)) rfl (by kernel_rfl) (by kernel_rfl) (by kernel_rfl) (fun _ _ _ h => h) (Or.inl ⟨by rfl, ?_⟩) hS ?_
          · (intro w hSw; (try dsimp only at hSw); exact exec_text_of (.tmp 42) rfl _ f.length f rfl (HF2.out.keep hSw))
          (try simp only [Act.put, List.setIfInBounds_toArray, List.set_cons_zero, List.set_cons_succ])
          refine wpAnyH_take (i := 6) (oi := ({ dst := some 44, op := Op.build 36 #[(0, Operand.tmp 41), (1, Operand.tmp 43)], type := 36, pos := "ref.go:38", after := #[{ on := 3, ground := Ground.data }, { on := 5, ground := Ground.data }], guard := none } : Oper)) (v := ?_) rfl (by kernel_rfl) (by kernel_rfl) (by kernel_rfl) (fun _ _ _ h => h) (Or.inl ⟨by rfl, ?_⟩) hS ?_
          rotate_left
          · (intro w hSw; (try dsimp only at hSw); go_simp; try with_reducible rfl)
          (try simp only [Act.put, List.setIfInBounds_toArray, List.set_cons_zero, List.set_cons_succ])
          refine rg_one 7 ({ dst := some 8, op := Op.alloc 36, type := 0, pos := "ref.go:38", after := #[], guard := none } : Oper) (by kernel_rfl) rfl (fun K hK => ?_)
          go_simp
          have hb3 := bdrew0 w2 (.cells (oA 0 ⟨#[]⟩ ⟨#[]⟩) 36); have HO3 : Hid (OB (w2.alloc (.cells (oA 0 ⟨#[]⟩ ⟨#[]⟩) 36)).drew w2.heap.size 0 ⟨#[]⟩ ⟨#[]⟩) := Lib.hid (heap_alloc_last w2 _); have HA3 := Lib.hid (HA2.out.keep hb3); have hN := hb3
          refine hK.out _ _ ?_ (fun hS1 => ?_)
          · (first | exact hN | exact hS)
          clear hK K hS; have hS := hS1; clear hS1
          (try simp only [Act.put, List.setIfInBounds_toArray, List.set_cons_zero, List.set_cons_succ])
          refine rg_one 8 ({ dst := none, op := Op.store 36 (Operand.tmp 8) (Operand.tmp 44), type := 0, pos := "ref.go:38", after := #[{ on := 7, ground := Ground.data }, { on := 6, ground := Ground.data }, { on := 0, ground := Ground.phase }, { on := 1, ground := Ground.phase }, { on := 2, ground := Ground.phase }, { on := 3, ground := Ground.phase }, { on := 4, ground := Ground.phase }, { on := 5, ground := Ground.phase }, { on := 6, ground := Ground.phase }, { on := 7, ground := Ground.phase }], guard := none } : Oper) (by kernel_rfl) rfl (fun K hK => ?_)
          rw [if_pos (by rfl)]; refine wp_store_row 36 (.tmp 8) (.tmp 44) rfl w2.heap.size (oA 2 (ls f) ⟨#[]⟩) rfl rfl _ _ HO3.out (op_info _ rfl) rfl (op_one _ _ _) ?_; have HO4 := Lib.hid (HO3.out.row 2 (ls f) ⟨#[]⟩); have HB24 := Lib.hid (brow hb3 (Nat.le_refl _) (Nat.le_refl _) (oA 2 (ls f) ⟨#[]⟩)); (try clear hN); have hN := HB24.out
          refine hK.out _ _ ?_ (fun hS1 => ?_)
          · (first | exact hN | exact hS)
          clear hK K hS; have hS := hS1; clear hS1
          (try simp only [Act.put])
          refine wpAnyH_done (by kernel_rfl) ?_ _
          obtain ⟨w4, hw4⟩ : ∃ w4, World.setRow (w2.alloc (.cells (oA 0 ⟨#[]⟩ ⟨#[]⟩) 36)).drew w2.heap.size (oA 2 (ls f) ⟨#[]⟩) = w4 := ⟨_, rfl⟩
          rw [hw4] at HO4 HB24 ⊢
          clear hS hN hb3 HO3 HA3 hw4
          have HA4 := Lib.hid (HA2.out.keep HB24.out)
          have HB4 := Lib.hid (bch HB2.out HB24.out)
          have HRI4 := Lib.hid (HRI2.out.keep HB24.out)
          have hc4 := cell_keep HB24.out HCE2.out
          have hn4 : (n : Int) + 1 ≤ 200000000000001 := by have := HLEN.out; have := HZR.out; omega
          have HW1 : Hid (wrap64 ((n : Int) + 1) = ((1 + n : Nat) : Int)) := Lib.hid (by rw [IntWalk.wrap64_in _ (by omega)]; omega)
          obtain ⟨y, hy⟩ : ∃ y, opRight 2 (ls f) ⟨#[]⟩ = y := ⟨_, rfl⟩
          have HRR : Hid (∀ W, Calls Try.prog 18 #[.agg (oA 2 (ls f) ⟨#[]⟩)] W fun e w' => e = .returned (.bool y) ∧ Below W.heap.size W w') := Lib.hid fun W => by have := roright_any 2 (ls f) ⟨#[]⟩ W; rwa [hy] at this
          cases y with
          | true =>
            have hG : opG (2 :: r) = ((2, ls f, ⟨#[]⟩), 1 + n, 0) := by simp only [opG]; rw [if_neg hk', hg, if_neg (by simp), if_neg (by decide), if_pos hy]
            obtain rfl := HGG.out.symm.trans hG
            clear hg hnl hfl hG hk' hbr hy HGG
            go_wp2_with (first
              | (refine wpList_load_row rfl 36 _ rfl w2.heap.size rfl _ (oA 2 (ls f) ⟨#[]⟩) (0, 0) _ HO4.out Try.underlying36 rfl (op_info _ rfl) ?_)
              | (refine wpList_load_row rfl 36 _ rfl w2.heap.size rfl _ (oA 2 (ls f) ⟨#[]⟩) (0, 0) _ HO5.out Try.underlying36 rfl (op_info _ rfl) ?_)
              | (go_at_call 18; (with_reducible refine (HRR.out _).mono ?_); rintro e w5 ⟨rfl, hb5⟩; have HA5 := Lib.hid (HA4.out.keep hb5); have HO5 := Lib.hid (HO4.out.keep hb5); have HB5 := Lib.hid (bch HB4.out hb5); clear hb5)
              | (refine wpList_store_row rfl 36 _ _ rfl w.heap.size (oA 2 (ls f) ⟨#[]⟩) rfl rfl _ _ HA5.out (op_info _ rfl) rfl (op_one _ _ _) ?_))
            refine bodyPost_ret_by (results_row_tmp2 rfl _ _ w.heap.size _ rfl (HA5.out.row 2 (ls f) ⟨#[]⟩).load) rfl ⟨?_, brow HB5.out (Nat.le_refl _) (Nat.le_refl _) _⟩
            exact congrArg (fun z => Ending.returned (.tuple #[.agg (oA 2 (ls f) ⟨#[]⟩), .int .i64 z, .int .i64 0])) (by omega)
          | false =>
            have hG : opG (2 :: r) = (noO, 0, 2) := by simp only [opG]; rw [if_neg hk', hg, if_neg (by simp), if_neg (by decide), if_neg (by rw [hy]; simp)]
            obtain rfl := HGG.out.symm.trans hG
            clear hg hnl hfl hG hk' hbr hy HGG
            go_wp2_with (first
              | (refine wpList_load_row rfl 36 _ rfl w2.heap.size rfl _ (oA 2 (ls f) ⟨#[]⟩) (0, 0) _ HO4.out Try.underlying36 rfl (op_info _ rfl) ?_)
              | (go_at_call 18; (with_reducible refine (HRR.out _).mono ?_); rintro e w5 ⟨rfl, hb5⟩; have HA5 := Lib.hid (HA4.out.keep hb5); have HO5 := Lib.hid (HO4.out.keep hb5); have HB5 := Lib.hid (bch HB4.out hb5); clear hb5)
              | (refine wpList_store_row rfl 36 _ _ rfl w.heap.size (oA 0 ⟨#[]⟩ ⟨#[]⟩) rfl rfl _ _ HA5.out (op_info _ rfl) rfl (op_one _ _ _) ?_))
            refine bodyPost_ret_by (results_row_tmp2 rfl _ _ w.heap.size _ rfl (HA5.out.row 0 ⟨#[]⟩ ⟨#[]⟩).load) rfl ⟨?_, brow HB5.out (Nat.le_refl _) (Nat.le_refl _) _⟩
            rfl
      · have hG : opG (h :: r) = (noO, 0, e1) := by simp only [opG]; rw [if_neg hk', hg, if_pos he1]
        rw [hG]
        have he2 : (e1 != 0) = true := by simpa using he1
        clear hg hnl hfl hG hk' hbr
        rcases hk with rfl | rfl
        all_goals
          go_enter Try.func21, Try.ntmps21
          go_wp2_with (first
            | (refine wpl_from rfl (.tmp 28) (.const (.int .i64 1)) rfl _ len 1 _ rfl rfl HRI.out (by omega) ?_; intro p1 c1 hr1; have HR1 : Hid (RI .u8 _ (.slice p1 (len - 1) c1) (len - 1) r) := Lib.hid hr1; clear hr1)
            | (go_at_call 30; (with_reducible refine (rgetf_any _ (len - 1) r _ HR1.out HBR.out (by have := HLEN.out; omega) f n e1 HG.out).mono ?_); rintro e w2 ⟨v2, rfl, ho2, hb2⟩; obtain ⟨p2, c2, rfl⟩ := own_form ho2; have HF2 := Lib.hid (RI.own ho2); have HA2 := Lib.hid (HA0.out.keep hb2); have HB2 := Lib.hid (bch HB0.out hb2); have HRI2 := Lib.hid (HRI.out.keep hb2); have HCE2 := Lib.hid (cell_keep hb2 HCE.out); clear ho2 hb2)
            | (refine wpList_store_row rfl 36 _ _ rfl w.heap.size (oA 0 ⟨#[]⟩ ⟨#[]⟩) rfl rfl _ _ HA2.out (op_info _ rfl) rfl (op_one _ _ _) ?_))
          refine bodyPost_ret_by (results_row_tmp2 rfl _ _ w.heap.size _ rfl (HA2.out.row 0 ⟨#[]⟩ ⟨#[]⟩).load) rfl ⟨rfl, brow HB2.out (Nat.le_refl _) (Nat.le_refl _) _⟩
    · have hk1 : ¬ h = 1 := fun e => hk (.inl e)
      have hk2 : ¬ h = 2 := fun e => hk (.inr e)
      have hG : opG (h :: r) = (noO, 0, 2) := by simp only [opG]; rw [if_pos ⟨hk1, hk2⟩]
      rw [hG]
      have hb1 : (h != 1) = true := by simpa using hk1
      have hb2 : (h != 2) = true := by simpa using hk2
      clear hk hG
      go_enter Try.func21, Try.ntmps21
      go_wp2
      refine bodyPost_ret_by (results_row_tmp2 rfl _ _ w.heap.size _ rfl HA0.out.load) rfl ⟨rfl, HB0.out⟩
end Go.Proofs.Ytmcfnlfaclkbhaa
