/-
  TEXTS JOINED: TearTold, BytesEq, FragCode, TearGo, CutCode, FragList, SeqTold. Each one's own words stand at its head.
-/
import Derived.Test.YtepaghohojomeaaDoorJ6
import Derived.Test.YtepaghohojomeaaDoorJ8
import Derived.Test.YtepaghohojomeaaDoorJ12
import Derived.Test.YtepaghohojomeaaDoorJ1
import Derived.Test.YtepaghohojomeaaDoorJ3
import Derived.Test.YtepaghohojomeaaDoorJ9
import Derived.Test.YtepaghohojomeaaDoorJ7
import Derived.Test.YtepaghohojomeaaDoorJ11
import Derived.Test.YtepaghohojomeaaDoorJ0
import Derived.Deep.MidRow
import Derived.RangeFuncNested
import Derived.RangeFuncBound
import Derived.RangeFuncCalls
import Derived.RangeFuncLeaves
import Derived.WalkKit
import Derived.OwnWalkIn
import Derived.TacticsInMore
import Derived.LoopNIn
import Derived.LoopIn
/-
  LAYER 20 (tear), the program's own: what told answers, of flattened sectors. The table of half a byte's steps must lie in its block as start-up lays it; the body and the stamps must lie in the world.
-/
namespace Go.Proofs.YtepaghohojomeaaDoor
open Go.RowKit
/-- flattened sectors, as a value's cells -/
abbrev flA (ep : Int) (bv kv : Value) : Array Value := #[.int .u32 ep, bv, kv]
/-- what told answers -/
def ToldF (ep : Int) (B : List Int) (K : List Bool) (a : Nat) (w : World) (r : Ending) (w' : World) : Prop :=
  Below w.heap.size w w' ∧ (((scF ep B K a).2 = 0 ∧ ∃ k e x n c, r = .returned (.tuple #[.agg (fA k e (.slice x n c)), .bool false])) ∨
    ((scF ep B K a).2 ≠ 0 ∧ ∃ x c, r = .returned (.tuple #[.agg (fA (scF ep B K a).1.kind (scF ep B K a).1.epoch (.slice x (scF ep B K a).1.data.length c)), .bool true]) ∧
      w'.ownsRow w.heap.size 5 1 (.slice x (scF ep B K a).1.data.length c) (scF ep B K a).1.data.length (il .u8 (scF ep B K a).1.data)))
theorem scF_of {ep : Int} {B : List Int} {K : List Bool} {a : Nat} (hB : B.length = 832) (ha : a + 11 ≤ 832) (h0 : (scD ep B a).2.2 = 0) : scF ep B K a = if covAt K (a : Int) ((a + (scD ep B a).2.1 : Nat) : Int) = true then ((scD ep B a).1, (scD ep B a).2.1) else (noF, 0) := by
  have hp := scD_parts hB (by omega) h0
  cases hc : covAt K (a : Int) ((a + (scD ep B a).2.1 : Nat) : Int) with
  | true =>
    rw [if_pos rfl]
    have ht : ∀ b : Nat, a < b → b ≤ 832 → covAt K (a : Int) (b : Int) = cov K (a / 52) ((b - 1) / 52 + 1 - a / 52) := fun b hb hb8 => by
      unfold covAt
      rw [nr_nat a (by omega), nr_nat b hb8]
      have : touchN a b = (a / 52, (b - 1) / 52 + 1) := if_pos hb
      rw [this]
    have h11 : covAt K (a : Int) ((a + 11 : Nat) : Int) = true := by
      rw [ht _ (by omega) (by omega)] at hc ⊢
      exact cov_all _ _ _ fun i hi => List.all_eq_true.1 hc i (List.mem_range.2 (by omega))
    exact scF_yes (by omega) h11 h0 hc
  | false => rw [if_neg (by decide)]; exact scF_cov hc
set_option maxRecDepth 8000 in
set_option maxHeartbeats 4000000 in
theorem told_any (ep : Int) (bv kv : Value) {B : List Int} {K : List Bool} (hB : B.length = 832) (hBb : isB B) (w : World) (hT : Tab w) (hbv : RI .u8 w bv 832 B) (hk : BS w kv 16 K) (a : Nat) (ha : a + 11 ≤ 832) :
    Calls Tryd.prog 41 #[.agg (flA ep bv kv), .int .i64 a] w (ToldF ep B K a w) := by
  obtain ⟨wa, hwa⟩ : ∃ q, (w.alloc (.cells (flA ep bv kv) 97)).alloc (.cells (fA 0 0 (.slice none 0 0)) 70) = q := ⟨_, rfl⟩
  have hsz1 : (w.alloc (.cells (flA ep bv kv) 97)).heap.size = w.heap.size + 1 := alloc_size w _
  have HA : Hid (FO wa (w.heap.size + 1) 0 0 (.slice none 0 0)) := Lib.hid (by rw [← hwa, ← hsz1]; exact FO.alloc _)
  have hba : Below w.heap.size w wa := by rw [← hwa]; exact fbelow2 w _ _
  have HBA := Lib.hid hba
  have hfl : wa.heap[w.heap.size]? = some (.cells (flA ep bv kv) 97 (0, 0)) := by
    rw [← hwa]
    exact ((balloc (w.alloc (.cells (flA ep bv kv) 97)) _).block w.heap.size (by rw [hsz1]; omega)).trans (heap_alloc_last w _)
  have HWA : Hid (w.heap.size + 1 + 1 = wa.heap.size) := Lib.hid (by rw [← hwa, alloc_size, hsz1])
  obtain ⟨ba, bc, rfl, _, hbc, _⟩ := id hbv
  obtain ⟨l, hl⟩ : ∃ l, leftN a = l := ⟨_, rfl⟩
  have hla := left_le a (by omega)
  rw [hl] at hla
  have hna : nr (a : Int) = a := nr_nat a (by omega)
  have HLF : Hid (∀ w, Calls Tryd.prog 66 #[.int .i64 a] w fun e w' => e = .returned (.int .i64 (l : Int)) ∧ Below w.heap.size w w') := Lib.hid fun w => by
    have := left_any (a : Int) (by unfold I63; omega) w; rwa [hna, hl] at this
  obtain ⟨t, ht⟩ : ∃ t, a + l = t := ⟨_, rfl⟩
  have htI : (a : Int) + (l : Int) = (t : Int) := by omega
  have ht8 : (t : Int) ≤ 832 := by omega
  obtain ⟨q, qc, hq⟩ := sliced_form ba a l bc 1
  have HSL := Lib.hid hq
  have hcut : ∀ w', Below w.heap.size w w' → RI .u8 w' (.slice q l qc) l (bSl B a) := fun w' h => by
    have := (hbv.keep h).cut a l bc (by omega) (by omega) (Nat.le_refl _)
    rw [hq] at this
    unfold bSl
    rw [hl]
    exact this
  have hbs : isB (bSl B a) := (hBb.drop _).take _
  have HDC : Hid (∀ w', Below w.heap.size w w' → Calls Tryd.prog 65 #[.slice q l qc, .int .u32 ep] w' (DecF (bSl B a) ep w')) := Lib.hid fun w' h => fdec_any _ l _ ep w' (hT.keep h) (hcut w' h) hbs
  have HTL := Lib.hid ht
  have HWT : Hid (IntKind.i64.wrap (t : Int) = (t : Int)) := Lib.hid (wrap_id _ (by omega))
  have HBC : Hid (t ≤ bc) := Lib.hid (by omega)
  obtain ⟨f, m, x, hD⟩ : ∃ f m x, scD ep B a = (f, m, x) := ⟨_, _, _, rfl⟩
  have HDF : Hid (∀ w w' r, DecF (bSl B a) ep w r w' → ∃ p n c, r = .returned (.tuple #[.agg (fA f.kind f.epoch (.slice p n c)), .int .i64 (m : Nat), .int .i64 x]) ∧ w'.ownsRow w.heap.size 5 1 (.slice p n c) n (il .u8 f.data) ∧ Below w.heap.size w w') := Lib.hid fun w w' r h => by
    obtain ⟨p, n, c, h1, h2, h3⟩ := h
    rw [show fragD (bSl B a) ep = (f, m, x) from hD] at h1 h2
    exact ⟨p, n, c, h1, h2, h3⟩
  have HCV : Hid (∀ (w' : World) (n : Nat), Below w.heap.size w w' → n ≤ 832 → Calls Tryd.prog 67 #[kv, .int .i64 (a : Int), .int .i64 (n : Int)] w' fun e w'' => e = .returned (.bool (covAt K (a : Int) (n : Int))) ∧ Below w'.heap.size w' w'') := Lib.hid fun w' n h hn => covered_any kv 16 K a n (by unfold I63; omega) (by unfold I63; omega) w' (hk.kin (Kin.below h))
  have HS3 : Hid (∀ w', Below wa.heap.size wa w' → w'.cell? ⟨w.heap.size, 0, none⟩ = some (.int .u32 ep) ∧ w'.cell? ⟨w.heap.size, 1, none⟩ = some (.slice ba 832 bc) ∧ w'.cell? ⟨w.heap.size, 2, none⟩ = some kv ∧ Below wa.heap.size wa w') := Lib.hid fun w' h =>
    ⟨cell_keep h (cell_of_row wa _ 0 _ _ _ hfl), cell_keep h (cell_of_row wa _ 1 _ _ _ hfl), cell_keep h (cell_of_row wa _ 2 _ _ _ hfl), h⟩
  have hx : (x = 0 ∧ 11 ≤ m ∧ a + m ≤ 832 ∧ (∀ n, covAt K (a : Int) ((a + m : Nat) : Int) = n → if n = true then scF ep B K a = (f, m) else scF ep B K a = (noF, 0))) ∨ (x ≠ 0 ∧ scF ep B K a = (noF, 0)) := by
    by_cases h0 : x = 0
    · have h3 : (scD ep B a).2.2 = 0 := by rw [hD]; exact h0
      have hp := scD_parts hB (by omega) h3
      have hof := scF_of (K := K) hB ha h3
      rw [hD] at hp hof
      refine .inl ⟨h0, hp.1, hp.2.2.1, fun n hn => ?_⟩
      rw [hn] at hof
      cases n with
      | true => exact hof
      | false => exact hof
    · exact .inr ⟨h0, scF_err (by rw [hD]; exact h0)⟩
  obtain ⟨fk, fe, fd⟩ := f
  dsimp only at HDF
  obtain ⟨g0, hg0⟩ : ∃ g, w.heap.size + 1 = g := ⟨_, rfl⟩
  rw [hg0] at HA HWA
  have HG0 : Hid (w.heap.size < g0) := Lib.hid (by omega)
  clear hBb hbv hk hba hB hbc hl hla hna hq hcut hbs ht hfl hT
  go_enter Tryd.func41, Tryd.ntmps41
  go_wp2_with (rw [hwa])
  clear hwa hsz1 hg0
  (try go_wp2_with fail)
  refine wp_region_held_drew (S := (fun w' => w'.cell? ⟨w.heap.size, 0, none⟩ = some (.int .u32 ep) ∧ w'.cell? ⟨w.heap.size, 1, none⟩ = some (.slice ba 832 bc) ∧ w'.cell? ⟨w.heap.size, 2, none⟩ = some kv ∧ Below wa.heap.size wa w')) (by kernel_rfl) (HS3.out _ (Below.refl _ wa).drew) (fun hS => ?_)
  refine wpAnyH_take (i := 0) (oi := ({ dst := some 10, op := Op.fieldAddr 97 (Operand.tmp 2) 1, type := 0, pos := "told.go:25", after := #[], guard := none } : Oper)) (v := ?_) rfl (by kernel_rfl) (by kernel_rfl) (by kernel_rfl) (fun _ _ _ h => h) (Or.inl ⟨by rfl, ?_⟩) hS ?_
  rotate_left
  · (intro w hSw; (try dsimp only at hSw); go_simp; try with_reducible rfl)
  (try simp only [Act.put, List.setIfInBounds_toArray, List.set_cons_zero, List.set_cons_succ])
  refine wpAnyH_take (i := 1) (oi := ({ dst := some 11, op := Op.load 43 (Operand.tmp 10), type := 43, pos := "told.go:25", after := #[{ on := 0, ground := Ground.data }], guard := none } : Oper)) (v := ?_) rfl (by kernel_rfl) (by kernel_rfl) (by kernel_rfl) (fun _ _ _ h => h) (Or.inl ⟨by rfl, ?_⟩) hS ?_
  rotate_left
  · (intro w hSw; (try dsimp only at hSw); go_simp; try with_reducible rfl)
  (try simp only [Act.put, List.setIfInBounds_toArray, List.set_cons_zero, List.set_cons_succ])
  refine wpAnyH_take (i := 2) (oi := ({ dst := some 12, op := Op.move (Operand.tmp 1), type := 3, pos := "told.go:25", after := #[], guard := none } : Oper)) (v := ?_) rfl (by kernel_rfl) (by kernel_rfl) (by kernel_rfl) (fun _ _ _ h => h) (Or.inl ⟨by rfl, ?_⟩) hS ?_
  rotate_left
  · (intro w hSw; (try dsimp only at hSw); go_simp; try with_reducible rfl)
  (try simp only [Act.put, List.setIfInBounds_toArray, List.set_cons_zero, List.set_cons_succ])
  refine wpAnyH_take (i := 3) (oi := ({ dst := some 13, op := Op.move (Operand.tmp 1), type := 3, pos := "told.go:25", after := #[], guard := none } : Oper)) (v := ?_) rfl (by kernel_rfl) (by kernel_rfl) (by kernel_rfl) (fun _ _ _ h => h) (Or.inl ⟨by rfl, ?_⟩) hS ?_
  rotate_left
  · (intro w hSw; (try dsimp only at hSw); go_simp; try with_reducible rfl)
  (try simp only [Act.put, List.setIfInBounds_toArray, List.set_cons_zero, List.set_cons_succ])
  refine wpAnyH_take (i := 4) (oi := ({ dst := some 14, op := Op.move (Operand.tmp 1), type := 3, pos := "told.go:25", after := #[], guard := none } : Oper)) (v := ?_) rfl (by kernel_rfl) (by kernel_rfl) (by kernel_rfl) (fun _ _ _ h => h) (Or.inl ⟨by rfl, ?_⟩) hS ?_
  rotate_left
  · (intro w hSw; (try dsimp only at hSw); go_simp; try with_reducible rfl)
  (try simp only [Act.put, List.setIfInBounds_toArray, List.set_cons_zero, List.set_cons_succ])
  refine wpAnyH_take (i := 8) (oi := ({ dst := some 18, op := Op.fieldAddr 97 (Operand.tmp 2) 0, type := 0, pos := "told.go:25", after := #[], guard := none } : Oper)) (v := ?_) rfl (by kernel_rfl) (by kernel_rfl) (by kernel_rfl) (fun _ _ _ h => h) (Or.inl ⟨by rfl, ?_⟩) hS ?_
  rotate_left
  · (intro w hSw; (try dsimp only at hSw); go_simp; try with_reducible rfl)
  (try simp only [Act.put, List.setIfInBounds_toArray, List.set_cons_zero, List.set_cons_succ])
  refine wpAnyH_take (i := 9) (oi := ({ dst := some 19, op := Op.load 68 (Operand.tmp 18), type := 68, pos := "told.go:25", after := #[{ on := 8, ground := Ground.data }], guard := none } : Oper)) (v := ?_) rfl (by kernel_rfl) (by kernel_rfl) (by kernel_rfl) (fun _ _ _ h => h) (Or.inl ⟨by rfl, ?_⟩) hS ?_
  rotate_left
  · (intro w hSw; (try dsimp only at hSw); go_simp; try with_reducible rfl)
  (try simp only [Act.put, List.setIfInBounds_toArray, List.set_cons_zero, List.set_cons_succ])
  refine rg_both 5 15 ({ dst := some 15, op := Op.call { callee := Callee.value (Operand.func 66), args := #[Operand.tmp 14], argTypes := #[3] }, type := 3, pos := "told.go:25", after := #[{ on := 4, ground := Ground.data }], guard := none } : Oper) ({ dst := some 6, op := Op.alloc 70, type := 0, pos := "told.go:25", after := #[], guard := none } : Oper) (by kernel_rfl) rfl rfl (fun K hK => ?_) (fun K hK => ?_)
  · skip
    go_simp
    (go_at_call 66; (with_reducible refine (HLF.out _).mono ?_); rintro r w2 ⟨rfl, hb⟩; have hN := HS3.out _ (bch hS.2.2.2 hb); (try (have q := Lib.hid (HG.out.keep hb); clear HG; have HG := q; clear q)); clear hb)
    refine hK.out _ _ ?_ (fun hS1 => ?_)
    · (first | exact hN | exact hS)
    clear hK K hS; have hS := hS1; clear hS1
    (try simp only [Act.put, List.setIfInBounds_toArray, List.set_cons_zero, List.set_cons_succ])
    refine wpAnyH_take (i := 6) (oi := ({ dst := some 16, op := Op.binOp BinOp.add 3 (Operand.tmp 13) (Operand.tmp 15) 3, type := 3, pos := "told.go:25", after := #[{ on := 3, ground := Ground.data }, { on := 5, ground := Ground.data }], guard := none } : Oper)) (v := .int .i64 (t : Int)) rfl (by kernel_rfl) (by kernel_rfl) (by kernel_rfl) (fun _ _ _ h => h) (Or.inl ⟨by rfl, ?_⟩) hS ?_
    · (intro w hSw; (try dsimp only at hSw); have z := HWT.out; go_simp; (try exact z))
    (try simp only [Act.put, List.setIfInBounds_toArray, List.set_cons_zero, List.set_cons_succ])
    refine wpAnyH_take (i := 7) (oi := ({ dst := some 17, op := Op.slice 43 (Operand.tmp 11) (some (Operand.tmp 12)) (some (Operand.tmp 16)) none, type := 43, pos := "told.go:25", after := #[{ on := 1, ground := Ground.data }, { on := 2, ground := Ground.data }, { on := 6, ground := Ground.data }], guard := none } : Oper)) (v := .slice q l qc) rfl (by kernel_rfl) (by kernel_rfl) (by kernel_rfl) (fun _ _ _ h => h) (Or.inl ⟨by rfl, ?_⟩) hS ?_
    · (intro w hSw; (try dsimp only at hSw); exact (exec_cut_lh (.tmp 11) (.tmp 12) (.tmp 16) rfl ba 832 bc a l rfl rfl (by rw [HTL.out]; rfl) (by rw [HTL.out]; exact HBC.out)).trans (by rw [HSL.out]))
    (try simp only [Act.put, List.setIfInBounds_toArray, List.set_cons_zero, List.set_cons_succ])
    refine rg_both 10 15 ({ dst := some 20, op := Op.call { callee := Callee.value (Operand.func 65), args := #[Operand.tmp 17, Operand.tmp 19], argTypes := #[43, 68] }, type := 94, pos := "told.go:25", after := #[{ on := 7, ground := Ground.data }, { on := 9, ground := Ground.data }, { on := 5, ground := Ground.chain }], guard := none } : Oper) ({ dst := some 6, op := Op.alloc 70, type := 0, pos := "told.go:25", after := #[], guard := none } : Oper) (by kernel_rfl) rfl rfl (fun K hK => ?_) (fun K hK => ?_)
    · skip
      go_simp
      (go_at_call 65; (refine (HDC.out _ (bch HBA.out hS.2.2.2)).mono ?_); rintro r w4 hd; obtain ⟨p4, n4, c4, rfl, ho, hb⟩ := HDF.out _ _ _ hd; have hN := HS3.out _ (bch hS.2.2.2 hb); (try (have q := Lib.hid (HG.out.keep hb); clear HG; have HG := q; clear q)); have HO := Lib.hid (own_mono ho (show w.heap.size ≤ _ from Nat.le_trans HBA.out.size hS.2.2.2.size)); clear hb ho hd)
      refine hK.out _ _ ?_ (fun hS1 => ?_)
      · (first | exact hN | exact hS)
      clear hK K hS; have hS := hS1; clear hS1
      (try simp only [Act.put, List.setIfInBounds_toArray, List.set_cons_zero, List.set_cons_succ])
      refine wpAnyH_take (i := 11) (oi := ({ dst := some 9, op := Op.move (Operand.tmp 20), type := 94, pos := "told.go:25", after := #[{ on := 10, ground := Ground.data }], guard := none } : Oper)) (v := ?_) rfl (by kernel_rfl) (by kernel_rfl) (by kernel_rfl) (fun _ _ _ h => h) (Or.inl ⟨by rfl, ?_⟩) hS ?_
      rotate_left
      · (intro w hSw; (try dsimp only at hSw); go_simp; try with_reducible rfl)
      (try simp only [Act.put, List.setIfInBounds_toArray, List.set_cons_zero, List.set_cons_succ])
      refine wpAnyH_take (i := 12) (oi := ({ dst := some 21, op := Op.extract (Operand.tmp 9) 0, type := 70, pos := "told.go:25", after := #[{ on := 11, ground := Ground.data }], guard := none } : Oper)) (v := ?_) rfl (by kernel_rfl) (by kernel_rfl) (by kernel_rfl) (fun _ _ _ h => h) (Or.inl ⟨by rfl, ?_⟩) hS ?_
      rotate_left
      · (intro w hSw; (try dsimp only at hSw); go_simp; try with_reducible rfl)
      (try simp only [Act.put, List.setIfInBounds_toArray, List.set_cons_zero, List.set_cons_succ])
      refine wpAnyH_take (i := 13) (oi := ({ dst := some 22, op := Op.extract (Operand.tmp 9) 1, type := 3, pos := "told.go:25", after := #[{ on := 11, ground := Ground.data }, { on := 16, ground := Ground.gcOnly Departure.lateStores }], guard := none } : Oper)) (v := ?_) rfl (by kernel_rfl) (by kernel_rfl) (by kernel_rfl) (fun _ _ _ h => h) (Or.inl ⟨by rfl, ?_⟩) hS ?_
      rotate_left
      · (intro w hSw; (try dsimp only at hSw); go_simp; try with_reducible rfl)
      (try simp only [Act.put, List.setIfInBounds_toArray, List.set_cons_zero, List.set_cons_succ])
      refine wpAnyH_take (i := 14) (oi := ({ dst := some 23, op := Op.extract (Operand.tmp 9) 2, type := 86, pos := "told.go:25", after := #[{ on := 11, ground := Ground.data }, { on := 17, ground := Ground.gcOnly Departure.lateStores }], guard := none } : Oper)) (v := ?_) rfl (by kernel_rfl) (by kernel_rfl) (by kernel_rfl) (fun _ _ _ h => h) (Or.inl ⟨by rfl, ?_⟩) hS ?_
      rotate_left
      · (intro w hSw; (try dsimp only at hSw); go_simp; try with_reducible rfl)
      (try simp only [Act.put, List.setIfInBounds_toArray, List.set_cons_zero, List.set_cons_succ])
      refine rg_one 15 ({ dst := some 6, op := Op.alloc 70, type := 0, pos := "told.go:25", after := #[], guard := none } : Oper) (by kernel_rfl) rfl (fun K hK => ?_)
      rw [if_pos (by rfl)]; refine wp_new_fr rfl ?_; intro g w5 HG hgl hb; have hN := HS3.out _ (bch hS.2.2.2 hb.out); (try (have q := Lib.hid (own_keep HO.out hb.out); clear HO; have HO := q; clear q)); have HGL := Lib.hid (Nat.le_trans hS.2.2.2.size hgl.out); clear hgl hb
      refine hK.out _ _ ?_ (fun hS1 => ?_)
      · (first | exact hN | exact hS)
      clear hK K hS; have hS := hS1; clear hS1
      (try simp only [Act.put, List.setIfInBounds_toArray, List.set_cons_zero, List.set_cons_succ])
      refine rg_one 16 ({ dst := none, op := Op.store 70 (Operand.tmp 6) (Operand.tmp 21), type := 0, pos := "told.go:25", after := #[{ on := 15, ground := Ground.data }, { on := 12, ground := Ground.data }, { on := 10, ground := Ground.chain }, { on := 0, ground := Ground.phase }, { on := 1, ground := Ground.phase }, { on := 2, ground := Ground.phase }, { on := 3, ground := Ground.phase }, { on := 4, ground := Ground.phase }, { on := 5, ground := Ground.phase }, { on := 6, ground := Ground.phase }, { on := 7, ground := Ground.phase }, { on := 8, ground := Ground.phase }, { on := 9, ground := Ground.phase }, { on := 10, ground := Ground.phase }, { on := 11, ground := Ground.phase }, { on := 12, ground := Ground.phase }, { on := 13, ground := Ground.textOnly Departure.lateStores }, { on := 14, ground := Ground.textOnly Departure.lateStores }, { on := 15, ground := Ground.phase }], guard := none } : Oper) (by kernel_rfl) rfl (fun K hK => ?_)
      rw [if_pos (by rfl)]; refine wp_put_fr (.tmp 6) (.tmp 21) rfl g HG.out fk fe p4 n4 c4 rfl rfl ?_; intro w6 HF6 HG6; have HO6 := Lib.hid (own_over HO.out HG6.out (fun q hq e => HG.out.ne_own HO.out q hq (Option.some.inj e))); have hN := HS3.out _ (below_over hS.2.2.2 HG6.out HGL.out hS.2.2.2.size); clear HG HO HG6
      refine hK.out _ _ ?_ (fun hS1 => ?_)
      · (first | exact hN | exact hS)
      clear hK K hS; have hS := hS1; clear hS1
      (try simp only [Act.put])
      refine wpAnyH_take (i := 17) (oi := ({ dst := some 7, op := Op.assign (Operand.tmp 22), type := 3, pos := "told.go:25", after := #[{ on := 13, ground := Ground.data }, { on := 16, ground := Ground.chain }, { on := 0, ground := Ground.phase }, { on := 1, ground := Ground.phase }, { on := 2, ground := Ground.phase }, { on := 3, ground := Ground.phase }, { on := 4, ground := Ground.phase }, { on := 5, ground := Ground.phase }, { on := 6, ground := Ground.phase }, { on := 7, ground := Ground.phase }, { on := 8, ground := Ground.phase }, { on := 9, ground := Ground.phase }, { on := 10, ground := Ground.phase }, { on := 11, ground := Ground.phase }, { on := 12, ground := Ground.phase }, { on := 13, ground := Ground.phase }, { on := 14, ground := Ground.textOnly Departure.lateStores }, { on := 15, ground := Ground.phase }, { on := 16, ground := Ground.phase }], guard := none } : Oper)) (v := ?_) rfl (by kernel_rfl) (by kernel_rfl) (by kernel_rfl) (fun _ _ _ h => h) (Or.inl ⟨by rfl, ?_⟩) hS ?_
      rotate_left
      · (intro w hSw; (try dsimp only at hSw); go_simp; try with_reducible rfl)
      (try simp only [Act.put, List.setIfInBounds_toArray, List.set_cons_zero, List.set_cons_succ])
      refine wpAnyH_take (i := 18) (oi := ({ dst := some 8, op := Op.assign (Operand.tmp 23), type := 86, pos := "told.go:25", after := #[{ on := 14, ground := Ground.data }, { on := 17, ground := Ground.chain }, { on := 0, ground := Ground.phase }, { on := 1, ground := Ground.phase }, { on := 2, ground := Ground.phase }, { on := 3, ground := Ground.phase }, { on := 4, ground := Ground.phase }, { on := 5, ground := Ground.phase }, { on := 6, ground := Ground.phase }, { on := 7, ground := Ground.phase }, { on := 8, ground := Ground.phase }, { on := 9, ground := Ground.phase }, { on := 10, ground := Ground.phase }, { on := 11, ground := Ground.phase }, { on := 12, ground := Ground.phase }, { on := 13, ground := Ground.phase }, { on := 14, ground := Ground.phase }, { on := 15, ground := Ground.phase }, { on := 16, ground := Ground.phase }, { on := 17, ground := Ground.phase }], guard := none } : Oper)) (v := ?_) rfl (by kernel_rfl) (by kernel_rfl) (by kernel_rfl) (fun _ _ _ h => h) (Or.inl ⟨by rfl, ?_⟩) hS ?_
      rotate_left
      · (intro w hSw; (try dsimp only at hSw); go_simp; try with_reducible rfl)
      (try simp only [Act.put, List.setIfInBounds_toArray, List.set_cons_zero, List.set_cons_succ])
      refine wpAnyH_done (by kernel_rfl) ?_ _
      have HB6 := Lib.hid hS.2.2.2
      clear hS
      (try clear hN)
      have HGN := Lib.hid (show g ≠ g0 from by have := HGL.out; have := HWA.out; omega)
      have HBW := Lib.hid (bch HBA.out HB6.out.drew)
      have HA7 := Lib.hid ((HA.out.keep HB6.out).keep (Below.refl _ w6).drew)
      have HO7 := Lib.hid (own_keep HO6.out (Below.refl _ w6).drew)
      have HST : Hid (w6.drew.cell? ⟨w.heap.size, 2, none⟩ = some kv ∧ Below w.heap.size w w6.drew ∧ FO w6.drew g fk fe (.slice p4 n4 c4)) := Lib.hid ⟨(HS3.out _ HB6.out.drew).2.2.1, HBW.out, HF6.out.keep (Below.refl _ w6).drew⟩
      rcases hx with ⟨rfl, hm1, hm2, hyes⟩ | ⟨hx0, hno⟩
      · obtain ⟨y, hy⟩ : ∃ y, covAt K (a : Int) ((a + m : Nat) : Int) = y := ⟨_, rfl⟩
        have HY := Lib.hid (hyes y hy)
        obtain ⟨u, hu⟩ : ∃ u, a + m = u := ⟨_, rfl⟩
        have huI : (a : Int) + (m : Int) = (u : Int) := by omega
        have hu8 : (u : Int) ≤ 832 := by omega
        have HWU : Hid (IntKind.i64.wrap (u : Int) = (u : Int)) := Lib.hid (wrap_id _ (by omega))
        have HH2 : Hid (∀ w', Below w.heap.size w w' → Calls Tryd.prog 67 #[kv, .int .i64 a, .int .i64 u] w' fun e w'' => e = .returned (.bool y) ∧ Below w'.heap.size w' w'') := Lib.hid fun w' h => by
          have := HCV.out w' u h (by omega)
          rw [← hu, hy] at this
          rw [← hu]
          exact this
        clear hyes hy hu
        go_wp2_with fail
        refine wp_region_held_drew (S := (fun w' => w'.cell? ⟨w.heap.size, 2, none⟩ = some kv ∧ Below w.heap.size w w' ∧ FO w' g fk fe (.slice p4 n4 c4))) (by kernel_rfl) HST.out (fun hS => ?_)
        refine wpAnyH_take (i := 0) (oi := ({ dst := some 24, op := Op.load 70 (Operand.tmp 6), type := 70, pos := "told.go:27", after := #[], guard := none } : Oper)) (v := ?_) rfl (by kernel_rfl) (by kernel_rfl) (by kernel_rfl) (fun _ _ _ h => h) (Or.inl ⟨by rfl, ?_⟩) hS ?_
        rotate_left
        · (intro w hSw; (try dsimp only at hSw); refine exec_load_fr (.tmp 6) ?_ ?_ hSw.2.2 <;> rfl)
        (try simp only [Act.put, List.setIfInBounds_toArray, List.set_cons_zero, List.set_cons_succ])
        refine wpAnyH_take (i := 1) (oi := ({ dst := some 25, op := Op.move (Operand.tmp 8), type := 86, pos := "told.go:27", after := #[], guard := none } : Oper)) (v := ?_) rfl (by kernel_rfl) (by kernel_rfl) (by kernel_rfl) (fun _ _ _ h => h) (Or.inl ⟨by rfl, ?_⟩) hS ?_
        rotate_left
        · (intro w hSw; (try dsimp only at hSw); go_simp; try with_reducible rfl)
        (try simp only [Act.put, List.setIfInBounds_toArray, List.set_cons_zero, List.set_cons_succ])
        refine wpAnyH_take (i := 2) (oi := ({ dst := some 26, op := Op.binOp BinOp.eql 86 (Operand.tmp 25) (Operand.const (Value.int IntKind.i64 0)) 86, type := 4, pos := "told.go:27", after := #[{ on := 1, ground := Ground.data }], guard := none } : Oper)) (v := ?_) rfl (by kernel_rfl) (by kernel_rfl) (by kernel_rfl) (fun _ _ _ h => h) (Or.inl ⟨by rfl, ?_⟩) hS ?_
        rotate_left
        · (intro w hSw; (try dsimp only at hSw); go_simp; try with_reducible rfl)
        (try simp only [Act.put, List.setIfInBounds_toArray, List.set_cons_zero, List.set_cons_succ])
        refine wpAnyH_take (i := 3) (oi := ({ dst := some 27, op := Op.move (Operand.tmp 26), type := 4, pos := "told.go:27", after := #[{ on := 2, ground := Ground.data }], guard := none } : Oper)) (v := ?_) rfl (by kernel_rfl) (by kernel_rfl) (by kernel_rfl) (fun _ _ _ h => h) (Or.inl ⟨by rfl, ?_⟩) hS ?_
        rotate_left
        · (intro w hSw; (try dsimp only at hSw); go_simp; try with_reducible rfl)
        (try simp only [Act.put, List.setIfInBounds_toArray, List.set_cons_zero, List.set_cons_succ])
        refine wpAnyH_take (i := 4) (oi := ({ dst := some 28, op := Op.fieldAddr 97 (Operand.tmp 2) 2, type := 0, pos := "told.go:27", after := #[{ on := 3, ground := Ground.guard }], guard := some (3, true) } : Oper)) (v := ?_) rfl (by kernel_rfl) (by kernel_rfl) (by kernel_rfl) (fun _ _ _ h => h) (Or.inl ⟨by rfl, ?_⟩) hS ?_
        rotate_left
        · (intro w hSw; (try dsimp only at hSw); go_simp; try with_reducible rfl)
        (try simp only [Act.put, List.setIfInBounds_toArray, List.set_cons_zero, List.set_cons_succ])
        refine wpAnyH_take (i := 5) (oi := ({ dst := some 29, op := Op.load 60 (Operand.tmp 28), type := 60, pos := "told.go:27", after := #[{ on := 4, ground := Ground.data }, { on := 3, ground := Ground.guard }], guard := some (3, true) } : Oper)) (v := ?_) rfl (by kernel_rfl) (by kernel_rfl) (by kernel_rfl) (fun _ _ _ h => h) (Or.inl ⟨by rfl, ?_⟩) hS ?_
        rotate_left
        · (intro w hSw; (try dsimp only at hSw); go_simp; try with_reducible rfl)
        (try simp only [Act.put, List.setIfInBounds_toArray, List.set_cons_zero, List.set_cons_succ])
        refine wpAnyH_take (i := 6) (oi := ({ dst := some 30, op := Op.move (Operand.tmp 1), type := 3, pos := "told.go:27", after := #[{ on := 3, ground := Ground.guard }], guard := some (3, true) } : Oper)) (v := ?_) rfl (by kernel_rfl) (by kernel_rfl) (by kernel_rfl) (fun _ _ _ h => h) (Or.inl ⟨by rfl, ?_⟩) hS ?_
        rotate_left
        · (intro w hSw; (try dsimp only at hSw); go_simp; try with_reducible rfl)
        (try simp only [Act.put, List.setIfInBounds_toArray, List.set_cons_zero, List.set_cons_succ])
        refine wpAnyH_take (i := 7) (oi := ({ dst := some 31, op := Op.move (Operand.tmp 1), type := 3, pos := "told.go:27", after := #[{ on := 3, ground := Ground.guard }], guard := some (3, true) } : Oper)) (v := ?_) rfl (by kernel_rfl) (by kernel_rfl) (by kernel_rfl) (fun _ _ _ h => h) (Or.inl ⟨by rfl, ?_⟩) hS ?_
        rotate_left
        · (intro w hSw; (try dsimp only at hSw); go_simp; try with_reducible rfl)
        (try simp only [Act.put, List.setIfInBounds_toArray, List.set_cons_zero, List.set_cons_succ])
        refine wpAnyH_take (i := 8) (oi := ({ dst := some 32, op := Op.move (Operand.tmp 7), type := 3, pos := "told.go:27", after := #[{ on := 3, ground := Ground.guard }], guard := some (3, true) } : Oper)) (v := ?_) rfl (by kernel_rfl) (by kernel_rfl) (by kernel_rfl) (fun _ _ _ h => h) (Or.inl ⟨by rfl, ?_⟩) hS ?_
        rotate_left
        · (intro w hSw; (try dsimp only at hSw); go_simp; try with_reducible rfl)
        (try simp only [Act.put, List.setIfInBounds_toArray, List.set_cons_zero, List.set_cons_succ])
        refine wpAnyH_take (i := 9) (oi := ({ dst := some 33, op := Op.binOp BinOp.add 3 (Operand.tmp 31) (Operand.tmp 32) 3, type := 3, pos := "told.go:27", after := #[{ on := 7, ground := Ground.data }, { on := 8, ground := Ground.data }, { on := 3, ground := Ground.guard }], guard := some (3, true) } : Oper)) (v := .int .i64 (u : Int)) rfl (by kernel_rfl) (by kernel_rfl) (by kernel_rfl) (fun _ _ _ h => h) (Or.inl ⟨by rfl, ?_⟩) hS ?_
        · (intro w hSw; (try dsimp only at hSw); have z := HWU.out; go_simp; (try exact z))
        (try simp only [Act.put, List.setIfInBounds_toArray, List.set_cons_zero, List.set_cons_succ])
        refine rg_one 10 ({ dst := some 34, op := Op.call { callee := Callee.value (Operand.func 67), args := #[Operand.tmp 29, Operand.tmp 30, Operand.tmp 33], argTypes := #[60, 3, 3] }, type := 4, pos := "told.go:27", after := #[{ on := 5, ground := Ground.data }, { on := 6, ground := Ground.data }, { on := 9, ground := Ground.data }, { on := 3, ground := Ground.chain }, { on := 3, ground := Ground.guard }], guard := some (3, true) } : Oper) (by kernel_rfl) rfl (fun K hK => ?_)
        go_simp
        (go_at_call 67; (with_reducible refine (HH2.out _ hS.2.1).mono ?_); rintro r w7 ⟨rfl, hb⟩; have hN := (show w7.cell? ⟨w.heap.size, 2, none⟩ = some kv ∧ Below w.heap.size w w7 ∧ FO w7 g fk fe (.slice p4 n4 c4) from ⟨cell_keep hb hS.1, bch hS.2.1 hb, hS.2.2.keep hb⟩); have HA8 := Lib.hid (HA7.out.keep hb); have HO8 := Lib.hid (own_keep HO7.out hb); clear hb)
        refine hK.out _ _ ?_ (fun hS1 => ?_)
        · (first | exact hN | exact hS)
        clear hK K hS; have hS := hS1; clear hS1
        (try simp only [Act.put, List.setIfInBounds_toArray, List.set_cons_zero, List.set_cons_succ])
        refine wpAnyH_take (i := 11) (oi := ({ dst := some 35, op := Op.pick (Operand.tmp 27) (Operand.tmp 34) (Operand.const (Value.bool false)), type := 4, pos := "told.go:27", after := #[{ on := 3, ground := Ground.data }, { on := 10, ground := Ground.data }, { on := 12, ground := Ground.gcOnly Departure.lateStores }], guard := none } : Oper)) (v := ?_) rfl (by kernel_rfl) (by kernel_rfl) (by kernel_rfl) (fun _ _ _ h => h) (Or.inl ⟨by rfl, ?_⟩) hS ?_
        rotate_left
        · (intro w hSw; (try dsimp only at hSw); go_simp; try with_reducible rfl)
        (try simp only [Act.put, List.setIfInBounds_toArray, List.set_cons_zero, List.set_cons_succ])
        refine rg_one 12 ({ dst := none, op := Op.store 70 (Operand.tmp 4) (Operand.tmp 24), type := 0, pos := "told.go:27", after := #[{ on := 0, ground := Ground.data }, { on := 10, ground := Ground.chain }, { on := 0, ground := Ground.phase }, { on := 1, ground := Ground.textOnly Departure.lateStores }, { on := 2, ground := Ground.textOnly Departure.lateStores }, { on := 3, ground := Ground.textOnly Departure.lateStores }, { on := 4, ground := Ground.textOnly Departure.lateStores }, { on := 5, ground := Ground.textOnly Departure.lateStores }, { on := 6, ground := Ground.textOnly Departure.lateStores }, { on := 7, ground := Ground.textOnly Departure.lateStores }, { on := 8, ground := Ground.textOnly Departure.lateStores }, { on := 9, ground := Ground.textOnly Departure.lateStores }, { on := 10, ground := Ground.textOnly Departure.lateStoresUnsure }, { on := 11, ground := Ground.textOnly Departure.lateStores }], guard := none } : Oper) (by kernel_rfl) rfl (fun K hK => ?_)
        rw [if_pos (by rfl)]; refine wp_put_fr (.tmp 4) (.tmp 24) rfl g0 HA8.out fk fe p4 n4 c4 rfl rfl ?_; intro w8 HF8 HG8; have hN := (show w8.cell? ⟨w.heap.size, 2, none⟩ = some kv ∧ Below w.heap.size w w8 ∧ FO w8 g fk fe (.slice p4 n4 c4) from ⟨HG8.out.cell hS.1 (fun e => by have := HG0.out; have := Option.some.inj e; simp at this; omega), below_over hS.2.1 HG8.out (by have := HG0.out; omega) hS.2.1.size, hS.2.2.over HG8.out HGN.out⟩); have HO9 := Lib.hid (own_over HO8.out HG8.out (fun q hq e => HA8.out.ne_own HO8.out q hq (Option.some.inj e)))
        refine hK.out _ _ ?_ (fun hS1 => ?_)
        · (first | exact hN | exact hS)
        clear hK K hS; have hS := hS1; clear hS1
        (try simp only [Act.put])
        refine wpAnyH_take (i := 13) (oi := ({ dst := some 5, op := Op.assign (Operand.tmp 35), type := 4, pos := "told.go:27", after := #[{ on := 11, ground := Ground.data }, { on := 12, ground := Ground.chain }, { on := 0, ground := Ground.phase }, { on := 1, ground := Ground.phase }, { on := 2, ground := Ground.phase }, { on := 3, ground := Ground.phase }, { on := 4, ground := Ground.phase }, { on := 5, ground := Ground.phase }, { on := 6, ground := Ground.phase }, { on := 7, ground := Ground.phase }, { on := 8, ground := Ground.phase }, { on := 9, ground := Ground.phase }, { on := 10, ground := Ground.phase }, { on := 11, ground := Ground.phase }, { on := 12, ground := Ground.phase }], guard := none } : Oper)) (v := ?_) rfl (by kernel_rfl) (by kernel_rfl) (by kernel_rfl) (fun _ _ _ h => h) (Or.inl ⟨by rfl, ?_⟩) hS ?_
        rotate_left
        · (intro w hSw; (try dsimp only at hSw); go_simp; try with_reducible rfl)
        (try simp only [Act.put, List.setIfInBounds_toArray, List.set_cons_zero, List.set_cons_succ])
        refine wpAnyH_done (by kernel_rfl) ?_ _
        have HB8 := Lib.hid hS.2.1
        clear hS
        go_wp2
        refine bodyPost_ret_by (results_row_tmp rfl _ _ g0 _ rfl HF8.out.load) rfl ?_
        have hn4 : fd.length = n4 := (il_length .u8 fd).symm.trans (HO9.out.1.trans (Nat.mul_one _))
        subst hn4
        have hyy := HY.out
        cases y with
        | true =>
          rw [if_pos rfl] at hyy
          refine ⟨HB8.out, .inr ⟨by rw [hyy]; show m ≠ 0; omega, p4, c4, by rw [hyy]; rfl, ?_⟩⟩
          rw [hyy]; exact HO9.out
        | false =>
          rw [if_neg (by decide)] at hyy
          exact ⟨HB8.out, .inl ⟨by rw [hyy], _, _, _, _, _, rfl⟩⟩
      · have hx1 : (x == 0) = false := by simpa using hx0
        have HNO := Lib.hid hno
        clear hno
        go_wp2_with fail
        refine wp_region_held_drew (S := (fun w' => Below w.heap.size w w' ∧ FO w' g fk fe (.slice p4 n4 c4))) (by kernel_rfl) ⟨HST.out.2.1, HST.out.2.2⟩ (fun hS => ?_)
        refine wpAnyH_take (i := 0) (oi := ({ dst := some 24, op := Op.load 70 (Operand.tmp 6), type := 70, pos := "told.go:27", after := #[], guard := none } : Oper)) (v := ?_) rfl (by kernel_rfl) (by kernel_rfl) (by kernel_rfl) (fun _ _ _ h => h) (Or.inl ⟨by rfl, ?_⟩) hS ?_
        rotate_left
        · (intro w hSw; (try dsimp only at hSw); refine exec_load_fr (.tmp 6) ?_ ?_ hSw.2 <;> rfl)
        (try simp only [Act.put, List.setIfInBounds_toArray, List.set_cons_zero, List.set_cons_succ])
        refine wpAnyH_take (i := 1) (oi := ({ dst := some 25, op := Op.move (Operand.tmp 8), type := 86, pos := "told.go:27", after := #[], guard := none } : Oper)) (v := ?_) rfl (by kernel_rfl) (by kernel_rfl) (by kernel_rfl) (fun _ _ _ h => h) (Or.inl ⟨by rfl, ?_⟩) hS ?_
        rotate_left
        · (intro w hSw; (try dsimp only at hSw); go_simp; try with_reducible rfl)
        (try simp only [Act.put, List.setIfInBounds_toArray, List.set_cons_zero, List.set_cons_succ])
        refine wpAnyH_take (i := 2) (oi := ({ dst := some 26, op := Op.binOp BinOp.eql 86 (Operand.tmp 25) (Operand.const (Value.int IntKind.i64 0)) 86, type := 4, pos := "told.go:27", after := #[{ on := 1, ground := Ground.data }], guard := none } : Oper)) (v := ?_) rfl (by kernel_rfl) (by kernel_rfl) (by kernel_rfl) (fun _ _ _ h => h) (Or.inl ⟨by rfl, ?_⟩) hS ?_
        rotate_left
        · (intro w hSw; (try dsimp only at hSw); go_simp; try with_reducible rfl)
        (try simp only [Act.put, List.setIfInBounds_toArray, List.set_cons_zero, List.set_cons_succ])
        refine wpAnyH_take (i := 3) (oi := ({ dst := some 27, op := Op.move (Operand.tmp 26), type := 4, pos := "told.go:27", after := #[{ on := 2, ground := Ground.data }], guard := none } : Oper)) (v := ?_) rfl (by kernel_rfl) (by kernel_rfl) (by kernel_rfl) (fun _ _ _ h => h) (Or.inl ⟨by rfl, ?_⟩) hS ?_
        rotate_left
        · (intro w hSw; (try dsimp only at hSw); go_simp; try with_reducible rfl)
        (try simp only [Act.put, List.setIfInBounds_toArray, List.set_cons_zero, List.set_cons_succ])
        refine wpAnyH_take (i := 4) (oi := ({ dst := some 28, op := Op.fieldAddr 97 (Operand.tmp 2) 2, type := 0, pos := "told.go:27", after := #[{ on := 3, ground := Ground.guard }], guard := some (3, true) } : Oper)) (v := undef) rfl (by kernel_rfl) (by kernel_rfl) (by kernel_rfl) (fun _ _ _ h => h) (Or.inr ⟨by rfl, rfl⟩) hS ?_
        (try simp only [Act.put, List.setIfInBounds_toArray, List.set_cons_zero, List.set_cons_succ])
        refine wpAnyH_take (i := 5) (oi := ({ dst := some 29, op := Op.load 60 (Operand.tmp 28), type := 60, pos := "told.go:27", after := #[{ on := 4, ground := Ground.data }, { on := 3, ground := Ground.guard }], guard := some (3, true) } : Oper)) (v := undef) rfl (by kernel_rfl) (by kernel_rfl) (by kernel_rfl) (fun _ _ _ h => h) (Or.inr ⟨by rfl, rfl⟩) hS ?_
        (try simp only [Act.put, List.setIfInBounds_toArray, List.set_cons_zero, List.set_cons_succ])
        refine wpAnyH_take (i := 6) (oi := ({ dst := some 30, op := Op.move (Operand.tmp 1), type := 3, pos := "told.go:27", after := #[{ on := 3, ground := Ground.guard }], guard := some (3, true) } : Oper)) (v := undef) rfl (by kernel_rfl) (by kernel_rfl) (by kernel_rfl) (fun _ _ _ h => h) (Or.inr ⟨by rfl, rfl⟩) hS ?_
        (try simp only [Act.put, List.setIfInBounds_toArray, List.set_cons_zero, List.set_cons_succ])
        refine wpAnyH_take (i := 7) (oi := ({ dst := some 31, op := Op.move (Operand.tmp 1), type := 3, pos := "told.go:27", after := #[{ on := 3, ground := Ground.guard }], guard := some (3, true) } : Oper)) (v := undef) rfl (by kernel_rfl) (by kernel_rfl) (by kernel_rfl) (fun _ _ _ h => h) (Or.inr ⟨by rfl, rfl⟩) hS ?_
        (try simp only [Act.put, List.setIfInBounds_toArray, List.set_cons_zero, List.set_cons_succ])
        refine wpAnyH_take (i := 8) (oi := ({ dst := some 32, op := Op.move (Operand.tmp 7), type := 3, pos := "told.go:27", after := #[{ on := 3, ground := Ground.guard }], guard := some (3, true) } : Oper)) (v := undef) rfl (by kernel_rfl) (by kernel_rfl) (by kernel_rfl) (fun _ _ _ h => h) (Or.inr ⟨by rfl, rfl⟩) hS ?_
        (try simp only [Act.put, List.setIfInBounds_toArray, List.set_cons_zero, List.set_cons_succ])
        refine wpAnyH_take (i := 9) (oi := ({ dst := some 33, op := Op.binOp BinOp.add 3 (Operand.tmp 31) (Operand.tmp 32) 3, type := 3, pos := "told.go:27", after := #[{ on := 7, ground := Ground.data }, { on := 8, ground := Ground.data }, { on := 3, ground := Ground.guard }], guard := some (3, true) } : Oper)) (v := undef) rfl (by kernel_rfl) (by kernel_rfl) (by kernel_rfl) (fun _ _ _ h => h) (Or.inr ⟨by rfl, rfl⟩) hS ?_
        (try simp only [Act.put, List.setIfInBounds_toArray, List.set_cons_zero, List.set_cons_succ])
        refine wpAnyH_take (i := 10) (oi := ({ dst := some 34, op := Op.call { callee := Callee.value (Operand.func 67), args := #[Operand.tmp 29, Operand.tmp 30, Operand.tmp 33], argTypes := #[60, 3, 3] }, type := 4, pos := "told.go:27", after := #[{ on := 5, ground := Ground.data }, { on := 6, ground := Ground.data }, { on := 9, ground := Ground.data }, { on := 3, ground := Ground.chain }, { on := 3, ground := Ground.guard }], guard := some (3, true) } : Oper)) (v := undef) rfl (by kernel_rfl) (by kernel_rfl) (by kernel_rfl) (fun _ _ _ h => h) (Or.inr ⟨by rfl, rfl⟩) hS ?_
        (try simp only [Act.put, List.setIfInBounds_toArray, List.set_cons_zero, List.set_cons_succ])
        refine wpAnyH_take (i := 11) (oi := ({ dst := some 35, op := Op.pick (Operand.tmp 27) (Operand.tmp 34) (Operand.const (Value.bool false)), type := 4, pos := "told.go:27", after := #[{ on := 3, ground := Ground.data }, { on := 10, ground := Ground.data }, { on := 12, ground := Ground.gcOnly Departure.lateStores }], guard := none } : Oper)) (v := ?_) rfl (by kernel_rfl) (by kernel_rfl) (by kernel_rfl) (fun _ _ _ h => h) (Or.inl ⟨by rfl, ?_⟩) hS ?_
        rotate_left
        · (intro w hSw; (try dsimp only at hSw); go_simp; try with_reducible rfl)
        (try simp only [Act.put, List.setIfInBounds_toArray, List.set_cons_zero, List.set_cons_succ])
        refine rg_one 12 ({ dst := none, op := Op.store 70 (Operand.tmp 4) (Operand.tmp 24), type := 0, pos := "told.go:27", after := #[{ on := 0, ground := Ground.data }, { on := 10, ground := Ground.chain }, { on := 0, ground := Ground.phase }, { on := 1, ground := Ground.textOnly Departure.lateStores }, { on := 2, ground := Ground.textOnly Departure.lateStores }, { on := 3, ground := Ground.textOnly Departure.lateStores }, { on := 4, ground := Ground.textOnly Departure.lateStores }, { on := 5, ground := Ground.textOnly Departure.lateStores }, { on := 6, ground := Ground.textOnly Departure.lateStores }, { on := 7, ground := Ground.textOnly Departure.lateStores }, { on := 8, ground := Ground.textOnly Departure.lateStores }, { on := 9, ground := Ground.textOnly Departure.lateStores }, { on := 10, ground := Ground.textOnly Departure.lateStoresUnsure }, { on := 11, ground := Ground.textOnly Departure.lateStores }], guard := none } : Oper) (by kernel_rfl) rfl (fun K hK => ?_)
        rw [if_pos (by rfl)]; refine wp_put_fr (.tmp 4) (.tmp 24) rfl g0 HA7.out fk fe p4 n4 c4 rfl rfl ?_; intro w8 HF8 HG8; have hN := (show Below w.heap.size w w8 ∧ FO w8 g fk fe (.slice p4 n4 c4) from ⟨below_over hS.1 HG8.out (by have := HG0.out; omega) hS.1.size, hS.2.over HG8.out HGN.out⟩)
        refine hK.out _ _ ?_ (fun hS1 => ?_)
        · (first | exact hN | exact hS)
        clear hK K hS; have hS := hS1; clear hS1
        (try simp only [Act.put])
        refine wpAnyH_take (i := 13) (oi := ({ dst := some 5, op := Op.assign (Operand.tmp 35), type := 4, pos := "told.go:27", after := #[{ on := 11, ground := Ground.data }, { on := 12, ground := Ground.chain }, { on := 0, ground := Ground.phase }, { on := 1, ground := Ground.phase }, { on := 2, ground := Ground.phase }, { on := 3, ground := Ground.phase }, { on := 4, ground := Ground.phase }, { on := 5, ground := Ground.phase }, { on := 6, ground := Ground.phase }, { on := 7, ground := Ground.phase }, { on := 8, ground := Ground.phase }, { on := 9, ground := Ground.phase }, { on := 10, ground := Ground.phase }, { on := 11, ground := Ground.phase }, { on := 12, ground := Ground.phase }], guard := none } : Oper)) (v := ?_) rfl (by kernel_rfl) (by kernel_rfl) (by kernel_rfl) (fun _ _ _ h => h) (Or.inl ⟨by rfl, ?_⟩) hS ?_
        rotate_left
        · (intro w hSw; (try dsimp only at hSw); go_simp; try with_reducible rfl)
        (try simp only [Act.put, List.setIfInBounds_toArray, List.set_cons_zero, List.set_cons_succ])
        refine wpAnyH_done (by kernel_rfl) ?_ _
        have HB8 := Lib.hid hS.1
        clear hS
        go_wp2
        refine bodyPost_ret_by (results_row_tmp rfl _ _ g0 _ rfl HF8.out.load) rfl ?_
        exact ⟨HB8.out, .inl ⟨by rw [HNO.out], _, _, _, _, _, rfl⟩⟩
    · skip
      rw [if_pos (by rfl)]; refine wp_new_fr rfl ?_; intro g w5 HG hgl hb; have hN := HS3.out _ (bch hS.2.2.2 hb.out); (try (have q := Lib.hid (own_keep HO.out hb.out); clear HO; have HO := q; clear q)); have HGL := Lib.hid (Nat.le_trans hS.2.2.2.size hgl.out); clear hgl hb
      refine hK.out _ _ ?_ (fun hS1 => ?_)
      · (first | exact hN | exact hS)
      clear hK K hS; have hS := hS1; clear hS1
      (try simp only [Act.put, List.setIfInBounds_toArray, List.set_cons_zero, List.set_cons_succ])
      refine rg_one 10 ({ dst := some 20, op := Op.call { callee := Callee.value (Operand.func 65), args := #[Operand.tmp 17, Operand.tmp 19], argTypes := #[43, 68] }, type := 94, pos := "told.go:25", after := #[{ on := 7, ground := Ground.data }, { on := 9, ground := Ground.data }, { on := 5, ground := Ground.chain }], guard := none } : Oper) (by kernel_rfl) rfl (fun K hK => ?_)
      go_simp
      (go_at_call 65; (refine (HDC.out _ (bch HBA.out hS.2.2.2)).mono ?_); rintro r w4 hd; obtain ⟨p4, n4, c4, rfl, ho, hb⟩ := HDF.out _ _ _ hd; have hN := HS3.out _ (bch hS.2.2.2 hb); (try (have q := Lib.hid (HG.out.keep hb); clear HG; have HG := q; clear q)); have HO := Lib.hid (own_mono ho (show w.heap.size ≤ _ from Nat.le_trans HBA.out.size hS.2.2.2.size)); clear hb ho hd)
      refine hK.out _ _ ?_ (fun hS1 => ?_)
      · (first | exact hN | exact hS)
      clear hK K hS; have hS := hS1; clear hS1
      (try simp only [Act.put, List.setIfInBounds_toArray, List.set_cons_zero, List.set_cons_succ])
      refine wpAnyH_take (i := 11) (oi := ({ dst := some 9, op := Op.move (Operand.tmp 20), type := 94, pos := "told.go:25", after := #[{ on := 10, ground := Ground.data }], guard := none } : Oper)) (v := ?_) rfl (by kernel_rfl) (by kernel_rfl) (by kernel_rfl) (fun _ _ _ h => h) (Or.inl ⟨by rfl, ?_⟩) hS ?_
      rotate_left
      · (intro w hSw; (try dsimp only at hSw); go_simp; try with_reducible rfl)
      (try simp only [Act.put, List.setIfInBounds_toArray, List.set_cons_zero, List.set_cons_succ])
      refine wpAnyH_take (i := 12) (oi := ({ dst := some 21, op := Op.extract (Operand.tmp 9) 0, type := 70, pos := "told.go:25", after := #[{ on := 11, ground := Ground.data }], guard := none } : Oper)) (v := ?_) rfl (by kernel_rfl) (by kernel_rfl) (by kernel_rfl) (fun _ _ _ h => h) (Or.inl ⟨by rfl, ?_⟩) hS ?_
      rotate_left
      · (intro w hSw; (try dsimp only at hSw); go_simp; try with_reducible rfl)
      (try simp only [Act.put, List.setIfInBounds_toArray, List.set_cons_zero, List.set_cons_succ])
      refine wpAnyH_take (i := 13) (oi := ({ dst := some 22, op := Op.extract (Operand.tmp 9) 1, type := 3, pos := "told.go:25", after := #[{ on := 11, ground := Ground.data }, { on := 16, ground := Ground.gcOnly Departure.lateStores }], guard := none } : Oper)) (v := ?_) rfl (by kernel_rfl) (by kernel_rfl) (by kernel_rfl) (fun _ _ _ h => h) (Or.inl ⟨by rfl, ?_⟩) hS ?_
      rotate_left
      · (intro w hSw; (try dsimp only at hSw); go_simp; try with_reducible rfl)
      (try simp only [Act.put, List.setIfInBounds_toArray, List.set_cons_zero, List.set_cons_succ])
      refine wpAnyH_take (i := 14) (oi := ({ dst := some 23, op := Op.extract (Operand.tmp 9) 2, type := 86, pos := "told.go:25", after := #[{ on := 11, ground := Ground.data }, { on := 17, ground := Ground.gcOnly Departure.lateStores }], guard := none } : Oper)) (v := ?_) rfl (by kernel_rfl) (by kernel_rfl) (by kernel_rfl) (fun _ _ _ h => h) (Or.inl ⟨by rfl, ?_⟩) hS ?_
      rotate_left
      · (intro w hSw; (try dsimp only at hSw); go_simp; try with_reducible rfl)
      (try simp only [Act.put, List.setIfInBounds_toArray, List.set_cons_zero, List.set_cons_succ])
      refine rg_one 16 ({ dst := none, op := Op.store 70 (Operand.tmp 6) (Operand.tmp 21), type := 0, pos := "told.go:25", after := #[{ on := 15, ground := Ground.data }, { on := 12, ground := Ground.data }, { on := 10, ground := Ground.chain }, { on := 0, ground := Ground.phase }, { on := 1, ground := Ground.phase }, { on := 2, ground := Ground.phase }, { on := 3, ground := Ground.phase }, { on := 4, ground := Ground.phase }, { on := 5, ground := Ground.phase }, { on := 6, ground := Ground.phase }, { on := 7, ground := Ground.phase }, { on := 8, ground := Ground.phase }, { on := 9, ground := Ground.phase }, { on := 10, ground := Ground.phase }, { on := 11, ground := Ground.phase }, { on := 12, ground := Ground.phase }, { on := 13, ground := Ground.textOnly Departure.lateStores }, { on := 14, ground := Ground.textOnly Departure.lateStores }, { on := 15, ground := Ground.phase }], guard := none } : Oper) (by kernel_rfl) rfl (fun K hK => ?_)
      rw [if_pos (by rfl)]; refine wp_put_fr (.tmp 6) (.tmp 21) rfl g HG.out fk fe p4 n4 c4 rfl rfl ?_; intro w6 HF6 HG6; have HO6 := Lib.hid (own_over HO.out HG6.out (fun q hq e => HG.out.ne_own HO.out q hq (Option.some.inj e))); have hN := HS3.out _ (below_over hS.2.2.2 HG6.out HGL.out hS.2.2.2.size); clear HG HO HG6
      refine hK.out _ _ ?_ (fun hS1 => ?_)
      · (first | exact hN | exact hS)
      clear hK K hS; have hS := hS1; clear hS1
      (try simp only [Act.put])
      refine wpAnyH_take (i := 17) (oi := ({ dst := some 7, op := Op.assign (Operand.tmp 22), type := 3, pos := "told.go:25", after := #[{ on := 13, ground := Ground.data }, { on := 16, ground := Ground.chain }, { on := 0, ground := Ground.phase }, { on := 1, ground := Ground.phase }, { on := 2, ground := Ground.phase }, { on := 3, ground := Ground.phase }, { on := 4, ground := Ground.phase }, { on := 5, ground := Ground.phase }, { on := 6, ground := Ground.phase }, { on := 7, ground := Ground.phase }, { on := 8, ground := Ground.phase }, { on := 9, ground := Ground.phase }, { on := 10, ground := Ground.phase }, { on := 11, ground := Ground.phase }, { on := 12, ground := Ground.phase }, { on := 13, ground := Ground.phase }, { on := 14, ground := Ground.textOnly Departure.lateStores }, { on := 15, ground := Ground.phase }, { on := 16, ground := Ground.phase }], guard := none } : Oper)) (v := ?_) rfl (by kernel_rfl) (by kernel_rfl) (by kernel_rfl) (fun _ _ _ h => h) (Or.inl ⟨by rfl, ?_⟩) hS ?_
      rotate_left
      · (intro w hSw; (try dsimp only at hSw); go_simp; try with_reducible rfl)
      (try simp only [Act.put, List.setIfInBounds_toArray, List.set_cons_zero, List.set_cons_succ])
      refine wpAnyH_take (i := 18) (oi := ({ dst := some 8, op := Op.assign (Operand.tmp 23), type := 86, pos := "told.go:25", after := #[{ on := 14, ground := Ground.data }, { on := 17, ground := Ground.chain }, { on := 0, ground := Ground.phase }, { on := 1, ground := Ground.phase }, { on := 2, ground := Ground.phase }, { on := 3, ground := Ground.phase }, { on := 4, ground := Ground.phase }, { on := 5, ground := Ground.phase }, { on := 6, ground := Ground.phase }, { on := 7, ground := Ground.phase }, { on := 8, ground := Ground.phase }, { on := 9, ground := Ground.phase }, { on := 10, ground := Ground.phase }, { on := 11, ground := Ground.phase }, { on := 12, ground := Ground.phase }, { on := 13, ground := Ground.phase }, { on := 14, ground := Ground.phase }, { on := 15, ground := Ground.phase }, { on := 16, ground := Ground.phase }, { on := 17, ground := Ground.phase }], guard := none } : Oper)) (v := ?_) rfl (by kernel_rfl) (by kernel_rfl) (by kernel_rfl) (fun _ _ _ h => h) (Or.inl ⟨by rfl, ?_⟩) hS ?_
      rotate_left
      · (intro w hSw; (try dsimp only at hSw); go_simp; try with_reducible rfl)
      (try simp only [Act.put, List.setIfInBounds_toArray, List.set_cons_zero, List.set_cons_succ])
      refine wpAnyH_done (by kernel_rfl) ?_ _
      have HB6 := Lib.hid hS.2.2.2
      clear hS
      (try clear hN)
      have HGN := Lib.hid (show g ≠ g0 from by have := HGL.out; have := HWA.out; omega)
      have HBW := Lib.hid (bch HBA.out HB6.out.drew)
      have HA7 := Lib.hid ((HA.out.keep HB6.out).keep (Below.refl _ w6).drew)
      have HO7 := Lib.hid (own_keep HO6.out (Below.refl _ w6).drew)
      have HST : Hid (w6.drew.cell? ⟨w.heap.size, 2, none⟩ = some kv ∧ Below w.heap.size w w6.drew ∧ FO w6.drew g fk fe (.slice p4 n4 c4)) := Lib.hid ⟨(HS3.out _ HB6.out.drew).2.2.1, HBW.out, HF6.out.keep (Below.refl _ w6).drew⟩
      rcases hx with ⟨rfl, hm1, hm2, hyes⟩ | ⟨hx0, hno⟩
      · obtain ⟨y, hy⟩ : ∃ y, covAt K (a : Int) ((a + m : Nat) : Int) = y := ⟨_, rfl⟩
        have HY := Lib.hid (hyes y hy)
        obtain ⟨u, hu⟩ : ∃ u, a + m = u := ⟨_, rfl⟩
        have huI : (a : Int) + (m : Int) = (u : Int) := by omega
        have hu8 : (u : Int) ≤ 832 := by omega
        have HWU : Hid (IntKind.i64.wrap (u : Int) = (u : Int)) := Lib.hid (wrap_id _ (by omega))
        have HH2 : Hid (∀ w', Below w.heap.size w w' → Calls Tryd.prog 67 #[kv, .int .i64 a, .int .i64 u] w' fun e w'' => e = .returned (.bool y) ∧ Below w'.heap.size w' w'') := Lib.hid fun w' h => by
          have := HCV.out w' u h (by omega)
          rw [← hu, hy] at this
          rw [← hu]
          exact this
        clear hyes hy hu
        go_wp2_with fail
        refine wp_region_held_drew (S := (fun w' => w'.cell? ⟨w.heap.size, 2, none⟩ = some kv ∧ Below w.heap.size w w' ∧ FO w' g fk fe (.slice p4 n4 c4))) (by kernel_rfl) HST.out (fun hS => ?_)
        refine wpAnyH_take (i := 0) (oi := ({ dst := some 24, op := Op.load 70 (Operand.tmp 6), type := 70, pos := "told.go:27", after := #[], guard := none } : Oper)) (v := ?_) rfl (by kernel_rfl) (by kernel_rfl) (by kernel_rfl) (fun _ _ _ h => h) (Or.inl ⟨by rfl, ?_⟩) hS ?_
        rotate_left
        · (intro w hSw; (try dsimp only at hSw); refine exec_load_fr (.tmp 6) ?_ ?_ hSw.2.2 <;> rfl)
        (try simp only [Act.put, List.setIfInBounds_toArray, List.set_cons_zero, List.set_cons_succ])
        refine wpAnyH_take (i := 1) (oi := ({ dst := some 25, op := Op.move (Operand.tmp 8), type := 86, pos := "told.go:27", after := #[], guard := none } : Oper)) (v := ?_) rfl (by kernel_rfl) (by kernel_rfl) (by kernel_rfl) (fun _ _ _ h => h) (Or.inl ⟨by rfl, ?_⟩) hS ?_
        rotate_left
        · (intro w hSw; (try dsimp only at hSw); go_simp; try with_reducible rfl)
        (try simp only [Act.put, List.setIfInBounds_toArray, List.set_cons_zero, List.set_cons_succ])
        refine wpAnyH_take (i := 2) (oi := ({ dst := some 26, op := Op.binOp BinOp.eql 86 (Operand.tmp 25) (Operand.const (Value.int IntKind.i64 0)) 86, type := 4, pos := "told.go:27", after := #[{ on := 1, ground := Ground.data }], guard := none } : Oper)) (v := ?_) rfl (by kernel_rfl) (by kernel_rfl) (by kernel_rfl) (fun _ _ _ h => h) (Or.inl ⟨by rfl, ?_⟩) hS ?_
        rotate_left
        · (intro w hSw; (try dsimp only at hSw); go_simp; try with_reducible rfl)
        (try simp only [Act.put, List.setIfInBounds_toArray, List.set_cons_zero, List.set_cons_succ])
        refine wpAnyH_take (i := 3) (oi := ({ dst := some 27, op := Op.move (Operand.tmp 26), type := 4, pos := "told.go:27", after := #[{ on := 2, ground := Ground.data }], guard := none } : Oper)) (v := ?_) rfl (by kernel_rfl) (by kernel_rfl) (by kernel_rfl) (fun _ _ _ h => h) (Or.inl ⟨by rfl, ?_⟩) hS ?_
        rotate_left
        · (intro w hSw; (try dsimp only at hSw); go_simp; try with_reducible rfl)
        (try simp only [Act.put, List.setIfInBounds_toArray, List.set_cons_zero, List.set_cons_succ])
        refine wpAnyH_take (i := 4) (oi := ({ dst := some 28, op := Op.fieldAddr 97 (Operand.tmp 2) 2, type := 0, pos := "told.go:27", after := #[{ on := 3, ground := Ground.guard }], guard := some (3, true) } : Oper)) (v := ?_) rfl (by kernel_rfl) (by kernel_rfl) (by kernel_rfl) (fun _ _ _ h => h) (Or.inl ⟨by rfl, ?_⟩) hS ?_
        rotate_left
        · (intro w hSw; (try dsimp only at hSw); go_simp; try with_reducible rfl)
        (try simp only [Act.put, List.setIfInBounds_toArray, List.set_cons_zero, List.set_cons_succ])
        refine wpAnyH_take (i := 5) (oi := ({ dst := some 29, op := Op.load 60 (Operand.tmp 28), type := 60, pos := "told.go:27", after := #[{ on := 4, ground := Ground.data }, { on := 3, ground := Ground.guard }], guard := some (3, true) } : Oper)) (v := ?_) rfl (by kernel_rfl) (by kernel_rfl) (by kernel_rfl) (fun _ _ _ h => h) (Or.inl ⟨by rfl, ?_⟩) hS ?_
        rotate_left
        · (intro w hSw; (try dsimp only at hSw); go_simp; try with_reducible rfl)
        (try simp only [Act.put, List.setIfInBounds_toArray, List.set_cons_zero, List.set_cons_succ])
        refine wpAnyH_take (i := 6) (oi := ({ dst := some 30, op := Op.move (Operand.tmp 1), type := 3, pos := "told.go:27", after := #[{ on := 3, ground := Ground.guard }], guard := some (3, true) } : Oper)) (v := ?_) rfl (by kernel_rfl) (by kernel_rfl) (by kernel_rfl) (fun _ _ _ h => h) (Or.inl ⟨by rfl, ?_⟩) hS ?_
        rotate_left
        · (intro w hSw; (try dsimp only at hSw); go_simp; try with_reducible rfl)
        (try simp only [Act.put, List.setIfInBounds_toArray, List.set_cons_zero, List.set_cons_succ])
        refine wpAnyH_take (i := 7) (oi := ({ dst := some 31, op := Op.move (Operand.tmp 1), type := 3, pos := "told.go:27", after := #[{ on := 3, ground := Ground.guard }], guard := some (3, true) } : Oper)) (v := ?_) rfl (by kernel_rfl) (by kernel_rfl) (by kernel_rfl) (fun _ _ _ h => h) (Or.inl ⟨by rfl, ?_⟩) hS ?_
        rotate_left
        · (intro w hSw; (try dsimp only at hSw); go_simp; try with_reducible rfl)
        (try simp only [Act.put, List.setIfInBounds_toArray, List.set_cons_zero, List.set_cons_succ])
        refine wpAnyH_take (i := 8) (oi := ({ dst := some 32, op := Op.move (Operand.tmp 7), type := 3, pos := "told.go:27", after := #[{ on := 3, ground := Ground.guard }], guard := some (3, true) } : Oper)) (v := ?_) rfl (by kernel_rfl) (by kernel_rfl) (by kernel_rfl) (fun _ _ _ h => h) (Or.inl ⟨by rfl, ?_⟩) hS ?_
        rotate_left
        · (intro w hSw; (try dsimp only at hSw); go_simp; try with_reducible rfl)
        (try simp only [Act.put, List.setIfInBounds_toArray, List.set_cons_zero, List.set_cons_succ])
        refine wpAnyH_take (i := 9) (oi := ({ dst := some 33, op := Op.binOp BinOp.add 3 (Operand.tmp 31) (Operand.tmp 32) 3, type := 3, pos := "told.go:27", after := #[{ on := 7, ground := Ground.data }, { on := 8, ground := Ground.data }, { on := 3, ground := Ground.guard }], guard := some (3, true) } : Oper)) (v := .int .i64 (u : Int)) rfl (by kernel_rfl) (by kernel_rfl) (by kernel_rfl) (fun _ _ _ h => h) (Or.inl ⟨by rfl, ?_⟩) hS ?_
        · (intro w hSw; (try dsimp only at hSw); have z := HWU.out; go_simp; (try exact z))
        (try simp only [Act.put, List.setIfInBounds_toArray, List.set_cons_zero, List.set_cons_succ])
        refine rg_one 10 ({ dst := some 34, op := Op.call { callee := Callee.value (Operand.func 67), args := #[Operand.tmp 29, Operand.tmp 30, Operand.tmp 33], argTypes := #[60, 3, 3] }, type := 4, pos := "told.go:27", after := #[{ on := 5, ground := Ground.data }, { on := 6, ground := Ground.data }, { on := 9, ground := Ground.data }, { on := 3, ground := Ground.chain }, { on := 3, ground := Ground.guard }], guard := some (3, true) } : Oper) (by kernel_rfl) rfl (fun K hK => ?_)
        go_simp
        (go_at_call 67; (with_reducible refine (HH2.out _ hS.2.1).mono ?_); rintro r w7 ⟨rfl, hb⟩; have hN := (show w7.cell? ⟨w.heap.size, 2, none⟩ = some kv ∧ Below w.heap.size w w7 ∧ FO w7 g fk fe (.slice p4 n4 c4) from ⟨cell_keep hb hS.1, bch hS.2.1 hb, hS.2.2.keep hb⟩); have HA8 := Lib.hid (HA7.out.keep hb); have HO8 := Lib.hid (own_keep HO7.out hb); clear hb)
        refine hK.out _ _ ?_ (fun hS1 => ?_)
        · (first | exact hN | exact hS)
        clear hK K hS; have hS := hS1; clear hS1
        (try simp only [Act.put, List.setIfInBounds_toArray, List.set_cons_zero, List.set_cons_succ])
        refine wpAnyH_take (i := 11) (oi := ({ dst := some 35, op := Op.pick (Operand.tmp 27) (Operand.tmp 34) (Operand.const (Value.bool false)), type := 4, pos := "told.go:27", after := #[{ on := 3, ground := Ground.data }, { on := 10, ground := Ground.data }, { on := 12, ground := Ground.gcOnly Departure.lateStores }], guard := none } : Oper)) (v := ?_) rfl (by kernel_rfl) (by kernel_rfl) (by kernel_rfl) (fun _ _ _ h => h) (Or.inl ⟨by rfl, ?_⟩) hS ?_
        rotate_left
        · (intro w hSw; (try dsimp only at hSw); go_simp; try with_reducible rfl)
        (try simp only [Act.put, List.setIfInBounds_toArray, List.set_cons_zero, List.set_cons_succ])
        refine rg_one 12 ({ dst := none, op := Op.store 70 (Operand.tmp 4) (Operand.tmp 24), type := 0, pos := "told.go:27", after := #[{ on := 0, ground := Ground.data }, { on := 10, ground := Ground.chain }, { on := 0, ground := Ground.phase }, { on := 1, ground := Ground.textOnly Departure.lateStores }, { on := 2, ground := Ground.textOnly Departure.lateStores }, { on := 3, ground := Ground.textOnly Departure.lateStores }, { on := 4, ground := Ground.textOnly Departure.lateStores }, { on := 5, ground := Ground.textOnly Departure.lateStores }, { on := 6, ground := Ground.textOnly Departure.lateStores }, { on := 7, ground := Ground.textOnly Departure.lateStores }, { on := 8, ground := Ground.textOnly Departure.lateStores }, { on := 9, ground := Ground.textOnly Departure.lateStores }, { on := 10, ground := Ground.textOnly Departure.lateStoresUnsure }, { on := 11, ground := Ground.textOnly Departure.lateStores }], guard := none } : Oper) (by kernel_rfl) rfl (fun K hK => ?_)
        rw [if_pos (by rfl)]; refine wp_put_fr (.tmp 4) (.tmp 24) rfl g0 HA8.out fk fe p4 n4 c4 rfl rfl ?_; intro w8 HF8 HG8; have hN := (show w8.cell? ⟨w.heap.size, 2, none⟩ = some kv ∧ Below w.heap.size w w8 ∧ FO w8 g fk fe (.slice p4 n4 c4) from ⟨HG8.out.cell hS.1 (fun e => by have := HG0.out; have := Option.some.inj e; simp at this; omega), below_over hS.2.1 HG8.out (by have := HG0.out; omega) hS.2.1.size, hS.2.2.over HG8.out HGN.out⟩); have HO9 := Lib.hid (own_over HO8.out HG8.out (fun q hq e => HA8.out.ne_own HO8.out q hq (Option.some.inj e)))
        refine hK.out _ _ ?_ (fun hS1 => ?_)
        · (first | exact hN | exact hS)
        clear hK K hS; have hS := hS1; clear hS1
        (try simp only [Act.put])
        refine wpAnyH_take (i := 13) (oi := ({ dst := some 5, op := Op.assign (Operand.tmp 35), type := 4, pos := "told.go:27", after := #[{ on := 11, ground := Ground.data }, { on := 12, ground := Ground.chain }, { on := 0, ground := Ground.phase }, { on := 1, ground := Ground.phase }, { on := 2, ground := Ground.phase }, { on := 3, ground := Ground.phase }, { on := 4, ground := Ground.phase }, { on := 5, ground := Ground.phase }, { on := 6, ground := Ground.phase }, { on := 7, ground := Ground.phase }, { on := 8, ground := Ground.phase }, { on := 9, ground := Ground.phase }, { on := 10, ground := Ground.phase }, { on := 11, ground := Ground.phase }, { on := 12, ground := Ground.phase }], guard := none } : Oper)) (v := ?_) rfl (by kernel_rfl) (by kernel_rfl) (by kernel_rfl) (fun _ _ _ h => h) (Or.inl ⟨by rfl, ?_⟩) hS ?_
        rotate_left
        · (intro w hSw; (try dsimp only at hSw); go_simp; try with_reducible rfl)
        (try simp only [Act.put, List.setIfInBounds_toArray, List.set_cons_zero, List.set_cons_succ])
        refine wpAnyH_done (by kernel_rfl) ?_ _
        have HB8 := Lib.hid hS.2.1
        clear hS
        go_wp2
        refine bodyPost_ret_by (results_row_tmp rfl _ _ g0 _ rfl HF8.out.load) rfl ?_
        have hn4 : fd.length = n4 := (il_length .u8 fd).symm.trans (HO9.out.1.trans (Nat.mul_one _))
        subst hn4
        have hyy := HY.out
        cases y with
        | true =>
          rw [if_pos rfl] at hyy
          refine ⟨HB8.out, .inr ⟨by rw [hyy]; show m ≠ 0; omega, p4, c4, by rw [hyy]; rfl, ?_⟩⟩
          rw [hyy]; exact HO9.out
        | false =>
          rw [if_neg (by decide)] at hyy
          exact ⟨HB8.out, .inl ⟨by rw [hyy], _, _, _, _, _, rfl⟩⟩
      · have hx1 : (x == 0) = false := by simpa using hx0
        have HNO := Lib.hid hno
        clear hno
        go_wp2_with fail
        refine wp_region_held_drew (S := (fun w' => Below w.heap.size w w' ∧ FO w' g fk fe (.slice p4 n4 c4))) (by kernel_rfl) ⟨HST.out.2.1, HST.out.2.2⟩ (fun hS => ?_)
        refine wpAnyH_take (i := 0) (oi := ({ dst := some 24, op := Op.load 70 (Operand.tmp 6), type := 70, pos := "told.go:27", after := #[], guard := none } : Oper)) (v := ?_) rfl (by kernel_rfl) (by kernel_rfl) (by kernel_rfl) (fun _ _ _ h => h) (Or.inl ⟨by rfl, ?_⟩) hS ?_
        rotate_left
        · (intro w hSw; (try dsimp only at hSw); refine exec_load_fr (.tmp 6) ?_ ?_ hSw.2 <;> rfl)
        (try simp only [Act.put, List.setIfInBounds_toArray, List.set_cons_zero, List.set_cons_succ])
        refine wpAnyH_take (i := 1) (oi := ({ dst := some 25, op := Op.move (Operand.tmp 8), type := 86, pos := "told.go:27", after := #[], guard := none } : Oper)) (v := ?_) rfl (by kernel_rfl) (by kernel_rfl) (by kernel_rfl) (fun _ _ _ h => h) (Or.inl ⟨by rfl, ?_⟩) hS ?_
        rotate_left
        · (intro w hSw; (try dsimp only at hSw); go_simp; try with_reducible rfl)
        (try simp only [Act.put, List.setIfInBounds_toArray, List.set_cons_zero, List.set_cons_succ])
        refine wpAnyH_take (i := 2) (oi := ({ dst := some 26, op := Op.binOp BinOp.eql 86 (Operand.tmp 25) (Operand.const (Value.int IntKind.i64 0)) 86, type := 4, pos := "told.go:27", after := #[{ on := 1, ground := Ground.data }], guard := none } : Oper)) (v := ?_) rfl (by kernel_rfl) (by kernel_rfl) (by kernel_rfl) (fun _ _ _ h => h) (Or.inl ⟨by rfl, ?_⟩) hS ?_
        rotate_left
        · (intro w hSw; (try dsimp only at hSw); go_simp; try with_reducible rfl)
        (try simp only [Act.put, List.setIfInBounds_toArray, List.set_cons_zero, List.set_cons_succ])
        refine wpAnyH_take (i := 3) (oi := ({ dst := some 27, op := Op.move (Operand.tmp 26), type := 4, pos := "told.go:27", after := #[{ on := 2, ground := Ground.data }], guard := none } : Oper)) (v := ?_) rfl (by kernel_rfl) (by kernel_rfl) (by kernel_rfl) (fun _ _ _ h => h) (Or.inl ⟨by rfl, ?_⟩) hS ?_
        rotate_left
        · (intro w hSw; (try dsimp only at hSw); go_simp; try with_reducible rfl)
        (try simp only [Act.put, List.setIfInBounds_toArray, List.set_cons_zero, List.set_cons_succ])
        refine wpAnyH_take (i := 4) (oi := ({ dst := some 28, op := Op.fieldAddr 97 (Operand.tmp 2) 2, type := 0, pos := "told.go:27", after := #[{ on := 3, ground := Ground.guard }], guard := some (3, true) } : Oper)) (v := undef) rfl (by kernel_rfl) (by kernel_rfl) (by kernel_rfl) (fun _ _ _ h => h) (Or.inr ⟨by rfl, rfl⟩) hS ?_
        (try simp only [Act.put, List.setIfInBounds_toArray, List.set_cons_zero, List.set_cons_succ])
        refine wpAnyH_take (i := 5) (oi := ({ dst := some 29, op := Op.load 60 (Operand.tmp 28), type := 60, pos := "told.go:27", after := #[{ on := 4, ground := Ground.data }, { on := 3, ground := Ground.guard }], guard := some (3, true) } : Oper)) (v := undef) rfl (by kernel_rfl) (by kernel_rfl) (by kernel_rfl) (fun _ _ _ h => h) (Or.inr ⟨by rfl, rfl⟩) hS ?_
        (try simp only [Act.put, List.setIfInBounds_toArray, List.set_cons_zero, List.set_cons_succ])
        refine wpAnyH_take (i := 6) (oi := ({ dst := some 30, op := Op.move (Operand.tmp 1), type := 3, pos := "told.go:27", after := #[{ on := 3, ground := Ground.guard }], guard := some (3, true) } : Oper)) (v := undef) rfl (by kernel_rfl) (by kernel_rfl) (by kernel_rfl) (fun _ _ _ h => h) (Or.inr ⟨by rfl, rfl⟩) hS ?_
        (try simp only [Act.put, List.setIfInBounds_toArray, List.set_cons_zero, List.set_cons_succ])
        refine wpAnyH_take (i := 7) (oi := ({ dst := some 31, op := Op.move (Operand.tmp 1), type := 3, pos := "told.go:27", after := #[{ on := 3, ground := Ground.guard }], guard := some (3, true) } : Oper)) (v := undef) rfl (by kernel_rfl) (by kernel_rfl) (by kernel_rfl) (fun _ _ _ h => h) (Or.inr ⟨by rfl, rfl⟩) hS ?_
        (try simp only [Act.put, List.setIfInBounds_toArray, List.set_cons_zero, List.set_cons_succ])
        refine wpAnyH_take (i := 8) (oi := ({ dst := some 32, op := Op.move (Operand.tmp 7), type := 3, pos := "told.go:27", after := #[{ on := 3, ground := Ground.guard }], guard := some (3, true) } : Oper)) (v := undef) rfl (by kernel_rfl) (by kernel_rfl) (by kernel_rfl) (fun _ _ _ h => h) (Or.inr ⟨by rfl, rfl⟩) hS ?_
        (try simp only [Act.put, List.setIfInBounds_toArray, List.set_cons_zero, List.set_cons_succ])
        refine wpAnyH_take (i := 9) (oi := ({ dst := some 33, op := Op.binOp BinOp.add 3 (Operand.tmp 31) (Operand.tmp 32) 3, type := 3, pos := "told.go:27", after := #[{ on := 7, ground := Ground.data }, { on := 8, ground := Ground.data }, { on := 3, ground := Ground.guard }], guard := some (3, true) } : Oper)) (v := undef) rfl (by kernel_rfl) (by kernel_rfl) (by kernel_rfl) (fun _ _ _ h => h) (Or.inr ⟨by rfl, rfl⟩) hS ?_
        (try simp only [Act.put, List.setIfInBounds_toArray, List.set_cons_zero, List.set_cons_succ])
        refine wpAnyH_take (i := 10) (oi := ({ dst := some 34, op := Op.call { callee := Callee.value (Operand.func 67), args := #[Operand.tmp 29, Operand.tmp 30, Operand.tmp 33], argTypes := #[60, 3, 3] }, type := 4, pos := "told.go:27", after := #[{ on := 5, ground := Ground.data }, { on := 6, ground := Ground.data }, { on := 9, ground := Ground.data }, { on := 3, ground := Ground.chain }, { on := 3, ground := Ground.guard }], guard := some (3, true) } : Oper)) (v := undef) rfl (by kernel_rfl) (by kernel_rfl) (by kernel_rfl) (fun _ _ _ h => h) (Or.inr ⟨by rfl, rfl⟩) hS ?_
        (try simp only [Act.put, List.setIfInBounds_toArray, List.set_cons_zero, List.set_cons_succ])
        refine wpAnyH_take (i := 11) (oi := ({ dst := some 35, op := Op.pick (Operand.tmp 27) (Operand.tmp 34) (Operand.const (Value.bool false)), type := 4, pos := "told.go:27", after := #[{ on := 3, ground := Ground.data }, { on := 10, ground := Ground.data }, { on := 12, ground := Ground.gcOnly Departure.lateStores }], guard := none } : Oper)) (v := ?_) rfl (by kernel_rfl) (by kernel_rfl) (by kernel_rfl) (fun _ _ _ h => h) (Or.inl ⟨by rfl, ?_⟩) hS ?_
        rotate_left
        · (intro w hSw; (try dsimp only at hSw); go_simp; try with_reducible rfl)
        (try simp only [Act.put, List.setIfInBounds_toArray, List.set_cons_zero, List.set_cons_succ])
        refine rg_one 12 ({ dst := none, op := Op.store 70 (Operand.tmp 4) (Operand.tmp 24), type := 0, pos := "told.go:27", after := #[{ on := 0, ground := Ground.data }, { on := 10, ground := Ground.chain }, { on := 0, ground := Ground.phase }, { on := 1, ground := Ground.textOnly Departure.lateStores }, { on := 2, ground := Ground.textOnly Departure.lateStores }, { on := 3, ground := Ground.textOnly Departure.lateStores }, { on := 4, ground := Ground.textOnly Departure.lateStores }, { on := 5, ground := Ground.textOnly Departure.lateStores }, { on := 6, ground := Ground.textOnly Departure.lateStores }, { on := 7, ground := Ground.textOnly Departure.lateStores }, { on := 8, ground := Ground.textOnly Departure.lateStores }, { on := 9, ground := Ground.textOnly Departure.lateStores }, { on := 10, ground := Ground.textOnly Departure.lateStoresUnsure }, { on := 11, ground := Ground.textOnly Departure.lateStores }], guard := none } : Oper) (by kernel_rfl) rfl (fun K hK => ?_)
        rw [if_pos (by rfl)]; refine wp_put_fr (.tmp 4) (.tmp 24) rfl g0 HA7.out fk fe p4 n4 c4 rfl rfl ?_; intro w8 HF8 HG8; have hN := (show Below w.heap.size w w8 ∧ FO w8 g fk fe (.slice p4 n4 c4) from ⟨below_over hS.1 HG8.out (by have := HG0.out; omega) hS.1.size, hS.2.over HG8.out HGN.out⟩)
        refine hK.out _ _ ?_ (fun hS1 => ?_)
        · (first | exact hN | exact hS)
        clear hK K hS; have hS := hS1; clear hS1
        (try simp only [Act.put])
        refine wpAnyH_take (i := 13) (oi := ({ dst := some 5, op := Op.assign (Operand.tmp 35), type := 4, pos := "told.go:27", after := #[{ on := 11, ground := Ground.data }, { on := 12, ground := Ground.chain }, { on := 0, ground := Ground.phase }, { on := 1, ground := Ground.phase }, { on := 2, ground := Ground.phase }, { on := 3, ground := Ground.phase }, { on := 4, ground := Ground.phase }, { on := 5, ground := Ground.phase }, { on := 6, ground := Ground.phase }, { on := 7, ground := Ground.phase }, { on := 8, ground := Ground.phase }, { on := 9, ground := Ground.phase }, { on := 10, ground := Ground.phase }, { on := 11, ground := Ground.phase }, { on := 12, ground := Ground.phase }], guard := none } : Oper)) (v := ?_) rfl (by kernel_rfl) (by kernel_rfl) (by kernel_rfl) (fun _ _ _ h => h) (Or.inl ⟨by rfl, ?_⟩) hS ?_
        rotate_left
        · (intro w hSw; (try dsimp only at hSw); go_simp; try with_reducible rfl)
        (try simp only [Act.put, List.setIfInBounds_toArray, List.set_cons_zero, List.set_cons_succ])
        refine wpAnyH_done (by kernel_rfl) ?_ _
        have HB8 := Lib.hid hS.1
        clear hS
        go_wp2
        refine bodyPost_ret_by (results_row_tmp rfl _ _ g0 _ rfl HF8.out.load) rfl ?_
        exact ⟨HB8.out, .inl ⟨by rw [HNO.out], _, _, _, _, _, rfl⟩⟩
  · skip
    rw [if_pos (by rfl)]; refine wp_new_fr rfl ?_; intro g w5 HG hgl hb; have hN := HS3.out _ (bch hS.2.2.2 hb.out); (try (have q := Lib.hid (own_keep HO.out hb.out); clear HO; have HO := q; clear q)); have HGL := Lib.hid (Nat.le_trans hS.2.2.2.size hgl.out); clear hgl hb
    refine hK.out _ _ ?_ (fun hS1 => ?_)
    · (first | exact hN | exact hS)
    clear hK K hS; have hS := hS1; clear hS1
    (try simp only [Act.put, List.setIfInBounds_toArray, List.set_cons_zero, List.set_cons_succ])
    refine rg_one 5 ({ dst := some 15, op := Op.call { callee := Callee.value (Operand.func 66), args := #[Operand.tmp 14], argTypes := #[3] }, type := 3, pos := "told.go:25", after := #[{ on := 4, ground := Ground.data }], guard := none } : Oper) (by kernel_rfl) rfl (fun K hK => ?_)
    go_simp
    (go_at_call 66; (with_reducible refine (HLF.out _).mono ?_); rintro r w2 ⟨rfl, hb⟩; have hN := HS3.out _ (bch hS.2.2.2 hb); (try (have q := Lib.hid (HG.out.keep hb); clear HG; have HG := q; clear q)); clear hb)
    refine hK.out _ _ ?_ (fun hS1 => ?_)
    · (first | exact hN | exact hS)
    clear hK K hS; have hS := hS1; clear hS1
    (try simp only [Act.put, List.setIfInBounds_toArray, List.set_cons_zero, List.set_cons_succ])
    refine wpAnyH_take (i := 6) (oi := ({ dst := some 16, op := Op.binOp BinOp.add 3 (Operand.tmp 13) (Operand.tmp 15) 3, type := 3, pos := "told.go:25", after := #[{ on := 3, ground := Ground.data }, { on := 5, ground := Ground.data }], guard := none } : Oper)) (v := .int .i64 (t : Int)) rfl (by kernel_rfl) (by kernel_rfl) (by kernel_rfl) (fun _ _ _ h => h) (Or.inl ⟨by rfl, ?_⟩) hS ?_
    · (intro w hSw; (try dsimp only at hSw); have z := HWT.out; go_simp; (try exact z))
    (try simp only [Act.put, List.setIfInBounds_toArray, List.set_cons_zero, List.set_cons_succ])
    refine wpAnyH_take (i := 7) (oi := ({ dst := some 17, op := Op.slice 43 (Operand.tmp 11) (some (Operand.tmp 12)) (some (Operand.tmp 16)) none, type := 43, pos := "told.go:25", after := #[{ on := 1, ground := Ground.data }, { on := 2, ground := Ground.data }, { on := 6, ground := Ground.data }], guard := none } : Oper)) (v := .slice q l qc) rfl (by kernel_rfl) (by kernel_rfl) (by kernel_rfl) (fun _ _ _ h => h) (Or.inl ⟨by rfl, ?_⟩) hS ?_
    · (intro w hSw; (try dsimp only at hSw); exact (exec_cut_lh (.tmp 11) (.tmp 12) (.tmp 16) rfl ba 832 bc a l rfl rfl (by rw [HTL.out]; rfl) (by rw [HTL.out]; exact HBC.out)).trans (by rw [HSL.out]))
    (try simp only [Act.put, List.setIfInBounds_toArray, List.set_cons_zero, List.set_cons_succ])
    refine rg_one 10 ({ dst := some 20, op := Op.call { callee := Callee.value (Operand.func 65), args := #[Operand.tmp 17, Operand.tmp 19], argTypes := #[43, 68] }, type := 94, pos := "told.go:25", after := #[{ on := 7, ground := Ground.data }, { on := 9, ground := Ground.data }, { on := 5, ground := Ground.chain }], guard := none } : Oper) (by kernel_rfl) rfl (fun K hK => ?_)
    go_simp
    (go_at_call 65; (refine (HDC.out _ (bch HBA.out hS.2.2.2)).mono ?_); rintro r w4 hd; obtain ⟨p4, n4, c4, rfl, ho, hb⟩ := HDF.out _ _ _ hd; have hN := HS3.out _ (bch hS.2.2.2 hb); (try (have q := Lib.hid (HG.out.keep hb); clear HG; have HG := q; clear q)); have HO := Lib.hid (own_mono ho (show w.heap.size ≤ _ from Nat.le_trans HBA.out.size hS.2.2.2.size)); clear hb ho hd)
    refine hK.out _ _ ?_ (fun hS1 => ?_)
    · (first | exact hN | exact hS)
    clear hK K hS; have hS := hS1; clear hS1
    (try simp only [Act.put, List.setIfInBounds_toArray, List.set_cons_zero, List.set_cons_succ])
    refine wpAnyH_take (i := 11) (oi := ({ dst := some 9, op := Op.move (Operand.tmp 20), type := 94, pos := "told.go:25", after := #[{ on := 10, ground := Ground.data }], guard := none } : Oper)) (v := ?_) rfl (by kernel_rfl) (by kernel_rfl) (by kernel_rfl) (fun _ _ _ h => h) (Or.inl ⟨by rfl, ?_⟩) hS ?_
    rotate_left
    · (intro w hSw; (try dsimp only at hSw); go_simp; try with_reducible rfl)
    (try simp only [Act.put, List.setIfInBounds_toArray, List.set_cons_zero, List.set_cons_succ])
    refine wpAnyH_take (i := 12) (oi := ({ dst := some 21, op := Op.extract (Operand.tmp 9) 0, type := 70, pos := "told.go:25", after := #[{ on := 11, ground := Ground.data }], guard := none } : Oper)) (v := ?_) rfl (by kernel_rfl) (by kernel_rfl) (by kernel_rfl) (fun _ _ _ h => h) (Or.inl ⟨by rfl, ?_⟩) hS ?_
    rotate_left
    · (intro w hSw; (try dsimp only at hSw); go_simp; try with_reducible rfl)
    (try simp only [Act.put, List.setIfInBounds_toArray, List.set_cons_zero, List.set_cons_succ])
    refine wpAnyH_take (i := 13) (oi := ({ dst := some 22, op := Op.extract (Operand.tmp 9) 1, type := 3, pos := "told.go:25", after := #[{ on := 11, ground := Ground.data }, { on := 16, ground := Ground.gcOnly Departure.lateStores }], guard := none } : Oper)) (v := ?_) rfl (by kernel_rfl) (by kernel_rfl) (by kernel_rfl) (fun _ _ _ h => h) (Or.inl ⟨by rfl, ?_⟩) hS ?_
    rotate_left
    · (intro w hSw; (try dsimp only at hSw); go_simp; try with_reducible rfl)
    (try simp only [Act.put, List.setIfInBounds_toArray, List.set_cons_zero, List.set_cons_succ])
    refine wpAnyH_take (i := 14) (oi := ({ dst := some 23, op := Op.extract (Operand.tmp 9) 2, type := 86, pos := "told.go:25", after := #[{ on := 11, ground := Ground.data }, { on := 17, ground := Ground.gcOnly Departure.lateStores }], guard := none } : Oper)) (v := ?_) rfl (by kernel_rfl) (by kernel_rfl) (by kernel_rfl) (fun _ _ _ h => h) (Or.inl ⟨by rfl, ?_⟩) hS ?_
    rotate_left
    · (intro w hSw; (try dsimp only at hSw); go_simp; try with_reducible rfl)
    (try simp only [Act.put, List.setIfInBounds_toArray, List.set_cons_zero, List.set_cons_succ])
    refine rg_one 16 ({ dst := none, op := Op.store 70 (Operand.tmp 6) (Operand.tmp 21), type := 0, pos := "told.go:25", after := #[{ on := 15, ground := Ground.data }, { on := 12, ground := Ground.data }, { on := 10, ground := Ground.chain }, { on := 0, ground := Ground.phase }, { on := 1, ground := Ground.phase }, { on := 2, ground := Ground.phase }, { on := 3, ground := Ground.phase }, { on := 4, ground := Ground.phase }, { on := 5, ground := Ground.phase }, { on := 6, ground := Ground.phase }, { on := 7, ground := Ground.phase }, { on := 8, ground := Ground.phase }, { on := 9, ground := Ground.phase }, { on := 10, ground := Ground.phase }, { on := 11, ground := Ground.phase }, { on := 12, ground := Ground.phase }, { on := 13, ground := Ground.textOnly Departure.lateStores }, { on := 14, ground := Ground.textOnly Departure.lateStores }, { on := 15, ground := Ground.phase }], guard := none } : Oper) (by kernel_rfl) rfl (fun K hK => ?_)
    rw [if_pos (by rfl)]; refine wp_put_fr (.tmp 6) (.tmp 21) rfl g HG.out fk fe p4 n4 c4 rfl rfl ?_; intro w6 HF6 HG6; have HO6 := Lib.hid (own_over HO.out HG6.out (fun q hq e => HG.out.ne_own HO.out q hq (Option.some.inj e))); have hN := HS3.out _ (below_over hS.2.2.2 HG6.out HGL.out hS.2.2.2.size); clear HG HO HG6
    refine hK.out _ _ ?_ (fun hS1 => ?_)
    · (first | exact hN | exact hS)
    clear hK K hS; have hS := hS1; clear hS1
    (try simp only [Act.put])
    refine wpAnyH_take (i := 17) (oi := ({ dst := some 7, op := Op.assign (Operand.tmp 22), type := 3, pos := "told.go:25", after := #[{ on := 13, ground := Ground.data }, { on := 16, ground := Ground.chain }, { on := 0, ground := Ground.phase }, { on := 1, ground := Ground.phase }, { on := 2, ground := Ground.phase }, { on := 3, ground := Ground.phase }, { on := 4, ground := Ground.phase }, { on := 5, ground := Ground.phase }, { on := 6, ground := Ground.phase }, { on := 7, ground := Ground.phase }, { on := 8, ground := Ground.phase }, { on := 9, ground := Ground.phase }, { on := 10, ground := Ground.phase }, { on := 11, ground := Ground.phase }, { on := 12, ground := Ground.phase }, { on := 13, ground := Ground.phase }, { on := 14, ground := Ground.textOnly Departure.lateStores }, { on := 15, ground := Ground.phase }, { on := 16, ground := Ground.phase }], guard := none } : Oper)) (v := ?_) rfl (by kernel_rfl) (by kernel_rfl) (by kernel_rfl) (fun _ _ _ h => h) (Or.inl ⟨by rfl, ?_⟩) hS ?_
    rotate_left
    · (intro w hSw; (try dsimp only at hSw); go_simp; try with_reducible rfl)
    (try simp only [Act.put, List.setIfInBounds_toArray, List.set_cons_zero, List.set_cons_succ])
    refine wpAnyH_take (i := 18) (oi := ({ dst := some 8, op := Op.assign (Operand.tmp 23), type := 86, pos := "told.go:25", after := #[{ on := 14, ground := Ground.data }, { on := 17, ground := Ground.chain }, { on := 0, ground := Ground.phase }, { on := 1, ground := Ground.phase }, { on := 2, ground := Ground.phase }, { on := 3, ground := Ground.phase }, { on := 4, ground := Ground.phase }, { on := 5, ground := Ground.phase }, { on := 6, ground := Ground.phase }, { on := 7, ground := Ground.phase }, { on := 8, ground := Ground.phase }, { on := 9, ground := Ground.phase }, { on := 10, ground := Ground.phase }, { on := 11, ground := Ground.phase }, { on := 12, ground := Ground.phase }, { on := 13, ground := Ground.phase }, { on := 14, ground := Ground.phase }, { on := 15, ground := Ground.phase }, { on := 16, ground := Ground.phase }, { on := 17, ground := Ground.phase }], guard := none } : Oper)) (v := ?_) rfl (by kernel_rfl) (by kernel_rfl) (by kernel_rfl) (fun _ _ _ h => h) (Or.inl ⟨by rfl, ?_⟩) hS ?_
    rotate_left
    · (intro w hSw; (try dsimp only at hSw); go_simp; try with_reducible rfl)
    (try simp only [Act.put, List.setIfInBounds_toArray, List.set_cons_zero, List.set_cons_succ])
    refine wpAnyH_done (by kernel_rfl) ?_ _
    have HB6 := Lib.hid hS.2.2.2
    clear hS
    (try clear hN)
    have HGN := Lib.hid (show g ≠ g0 from by have := HGL.out; have := HWA.out; omega)
    have HBW := Lib.hid (bch HBA.out HB6.out.drew)
    have HA7 := Lib.hid ((HA.out.keep HB6.out).keep (Below.refl _ w6).drew)
    have HO7 := Lib.hid (own_keep HO6.out (Below.refl _ w6).drew)
    have HST : Hid (w6.drew.cell? ⟨w.heap.size, 2, none⟩ = some kv ∧ Below w.heap.size w w6.drew ∧ FO w6.drew g fk fe (.slice p4 n4 c4)) := Lib.hid ⟨(HS3.out _ HB6.out.drew).2.2.1, HBW.out, HF6.out.keep (Below.refl _ w6).drew⟩
    rcases hx with ⟨rfl, hm1, hm2, hyes⟩ | ⟨hx0, hno⟩
    · obtain ⟨y, hy⟩ : ∃ y, covAt K (a : Int) ((a + m : Nat) : Int) = y := ⟨_, rfl⟩
      have HY := Lib.hid (hyes y hy)
      obtain ⟨u, hu⟩ : ∃ u, a + m = u := ⟨_, rfl⟩
      have huI : (a : Int) + (m : Int) = (u : Int) := by omega
      have hu8 : (u : Int) ≤ 832 := by omega
      have HWU : Hid (IntKind.i64.wrap (u : Int) = (u : Int)) := Lib.hid (wrap_id _ (by omega))
      have HH2 : Hid (∀ w', Below w.heap.size w w' → Calls Tryd.prog 67 #[kv, .int .i64 a, .int .i64 u] w' fun e w'' => e = .returned (.bool y) ∧ Below w'.heap.size w' w'') := Lib.hid fun w' h => by
        have := HCV.out w' u h (by omega)
        rw [← hu, hy] at this
        rw [← hu]
        exact this
      clear hyes hy hu
      go_wp2_with fail
      refine wp_region_held_drew (S := (fun w' => w'.cell? ⟨w.heap.size, 2, none⟩ = some kv ∧ Below w.heap.size w w' ∧ FO w' g fk fe (.slice p4 n4 c4))) (by kernel_rfl) HST.out (fun hS => ?_)
      refine wpAnyH_take (i := 0) (oi := ({ dst := some 24, op := Op.load 70 (Operand.tmp 6), type := 70, pos := "told.go:27", after := #[], guard := none } : Oper)) (v := ?_) rfl (by kernel_rfl) (by kernel_rfl) (by kernel_rfl) (fun _ _ _ h => h) (Or.inl ⟨by rfl, ?_⟩) hS ?_
      rotate_left
      · (intro w hSw; (try dsimp only at hSw); refine exec_load_fr (.tmp 6) ?_ ?_ hSw.2.2 <;> rfl)
      (try simp only [Act.put, List.setIfInBounds_toArray, List.set_cons_zero, List.set_cons_succ])
      refine wpAnyH_take (i := 1) (oi := ({ dst := some 25, op := Op.move (Operand.tmp 8), type := 86, pos := "told.go:27", after := #[], guard := none } : Oper)) (v := ?_) rfl (by kernel_rfl) (by kernel_rfl) (by kernel_rfl) (fun _ _ _ h => h) (Or.inl ⟨by rfl, ?_⟩) hS ?_
      rotate_left
      · (intro w hSw; (try dsimp only at hSw); go_simp; try with_reducible rfl)
      (try simp only [Act.put, List.setIfInBounds_toArray, List.set_cons_zero, List.set_cons_succ])
      refine wpAnyH_take (i := 2) (oi := ({ dst := some 26, op := Op.binOp BinOp.eql 86 (Operand.tmp 25) (Operand.const (Value.int IntKind.i64 0)) 86, type := 4, pos := "told.go:27", after := #[{ on := 1, ground := Ground.data }], guard := none } : Oper)) (v := ?_) rfl (by kernel_rfl) (by kernel_rfl) (by kernel_rfl) (fun _ _ _ h => h) (Or.inl ⟨by rfl, ?_⟩) hS ?_
      rotate_left
      · (intro w hSw; (try dsimp only at hSw); go_simp; try with_reducible rfl)
      (try simp only [Act.put, List.setIfInBounds_toArray, List.set_cons_zero, List.set_cons_succ])
      refine wpAnyH_take (i := 3) (oi := ({ dst := some 27, op := Op.move (Operand.tmp 26), type := 4, pos := "told.go:27", after := #[{ on := 2, ground := Ground.data }], guard := none } : Oper)) (v := ?_) rfl (by kernel_rfl) (by kernel_rfl) (by kernel_rfl) (fun _ _ _ h => h) (Or.inl ⟨by rfl, ?_⟩) hS ?_
      rotate_left
      · (intro w hSw; (try dsimp only at hSw); go_simp; try with_reducible rfl)
      (try simp only [Act.put, List.setIfInBounds_toArray, List.set_cons_zero, List.set_cons_succ])
      refine wpAnyH_take (i := 4) (oi := ({ dst := some 28, op := Op.fieldAddr 97 (Operand.tmp 2) 2, type := 0, pos := "told.go:27", after := #[{ on := 3, ground := Ground.guard }], guard := some (3, true) } : Oper)) (v := ?_) rfl (by kernel_rfl) (by kernel_rfl) (by kernel_rfl) (fun _ _ _ h => h) (Or.inl ⟨by rfl, ?_⟩) hS ?_
      rotate_left
      · (intro w hSw; (try dsimp only at hSw); go_simp; try with_reducible rfl)
      (try simp only [Act.put, List.setIfInBounds_toArray, List.set_cons_zero, List.set_cons_succ])
      refine wpAnyH_take (i := 5) (oi := ({ dst := some 29, op := Op.load 60 (Operand.tmp 28), type := 60, pos := "told.go:27", after := #[{ on := 4, ground := Ground.data }, { on := 3, ground := Ground.guard }], guard := some (3, true) } : Oper)) (v := ?_) rfl (by kernel_rfl) (by kernel_rfl) (by kernel_rfl) (fun _ _ _ h => h) (Or.inl ⟨by rfl, ?_⟩) hS ?_
      rotate_left
      · (intro w hSw; (try dsimp only at hSw); go_simp; try with_reducible rfl)
      (try simp only [Act.put, List.setIfInBounds_toArray, List.set_cons_zero, List.set_cons_succ])
      refine wpAnyH_take (i := 6) (oi := ({ dst := some 30, op := Op.move (Operand.tmp 1), type := 3, pos := "told.go:27", after := #[{ on := 3, ground := Ground.guard }], guard := some (3, true) } : Oper)) (v := ?_) rfl (by kernel_rfl) (by kernel_rfl) (by kernel_rfl) (fun _ _ _ h => h) (Or.inl ⟨by rfl, ?_⟩) hS ?_
      rotate_left
      · (intro w hSw; (try dsimp only at hSw); go_simp; try with_reducible rfl)
      (try simp only [Act.put, List.setIfInBounds_toArray, List.set_cons_zero, List.set_cons_succ])
      refine wpAnyH_take (i := 7) (oi := ({ dst := some 31, op := Op.move (Operand.tmp 1), type := 3, pos := "told.go:27", after := #[{ on := 3, ground := Ground.guard }], guard := some (3, true) } : Oper)) (v := ?_) rfl (by kernel_rfl) (by kernel_rfl) (by kernel_rfl) (fun _ _ _ h => h) (Or.inl ⟨by rfl, ?_⟩) hS ?_
      rotate_left
      · (intro w hSw; (try dsimp only at hSw); go_simp; try with_reducible rfl)
      (try simp only [Act.put, List.setIfInBounds_toArray, List.set_cons_zero, List.set_cons_succ])
      refine wpAnyH_take (i := 8) (oi := ({ dst := some 32, op := Op.move (Operand.tmp 7), type := 3, pos := "told.go:27", after := #[{ on := 3, ground := Ground.guard }], guard := some (3, true) } : Oper)) (v := ?_) rfl (by kernel_rfl) (by kernel_rfl) (by kernel_rfl) (fun _ _ _ h => h) (Or.inl ⟨by rfl, ?_⟩) hS ?_
      rotate_left
      · (intro w hSw; (try dsimp only at hSw); go_simp; try with_reducible rfl)
      (try simp only [Act.put, List.setIfInBounds_toArray, List.set_cons_zero, List.set_cons_succ])
      refine wpAnyH_take (i := 9) (oi := ({ dst := some 33, op := Op.binOp BinOp.add 3 (Operand.tmp 31) (Operand.tmp 32) 3, type := 3, pos := "told.go:27", after := #[{ on := 7, ground := Ground.data }, { on := 8, ground := Ground.data }, { on := 3, ground := Ground.guard }], guard := some (3, true) } : Oper)) (v := .int .i64 (u : Int)) rfl (by kernel_rfl) (by kernel_rfl) (by kernel_rfl) (fun _ _ _ h => h) (Or.inl ⟨by rfl, ?_⟩) hS ?_
      · (intro w hSw; (try dsimp only at hSw); have z := HWU.out; go_simp; (try exact z))
      (try simp only [Act.put, List.setIfInBounds_toArray, List.set_cons_zero, List.set_cons_succ])
      refine rg_one 10 ({ dst := some 34, op := Op.call { callee := Callee.value (Operand.func 67), args := #[Operand.tmp 29, Operand.tmp 30, Operand.tmp 33], argTypes := #[60, 3, 3] }, type := 4, pos := "told.go:27", after := #[{ on := 5, ground := Ground.data }, { on := 6, ground := Ground.data }, { on := 9, ground := Ground.data }, { on := 3, ground := Ground.chain }, { on := 3, ground := Ground.guard }], guard := some (3, true) } : Oper) (by kernel_rfl) rfl (fun K hK => ?_)
      go_simp
      (go_at_call 67; (with_reducible refine (HH2.out _ hS.2.1).mono ?_); rintro r w7 ⟨rfl, hb⟩; have hN := (show w7.cell? ⟨w.heap.size, 2, none⟩ = some kv ∧ Below w.heap.size w w7 ∧ FO w7 g fk fe (.slice p4 n4 c4) from ⟨cell_keep hb hS.1, bch hS.2.1 hb, hS.2.2.keep hb⟩); have HA8 := Lib.hid (HA7.out.keep hb); have HO8 := Lib.hid (own_keep HO7.out hb); clear hb)
      refine hK.out _ _ ?_ (fun hS1 => ?_)
      · (first | exact hN | exact hS)
      clear hK K hS; have hS := hS1; clear hS1
      (try simp only [Act.put, List.setIfInBounds_toArray, List.set_cons_zero, List.set_cons_succ])
      refine wpAnyH_take (i := 11) (oi := ({ dst := some 35, op := Op.pick (Operand.tmp 27) (Operand.tmp 34) (Operand.const (Value.bool false)), type := 4, pos := "told.go:27", after := #[{ on := 3, ground := Ground.data }, { on := 10, ground := Ground.data }, { on := 12, ground := Ground.gcOnly Departure.lateStores }], guard := none } : Oper)) (v := ?_) rfl (by kernel_rfl) (by kernel_rfl) (by kernel_rfl) (fun _ _ _ h => h) (Or.inl ⟨by rfl, ?_⟩) hS ?_
      rotate_left
      · (intro w hSw; (try dsimp only at hSw); go_simp; try with_reducible rfl)
      (try simp only [Act.put, List.setIfInBounds_toArray, List.set_cons_zero, List.set_cons_succ])
      refine rg_one 12 ({ dst := none, op := Op.store 70 (Operand.tmp 4) (Operand.tmp 24), type := 0, pos := "told.go:27", after := #[{ on := 0, ground := Ground.data }, { on := 10, ground := Ground.chain }, { on := 0, ground := Ground.phase }, { on := 1, ground := Ground.textOnly Departure.lateStores }, { on := 2, ground := Ground.textOnly Departure.lateStores }, { on := 3, ground := Ground.textOnly Departure.lateStores }, { on := 4, ground := Ground.textOnly Departure.lateStores }, { on := 5, ground := Ground.textOnly Departure.lateStores }, { on := 6, ground := Ground.textOnly Departure.lateStores }, { on := 7, ground := Ground.textOnly Departure.lateStores }, { on := 8, ground := Ground.textOnly Departure.lateStores }, { on := 9, ground := Ground.textOnly Departure.lateStores }, { on := 10, ground := Ground.textOnly Departure.lateStoresUnsure }, { on := 11, ground := Ground.textOnly Departure.lateStores }], guard := none } : Oper) (by kernel_rfl) rfl (fun K hK => ?_)
      rw [if_pos (by rfl)]; refine wp_put_fr (.tmp 4) (.tmp 24) rfl g0 HA8.out fk fe p4 n4 c4 rfl rfl ?_; intro w8 HF8 HG8; have hN := (show w8.cell? ⟨w.heap.size, 2, none⟩ = some kv ∧ Below w.heap.size w w8 ∧ FO w8 g fk fe (.slice p4 n4 c4) from ⟨HG8.out.cell hS.1 (fun e => by have := HG0.out; have := Option.some.inj e; simp at this; omega), below_over hS.2.1 HG8.out (by have := HG0.out; omega) hS.2.1.size, hS.2.2.over HG8.out HGN.out⟩); have HO9 := Lib.hid (own_over HO8.out HG8.out (fun q hq e => HA8.out.ne_own HO8.out q hq (Option.some.inj e)))
      refine hK.out _ _ ?_ (fun hS1 => ?_)
      · (first | exact hN | exact hS)
      clear hK K hS; have hS := hS1; clear hS1
      (try simp only [Act.put])
      refine wpAnyH_take (i := 13) (oi := ({ dst := some 5, op := Op.assign (Operand.tmp 35), type := 4, pos := "told.go:27", after := #[{ on := 11, ground := Ground.data }, { on := 12, ground := Ground.chain }, { on := 0, ground := Ground.phase }, { on := 1, ground := Ground.phase }, { on := 2, ground := Ground.phase }, { on := 3, ground := Ground.phase }, { on := 4, ground := Ground.phase }, { on := 5, ground := Ground.phase }, { on := 6, ground := Ground.phase }, { on := 7, ground := Ground.phase }, { on := 8, ground := Ground.phase }, { on := 9, ground := Ground.phase }, { on := 10, ground := Ground.phase }, { on := 11, ground := Ground.phase }, { on := 12, ground := Ground.phase }], guard := none } : Oper)) (v := ?_) rfl (by kernel_rfl) (by kernel_rfl) (by kernel_rfl) (fun _ _ _ h => h) (Or.inl ⟨by rfl, ?_⟩) hS ?_
      rotate_left
      · (intro w hSw; (try dsimp only at hSw); go_simp; try with_reducible rfl)
      (try simp only [Act.put, List.setIfInBounds_toArray, List.set_cons_zero, List.set_cons_succ])
      refine wpAnyH_done (by kernel_rfl) ?_ _
      have HB8 := Lib.hid hS.2.1
      clear hS
      go_wp2
      refine bodyPost_ret_by (results_row_tmp rfl _ _ g0 _ rfl HF8.out.load) rfl ?_
      have hn4 : fd.length = n4 := (il_length .u8 fd).symm.trans (HO9.out.1.trans (Nat.mul_one _))
      subst hn4
      have hyy := HY.out
      cases y with
      | true =>
        rw [if_pos rfl] at hyy
        refine ⟨HB8.out, .inr ⟨by rw [hyy]; show m ≠ 0; omega, p4, c4, by rw [hyy]; rfl, ?_⟩⟩
        rw [hyy]; exact HO9.out
      | false =>
        rw [if_neg (by decide)] at hyy
        exact ⟨HB8.out, .inl ⟨by rw [hyy], _, _, _, _, _, rfl⟩⟩
    · have hx1 : (x == 0) = false := by simpa using hx0
      have HNO := Lib.hid hno
      clear hno
      go_wp2_with fail
      refine wp_region_held_drew (S := (fun w' => Below w.heap.size w w' ∧ FO w' g fk fe (.slice p4 n4 c4))) (by kernel_rfl) ⟨HST.out.2.1, HST.out.2.2⟩ (fun hS => ?_)
      refine wpAnyH_take (i := 0) (oi := ({ dst := some 24, op := Op.load 70 (Operand.tmp 6), type := 70, pos := "told.go:27", after := #[], guard := none } : Oper)) (v := ?_) rfl (by kernel_rfl) (by kernel_rfl) (by kernel_rfl) (fun _ _ _ h => h) (Or.inl ⟨by rfl, ?_⟩) hS ?_
      rotate_left
      · (intro w hSw; (try dsimp only at hSw); refine exec_load_fr (.tmp 6) ?_ ?_ hSw.2 <;> rfl)
      (try simp only [Act.put, List.setIfInBounds_toArray, List.set_cons_zero, List.set_cons_succ])
      refine wpAnyH_take (i := 1) (oi := ({ dst := some 25, op := Op.move (Operand.tmp 8), type := 86, pos := "told.go:27", after := #[], guard := none } : Oper)) (v := ?_) rfl (by kernel_rfl) (by kernel_rfl) (by kernel_rfl) (fun _ _ _ h => h) (Or.inl ⟨by rfl, ?_⟩) hS ?_
      rotate_left
      · (intro w hSw; (try dsimp only at hSw); go_simp; try with_reducible rfl)
      (try simp only [Act.put, List.setIfInBounds_toArray, List.set_cons_zero, List.set_cons_succ])
      refine wpAnyH_take (i := 2) (oi := ({ dst := some 26, op := Op.binOp BinOp.eql 86 (Operand.tmp 25) (Operand.const (Value.int IntKind.i64 0)) 86, type := 4, pos := "told.go:27", after := #[{ on := 1, ground := Ground.data }], guard := none } : Oper)) (v := ?_) rfl (by kernel_rfl) (by kernel_rfl) (by kernel_rfl) (fun _ _ _ h => h) (Or.inl ⟨by rfl, ?_⟩) hS ?_
      rotate_left
      · (intro w hSw; (try dsimp only at hSw); go_simp; try with_reducible rfl)
      (try simp only [Act.put, List.setIfInBounds_toArray, List.set_cons_zero, List.set_cons_succ])
      refine wpAnyH_take (i := 3) (oi := ({ dst := some 27, op := Op.move (Operand.tmp 26), type := 4, pos := "told.go:27", after := #[{ on := 2, ground := Ground.data }], guard := none } : Oper)) (v := ?_) rfl (by kernel_rfl) (by kernel_rfl) (by kernel_rfl) (fun _ _ _ h => h) (Or.inl ⟨by rfl, ?_⟩) hS ?_
      rotate_left
      · (intro w hSw; (try dsimp only at hSw); go_simp; try with_reducible rfl)
      (try simp only [Act.put, List.setIfInBounds_toArray, List.set_cons_zero, List.set_cons_succ])
      refine wpAnyH_take (i := 4) (oi := ({ dst := some 28, op := Op.fieldAddr 97 (Operand.tmp 2) 2, type := 0, pos := "told.go:27", after := #[{ on := 3, ground := Ground.guard }], guard := some (3, true) } : Oper)) (v := undef) rfl (by kernel_rfl) (by kernel_rfl) (by kernel_rfl) (fun _ _ _ h => h) (Or.inr ⟨by rfl, rfl⟩) hS ?_
      (try simp only [Act.put, List.setIfInBounds_toArray, List.set_cons_zero, List.set_cons_succ])
      refine wpAnyH_take (i := 5) (oi := ({ dst := some 29, op := Op.load 60 (Operand.tmp 28), type := 60, pos := "told.go:27", after := #[{ on := 4, ground := Ground.data }, { on := 3, ground := Ground.guard }], guard := some (3, true) } : Oper)) (v := undef) rfl (by kernel_rfl) (by kernel_rfl) (by kernel_rfl) (fun _ _ _ h => h) (Or.inr ⟨by rfl, rfl⟩) hS ?_
      (try simp only [Act.put, List.setIfInBounds_toArray, List.set_cons_zero, List.set_cons_succ])
      refine wpAnyH_take (i := 6) (oi := ({ dst := some 30, op := Op.move (Operand.tmp 1), type := 3, pos := "told.go:27", after := #[{ on := 3, ground := Ground.guard }], guard := some (3, true) } : Oper)) (v := undef) rfl (by kernel_rfl) (by kernel_rfl) (by kernel_rfl) (fun _ _ _ h => h) (Or.inr ⟨by rfl, rfl⟩) hS ?_
      (try simp only [Act.put, List.setIfInBounds_toArray, List.set_cons_zero, List.set_cons_succ])
      refine wpAnyH_take (i := 7) (oi := ({ dst := some 31, op := Op.move (Operand.tmp 1), type := 3, pos := "told.go:27", after := #[{ on := 3, ground := Ground.guard }], guard := some (3, true) } : Oper)) (v := undef) rfl (by kernel_rfl) (by kernel_rfl) (by kernel_rfl) (fun _ _ _ h => h) (Or.inr ⟨by rfl, rfl⟩) hS ?_
      (try simp only [Act.put, List.setIfInBounds_toArray, List.set_cons_zero, List.set_cons_succ])
      refine wpAnyH_take (i := 8) (oi := ({ dst := some 32, op := Op.move (Operand.tmp 7), type := 3, pos := "told.go:27", after := #[{ on := 3, ground := Ground.guard }], guard := some (3, true) } : Oper)) (v := undef) rfl (by kernel_rfl) (by kernel_rfl) (by kernel_rfl) (fun _ _ _ h => h) (Or.inr ⟨by rfl, rfl⟩) hS ?_
      (try simp only [Act.put, List.setIfInBounds_toArray, List.set_cons_zero, List.set_cons_succ])
      refine wpAnyH_take (i := 9) (oi := ({ dst := some 33, op := Op.binOp BinOp.add 3 (Operand.tmp 31) (Operand.tmp 32) 3, type := 3, pos := "told.go:27", after := #[{ on := 7, ground := Ground.data }, { on := 8, ground := Ground.data }, { on := 3, ground := Ground.guard }], guard := some (3, true) } : Oper)) (v := undef) rfl (by kernel_rfl) (by kernel_rfl) (by kernel_rfl) (fun _ _ _ h => h) (Or.inr ⟨by rfl, rfl⟩) hS ?_
      (try simp only [Act.put, List.setIfInBounds_toArray, List.set_cons_zero, List.set_cons_succ])
      refine wpAnyH_take (i := 10) (oi := ({ dst := some 34, op := Op.call { callee := Callee.value (Operand.func 67), args := #[Operand.tmp 29, Operand.tmp 30, Operand.tmp 33], argTypes := #[60, 3, 3] }, type := 4, pos := "told.go:27", after := #[{ on := 5, ground := Ground.data }, { on := 6, ground := Ground.data }, { on := 9, ground := Ground.data }, { on := 3, ground := Ground.chain }, { on := 3, ground := Ground.guard }], guard := some (3, true) } : Oper)) (v := undef) rfl (by kernel_rfl) (by kernel_rfl) (by kernel_rfl) (fun _ _ _ h => h) (Or.inr ⟨by rfl, rfl⟩) hS ?_
      (try simp only [Act.put, List.setIfInBounds_toArray, List.set_cons_zero, List.set_cons_succ])
      refine wpAnyH_take (i := 11) (oi := ({ dst := some 35, op := Op.pick (Operand.tmp 27) (Operand.tmp 34) (Operand.const (Value.bool false)), type := 4, pos := "told.go:27", after := #[{ on := 3, ground := Ground.data }, { on := 10, ground := Ground.data }, { on := 12, ground := Ground.gcOnly Departure.lateStores }], guard := none } : Oper)) (v := ?_) rfl (by kernel_rfl) (by kernel_rfl) (by kernel_rfl) (fun _ _ _ h => h) (Or.inl ⟨by rfl, ?_⟩) hS ?_
      rotate_left
      · (intro w hSw; (try dsimp only at hSw); go_simp; try with_reducible rfl)
      (try simp only [Act.put, List.setIfInBounds_toArray, List.set_cons_zero, List.set_cons_succ])
      refine rg_one 12 ({ dst := none, op := Op.store 70 (Operand.tmp 4) (Operand.tmp 24), type := 0, pos := "told.go:27", after := #[{ on := 0, ground := Ground.data }, { on := 10, ground := Ground.chain }, { on := 0, ground := Ground.phase }, { on := 1, ground := Ground.textOnly Departure.lateStores }, { on := 2, ground := Ground.textOnly Departure.lateStores }, { on := 3, ground := Ground.textOnly Departure.lateStores }, { on := 4, ground := Ground.textOnly Departure.lateStores }, { on := 5, ground := Ground.textOnly Departure.lateStores }, { on := 6, ground := Ground.textOnly Departure.lateStores }, { on := 7, ground := Ground.textOnly Departure.lateStores }, { on := 8, ground := Ground.textOnly Departure.lateStores }, { on := 9, ground := Ground.textOnly Departure.lateStores }, { on := 10, ground := Ground.textOnly Departure.lateStoresUnsure }, { on := 11, ground := Ground.textOnly Departure.lateStores }], guard := none } : Oper) (by kernel_rfl) rfl (fun K hK => ?_)
      rw [if_pos (by rfl)]; refine wp_put_fr (.tmp 4) (.tmp 24) rfl g0 HA7.out fk fe p4 n4 c4 rfl rfl ?_; intro w8 HF8 HG8; have hN := (show Below w.heap.size w w8 ∧ FO w8 g fk fe (.slice p4 n4 c4) from ⟨below_over hS.1 HG8.out (by have := HG0.out; omega) hS.1.size, hS.2.over HG8.out HGN.out⟩)
      refine hK.out _ _ ?_ (fun hS1 => ?_)
      · (first | exact hN | exact hS)
      clear hK K hS; have hS := hS1; clear hS1
      (try simp only [Act.put])
      refine wpAnyH_take (i := 13) (oi := ({ dst := some 5, op := Op.assign (Operand.tmp 35), type := 4, pos := "told.go:27", after := #[{ on := 11, ground := Ground.data }, { on := 12, ground := Ground.chain }, { on := 0, ground := Ground.phase }, { on := 1, ground := Ground.phase }, { on := 2, ground := Ground.phase }, { on := 3, ground := Ground.phase }, { on := 4, ground := Ground.phase }, { on := 5, ground := Ground.phase }, { on := 6, ground := Ground.phase }, { on := 7, ground := Ground.phase }, { on := 8, ground := Ground.phase }, { on := 9, ground := Ground.phase }, { on := 10, ground := Ground.phase }, { on := 11, ground := Ground.phase }, { on := 12, ground := Ground.phase }], guard := none } : Oper)) (v := ?_) rfl (by kernel_rfl) (by kernel_rfl) (by kernel_rfl) (fun _ _ _ h => h) (Or.inl ⟨by rfl, ?_⟩) hS ?_
      rotate_left
      · (intro w hSw; (try dsimp only at hSw); go_simp; try with_reducible rfl)
      (try simp only [Act.put, List.setIfInBounds_toArray, List.set_cons_zero, List.set_cons_succ])
      refine wpAnyH_done (by kernel_rfl) ?_ _
      have HB8 := Lib.hid hS.1
      clear hS
      go_wp2
      refine bodyPost_ret_by (results_row_tmp rfl _ _ g0 _ rfl HF8.out.load) rfl ?_
      exact ⟨HB8.out, .inl ⟨by rw [HNO.out], _, _, _, _, _, rfl⟩⟩
end Go.Proofs.YtepaghohojomeaaDoor
/-
  WHAT bytes.Equal ANSWERS. Bytes must lie where the slices say.
-/
namespace Go.Proofs.YtepaghohojomeaaDoor
open Go.RowKit
theorem bequal_any (v v' : Value) (n n' : Nat) (d d' : List Int) (w : World) (h1 : RI .u8 w v n d) (h2 : RI .u8 w v' n' d') (hb1 : isB d) (hb2 : isB d') :
    Calls Tryd.prog 68 #[v, v'] w fun e w' => e = .returned (.bool (decide (d = d'))) ∧ w = w' := by
  have q1 := conv_ri h1
  have q2 := conv_ri h2
  by_cases hd : d = d'
  · subst hd
    rw [show decide (d = d) = true from by simp]
    clear h1 h2 hb1 hb2
    go_enter Tryd.func68, Tryd.ntmps68
    go_wp2
    go_ret
    exact ⟨rfl, rfl⟩
  · rw [show decide (d = d') = false from by simp [hd]]
    have hs2 := str_ne (fun e => hd (strOfNums_inj hb1 hb2 e))
    clear h1 h2 hb1 hb2
    go_enter Tryd.func68, Tryd.ntmps68
    go_wp2
    go_ret
    exact ⟨rfl, rfl⟩
end Go.Proofs.YtepaghohojomeaaDoor
/-
  WHAT THE PROGRAM'S OWN FUNCTION Same OF LAYER 13 (frag) ANSWERS. No condition of ours.
-/
namespace Go.Proofs.YtepaghohojomeaaDoor
open Go.RowKit
set_option maxRecDepth 8000 in
set_option maxHeartbeats 2000000 in
theorem fsame_any (k e : Int) (v : Value) (n : Nat) (d : List Int) (k' e' : Int) (v' : Value) (n' : Nat) (d' : List Int) (w : World) (h1 : RI .u8 w v n d) (h2 : RI .u8 w v' n' d') (hb1 : isB d) (hb2 : isB d') :
    Calls Tryd.prog 42 #[.agg (fA k e v), .agg (fA k' e' v')] w fun r w' => r = .returned (.bool (decide ((⟨k, e, d⟩ : FR) = ⟨k', e', d'⟩))) ∧ Below w.heap.size w w' := by
  rw [fr_same]
  by_cases hk : k = k'
  · subst hk
    by_cases hc : e = e'
    · subst hc
      obtain ⟨y, hy⟩ : ∃ y, decide (d = d') = y := ⟨_, rfl⟩
      rw [show (decide (k = k) && (decide (e = e) && decide (d = d'))) = y from by simp [← hy]]
      have HE : Hid (∀ w, RI .u8 w v n d → RI .u8 w v' n' d' → Calls Tryd.prog 68 #[v, v'] w fun e w' => e = .returned (.bool y) ∧ w = w') := Lib.hid fun w a b => by rw [← hy]; exact bequal_any v v' n n' d d' w a b hb1 hb2
      have H1 := Lib.hid (h1.keep (fbelow2 w (.cells (fA k e v) 70) (.cells (fA k e v') 70)))
      have H2 := Lib.hid (h2.keep (fbelow2 w (.cells (fA k e v) 70) (.cells (fA k e v') 70)))
      clear h1 h2 hb1 hb2 hy
      go_enter Tryd.func42, Tryd.ntmps42
      go_wp2_with (first
        | (go_at_call 68; (with_reducible refine (HE.out _ H1.out H2.out).mono ?_); rintro e w' ⟨rfl, rfl⟩))
      go_ret
      exact ⟨rfl, fbelow2 _ _ _⟩
    · rw [show (decide (k = k) && (decide (e = e') && decide (d = d'))) = false from by simp [hc]]
      have hq : (e == e') = false := by simpa using hc
      clear h1 h2 hb1 hb2
      go_enter Tryd.func42, Tryd.ntmps42
      go_wp2
      go_ret
      exact ⟨rfl, fbelow2 _ _ _⟩
  · rw [show (decide (k = k') && (decide (e = e') && decide (d = d'))) = false from by simp [hk]]
    have hq : (k == k') = false := by simpa using hk
    clear h1 h2 hb1 hb2
    go_enter Tryd.func42, Tryd.ntmps42
    go_wp2
    go_ret
    exact ⟨rfl, fbelow2 _ _ _⟩
end Go.Proofs.YtepaghohojomeaaDoor
/-
  LAYER 20 (tear), the program's own: the closure that gathers clashes. GO: where its variables lie, and the list under way; Stay: what a call of it leaves alone. The table of half a byte's steps must lie in its block as start-up lays it.
-/
namespace Go.Proofs.YtepaghohojomeaaDoor
open Go.RowKit
/-- all blocks stay but two, and what is new -/
structure Stay (p q : Option Nat) (w w' : World) : Prop where
  os : w'.os = w.os
  tape : w'.tape = w.tape
  output : w'.output = w.output
  size : w.heap.size ≤ w'.heap.size
  block : ∀ k, k < w.heap.size → some k ≠ p → some k ≠ q → w'.heap[k]? = w.heap[k]?
theorem Stay.of_below {p q : Option Nat} {w w' : World} (h : Below w.heap.size w w') : Stay p q w w' := ⟨h.os, h.tape, h.output, h.size, fun k hk _ _ => h.block k hk⟩
theorem set_grown (w : World) (g : Nat) (x : Value) : w.grownBy (w.setCell ⟨g, 0, none⟩ x) (some g) := ⟨rfl, rfl, rfl, by simp, fun i _ hne => heap_setCell_other w ⟨g, 0, none⟩ i x (fun e => hne (by rw [e]))⟩
theorem stay_of {w w6 w7 : World} {q : Option Nat} (hb : Below w.heap.size w w6) (hg : w6.grownBy w7 q) (b : Nat) (x : Value) : Stay (some b) q w (w7.setCell ⟨b, 0, none⟩ x) := by
  have hs := set_grown w7 b x
  refine ⟨(hs.os.trans hg.os).trans hb.os, (hs.tape.trans hg.tape).trans hb.tape, (hs.output.trans hg.output).trans hb.output, Nat.le_trans hb.size (Nat.le_trans hg.size hs.size), fun k hk h1 h2 => ?_⟩
  have k6 : k < w6.heap.size := Nat.lt_of_lt_of_le hk hb.size
  rw [hs.block k (Nat.lt_of_lt_of_le k6 hg.size) h1, hg.block k k6 h2, hb.block k hk]
theorem own_stay {w w' : World} {base : Nat} {e : TypeId} {size : Nat} {v : Value} {n : Nat} {xs : List Value} {p q : Option Nat} (h : w.ownsRow base e size v n xs) (hs : Stay p q w w') (h1 : ∀ g, v.ownBlock = some g → some g ≠ p ∧ some g ≠ q) : w'.ownsRow base e size v n xs := by
  refine ⟨h.1, ?_⟩
  rcases h.2 with h2 | ⟨g, cap, cur, hv, hb, hcur, h3⟩
  · exact .inl h2
  · refine .inr ⟨g, cap, cur, hv, hb, ?_, h3⟩
    have h1 := h1 g (by rw [hv]; rfl)
    rw [hs.block g (Array.getElem?_eq_some_iff.1 hcur).1 h1.1 h1.2]; exact hcur
/-- where the variables lie: W0 is the world of the call, W the one behind the sectors -/
structure GO (W0 W w : World) (bc : Nat) (v : Value) (n : Nat) (xs : List Int) : Prop where
  base : W0.heap.size ≤ bc
  lt : bc < W.heap.size
  below : Below W0.heap.size W0 w
  size : W.heap.size ≤ w.heap.size
  kept : ∀ k, k < W.heap.size → k ≠ bc → w.heap[k]? = W.heap[k]?
  kc : w.heap[bc]? = some (.cells #[v] 32 (0, 0))
  own : w.ownsRow W.heap.size 3 1 v n (il .i64 xs)
section
variable {W0 W w w' : World} {bc : Nat} {v : Value} {n : Nat} {xs : List Int}
theorem GO.keep (h : GO W0 W w bc v n xs) (hb : Below w.heap.size w w') : GO W0 W w' bc v n xs :=
  have hl : bc < w.heap.size := (Array.getElem?_eq_some_iff.1 h.kc).1
  ⟨h.base, h.lt, bch h.below hb, Nat.le_trans h.size hb.size, fun k hk hne => (hb.block k (Nat.lt_of_lt_of_le hk h.size)).trans (h.kept k hk hne), (hb.block bc hl).trans h.kc, own_keep h.own hb⟩
theorem GO.cell1 (h : GO W0 W w bc v n xs) : w.cell? ⟨bc, 0, none⟩ = some v := cell_of_row w bc 0 _ _ _ h.kc
theorem GO.frozen (h : GO W0 W w bc v n xs) : w.frozen? ⟨bc, 0, none⟩ = false := Joins.unfrozen_of_block h.kc 0
theorem GO.apart (h : GO W0 W w bc v n xs) : some bc ≠ v.ownBlock := fun e => by have := (h.own.lt bc e.symm).1; have := h.lt; omega
/-- .. where the list has grown: the variable's cell -/
theorem GO.mid (h : GO W0 W w bc v n xs) (hg : w.grownBy w' v.ownBlock) : w'.heap[bc]? = some (.cells #[v] 32 (0, 0)) :=
  (hg.block bc (Array.getElem?_eq_some_iff.1 h.kc).1 h.apart).trans h.kc
theorem GO.turn (h : GO W0 W w bc v n xs) {v' : Value} {n' : Nat} {xs' : List Int} (hg : w.grownBy w' v.ownBlock) (ho : w'.ownsRow W.heap.size 3 1 v' n' (il .i64 xs')) : GO W0 W (w'.setCell ⟨bc, 0, none⟩ v') bc v' n' xs' := by
  have hl := h.lt
  have hs := h.size
  have hbs := h.base
  have hb : Below W0.heap.size W0 w' := h.below.grown hg h.below.size (fun q hq => by have := (h.own.lt q hq).1; omega)
  refine ⟨h.base, h.lt, bset hb h.base (Nat.le_refl _) 0 _, Nat.le_trans hs (Nat.le_trans hg.size (set_grown w' bc v').size), fun k hk hne => ?_, Joins.block_setCell (h.mid hg) _, own_over ho (set_grown w' bc v') (fun q hq e => by have := (ho.lt q hq).1; have := Option.some.inj e; omega)⟩
  have hg2 := set_grown w' bc v'
  rw [hg2.block k (by have := hg.size; omega) (fun e => hne (Option.some.inj e)), hg.block k (by omega) (fun e => by have := (h.own.lt k e.symm).1; omega), h.kept k hk hne]
theorem GO.cell (h : GO W0 W w bc v n xs) {p : Addr} {x : Value} (hc : W.cell? p = some x) (hne : p.block ≠ bc) : w.cell? p = some x := by
  have hlt : p.block < W.heap.size := by
    refine Decidable.byContradiction fun hn => ?_
    unfold World.cell? at hc
    rw [Array.getElem?_eq_none (by omega)] at hc
    simp at hc
  unfold World.cell? at hc ⊢
  rw [h.kept _ hlt hne]; exact hc
theorem RI.go (h : GO W0 W w bc v n xs) {k : IntKind} {g o : Nat} {m c : Nat} {zs : List Int} (hr : RI k W (.slice (some ⟨g, o, none⟩) m c) m zs) (hne : g ≠ bc) : RI k w (.slice (some ⟨g, o, none⟩) m c) m zs := by
  obtain ⟨a, cap, e, h1, h2, h3, h4, hc⟩ := hr
  refine ⟨a, cap, e, h1, h2, h3, h4, fun h0 => ?_⟩
  obtain ⟨b', off, e2, hcell⟩ := hc h0
  refine ⟨b', off, e2, fun j hj => h.cell (hcell j hj) ?_⟩
  rw [e2] at e
  simp only [Value.slice.injEq, Option.some.injEq, Addr.mk.injEq] at e
  show b' ≠ bc
  omega
theorem BS.go (h : GO W0 W w bc v n xs) {g o : Nat} {m c : Nat} {zs : List Bool} (hr : BS W (.slice (some ⟨g, o, none⟩) m c) m zs) (hne : g ≠ bc) : BS w (.slice (some ⟨g, o, none⟩) m c) m zs := by
  obtain ⟨a, cap, e, h1, h2, h3, h4, hc⟩ := hr
  refine ⟨a, cap, e, h1, h2, h3, h4, fun h0 => ?_⟩
  obtain ⟨b', off, e2, hcell⟩ := hc h0
  refine ⟨b', off, e2, fun j hj => ?_⟩
  rw [e2] at e
  simp only [Value.slice.injEq, Option.some.injEq, Addr.mk.injEq] at e
  obtain ⟨x, hx⟩ : ∃ x, (zs.map Value.bool)[j]? = some x := ⟨_, List.getElem?_eq_getElem (by omega)⟩
  have := hcell j hj
  rw [hx] at this ⊢
  exact h.cell this (show b' ≠ bc by omega)
end
theorem fl_info : (Tryd.prog.info? 97).map (·.size) = some 3 := by kernel_rfl
set_option maxRecDepth 8000 in
set_option maxHeartbeats 4000000 in
theorem gath_any {W0 W w : World} {bc bs g1 g2 : Nat} {ep : Int} {B : List Int} {K : List Bool} {v : Value} {n : Nat} {xs : List Int} (hB : B.length = 832) (hBb : isB B) (hT : Tab W0)
    (hbs : W.heap[bs]? = some (.cells (flA ep (.slice (some ⟨g1, 0, none⟩) 832 832) (.slice (some ⟨g2, 0, none⟩) 16 16)) 97 (0, 0))) (hne : bs ≠ bc)
    (hbv : RI .u8 W (.slice (some ⟨g1, 0, none⟩) 832 832) 832 B) (h1 : g1 ≠ bc) (hkv : BS W (.slice (some ⟨g2, 0, none⟩) 16 16) 16 K) (h2 : g2 ≠ bc) (hG : GO W0 W w bc v n xs) (hn : n ≤ 100000000)
    (a : Nat) (ha : a + 11 ≤ 832) (fk fe : Int) (fd : List Int) (hfb : isB fd) (fp : Option Addr) (fn fc : Nat) (hd : RI .u8 w (.slice fp fn fc) fn fd) :
    Calls Tryd.prog 40 #[.int .i64 a, .agg (fA fk fe (.slice fp fn fc)), .pointer (some ⟨bs, 0, none⟩), .pointer (some ⟨bc, 0, none⟩)] w fun r w' => r = .returned (.tuple #[]) ∧ ∃ v' n',
      GO W0 W w' bc v' n' (if (decide ((scF ep B K a).2 ≠ 0) && !decide ((scF ep B K a).1 = ⟨fk, fe, fd⟩)) = true then xs ++ [(a : Int)] else xs) ∧ n' ≤ n + 1 ∧ Stay (some bc) v.ownBlock w w' ∧ (v'.ownBlock = v.ownBlock ∨ ∃ g, v'.ownBlock = some g ∧ w.heap.size ≤ g) := by
  obtain ⟨w1, hw1⟩ : ∃ q, w.alloc (.cells (fA fk fe (.slice fp fn fc)) 70) = q := ⟨_, rfl⟩
  have hb1 : Below w.heap.size w w1 := by rw [← hw1]; exact balloc w _
  have HB1 := Lib.hid hb1
  have HM1 : Hid (FO w1 w.heap.size fk fe (.slice fp fn fc)) := Lib.hid (by rw [← hw1]; exact FO.alloc w)
  have hG1 := hG.keep hb1
  have HG1 := Lib.hid hG1
  have HD1 := Lib.hid (hd.keep hb1)
  have HFB := Lib.hid hfb
  have HNN := Lib.hid hn
  have hbsw : w1.heap[bs]? = some (.cells (flA ep (.slice (some ⟨g1, 0, none⟩) 832 832) (.slice (some ⟨g2, 0, none⟩) 16 16)) 97 (0, 0)) := (hG1.kept bs (Array.getElem?_eq_some_iff.1 hbs).1 hne).trans hbs
  have HS1 := Lib.hid hbsw
  have hto := told_any ep (.slice (some ⟨g1, 0, none⟩) 832 832) (.slice (some ⟨g2, 0, none⟩) 16 16) hB hBb w1 (hT.keep hG1.below) (RI.go hG1 hbv h1) (BS.go hG1 hkv h2) a ha
  have HFI : Hid (isB (scF ep B K a).1.data) := Lib.hid (by
    by_cases h0 : (scF ep B K a).2 = 0
    · rw [scF_none h0 hB (by omega)]; exact isB.nil
    · obtain ⟨_, _, _, _, h5⟩ := scF_some h0
      rw [h5]; exact scD_isB hBb)
  obtain ⟨va, vc, rfl⟩ := own_form hG.own
  by_cases h0 : (scF ep B K a).2 = 0
  · have HTO : Hid (Calls Tryd.prog 41 #[.agg (flA ep (.slice (some ⟨g1, 0, none⟩) 832 832) (.slice (some ⟨g2, 0, none⟩) 16 16)), .int .i64 a] w1 fun r w' => Below w1.heap.size w1 w' ∧ ∃ k e x n c, r = .returned (.tuple #[.agg (fA k e (.slice x n c)), .bool false])) := Lib.hid (hto.mono fun r w' ⟨q1, q2⟩ => by
      rcases q2 with ⟨_, q⟩ | ⟨q, _⟩
      · exact ⟨q1, q⟩
      · exact absurd h0 q)
    have HY : Hid ((decide ((scF ep B K a).2 ≠ 0) && !decide ((scF ep B K a).1 = ⟨fk, fe, fd⟩)) = false) := Lib.hid (by rw [h0]; rfl)
    rw [HY.out, if_neg (by decide)]
    clear hto h0 hB hBb hT hbs hbv hkv hG hd hfb hb1 hG1 hbsw hn HFI
    go_enter Tryd.func40, Tryd.ntmps40
    go_wp2_with (first
      | (rw [hw1])
      | (refine wpList_load_row rfl 97 (.tmp 2) rfl bs rfl _ (flA ep (.slice (some ⟨g1, 0, none⟩) 832 832) (.slice (some ⟨g2, 0, none⟩) 16 16)) (0, 0) _ HS1.out Tryd.underlying97 rfl fl_info ?_)
      | (go_at_call 41; (refine HTO.out.mono ?_); rintro r w2 ⟨hb, k2, e2, x2, n2, c2, rfl⟩; have HB2 := Lib.hid (bch HB1.out hb); have HG2 := Lib.hid (HG1.out.keep hb); clear hb)
      | (refine wpl_put_fr rfl (.tmp 6) (.tmp 12) rfl w2.heap.size (FO.alloc w2) k2 e2 x2 n2 c2 rfl rfl ?_; intro w3 HF3 HG3; have hb3 : Below w2.heap.size w2 w3 := below_over (balloc w2 _) HG3.out (Nat.le_refl _) (balloc w2 _).size; have HB3 := Lib.hid (bch HB2.out hb3); have HO3 := Lib.hid (HG2.out.keep hb3); clear hb3))
    go_end0
    exact ⟨rfl, _, _, HO3.out, by omega, Stay.of_below HB3.out, .inl rfl⟩
  · have HTO : Hid (Calls Tryd.prog 41 #[.agg (flA ep (.slice (some ⟨g1, 0, none⟩) 832 832) (.slice (some ⟨g2, 0, none⟩) 16 16)), .int .i64 a] w1 fun r w' => Below w1.heap.size w1 w' ∧ ∃ x n c, r = .returned (.tuple #[.agg (fA (scF ep B K a).1.kind (scF ep B K a).1.epoch (.slice x n c)), .bool true]) ∧ RI .u8 w' (.slice x n c) n (scF ep B K a).1.data) := Lib.hid (hto.mono fun r w' ⟨q1, q2⟩ => by
      rcases q2 with ⟨q, _⟩ | ⟨_, x, c, q2, q3⟩
      · exact absurd q h0
      · exact ⟨q1, x, _, c, q2, RI.own q3⟩)
    rw [decide_eq_true (show (scF ep B K a).2 ≠ 0 from h0), Bool.true_and]
    generalize (scF ep B K a).1 = fr at *
    obtain ⟨k2, e2, d2⟩ := fr
    dsimp only at HTO HFI
    obtain ⟨y, hy⟩ : ∃ y, decide ((⟨k2, e2, d2⟩ : FR) = ⟨fk, fe, fd⟩) = y := ⟨_, rfl⟩
    have HSM : Hid (∀ (w : World) (x : Option Addr) (n c : Nat), RI .u8 w (.slice x n c) n d2 → RI .u8 w (.slice fp fn fc) fn fd → Calls Tryd.prog 42 #[.agg (fA k2 e2 (.slice x n c)), .agg (fA fk fe (.slice fp fn fc))] w fun r w' => r = .returned (.bool y) ∧ Below w.heap.size w w') := Lib.hid fun w x n c q1 q2 => by
      rw [← hy]; exact fsame_any k2 e2 _ n d2 fk fe _ fn fd w q1 q2 HFI.out HFB.out
    rw [hy]
    clear hto h0 hB hBb hT hbs hbv hkv hG hd hfb hb1 hG1 hbsw hn hy
    cases y with
    | true =>
      rw [if_neg (by decide)]
      go_enter Tryd.func40, Tryd.ntmps40
      go_wp2_with (first
        | (rw [hw1])
        | (refine wpList_load_row rfl 97 (.tmp 2) rfl bs rfl _ (flA ep (.slice (some ⟨g1, 0, none⟩) 832 832) (.slice (some ⟨g2, 0, none⟩) 16 16)) (0, 0) _ HS1.out Tryd.underlying97 rfl fl_info ?_)
        | (go_at_call 41; (refine HTO.out.mono ?_); rintro r w2 ⟨hb, x2, n2, c2, rfl, hr⟩; have HB2 := Lib.hid (bch HB1.out hb); have HG2 := Lib.hid (HG1.out.keep hb); have HD2 := Lib.hid (HD1.out.keep hb); have HM2 := Lib.hid (HM1.out.keep hb); have HR2 := Lib.hid hr; clear hb hr)
        | (refine wpl_put_fr rfl (.tmp 6) (.tmp 12) rfl w2.heap.size (FO.alloc w2) k2 e2 x2 n2 c2 rfl rfl ?_; intro w3 HF3 HG3; have hb3 : Below w2.heap.size w2 w3 := below_over (balloc w2 _) HG3.out (Nat.le_refl _) (balloc w2 _).size; have HB3 := Lib.hid (bch HB2.out hb3); have HO3 := Lib.hid (HG2.out.keep hb3); have HD3 := Lib.hid (HD2.out.keep hb3); have HM3 := Lib.hid (HM2.out.keep hb3); have HR3 := Lib.hid (HR2.out.keep hb3); clear hb3)
        | (refine wpl_load_fr (by rfl) (.tmp 6) rfl rfl HF3.out ?_)
        | (refine wpl_load_fr (by rfl) (.tmp 5) rfl rfl HM3.out ?_)
        | (go_at_call 42; (refine (HSM.out _ _ _ _ HR3.out HD3.out).mono ?_); rintro r w4 ⟨rfl, hb⟩; have HB4 := Lib.hid (bch HB3.out hb); have HO4 := Lib.hid (HO3.out.keep hb); clear hb))
      go_end0
      exact ⟨rfl, _, _, HO4.out, by omega, Stay.of_below HB4.out, .inl rfl⟩
    | false =>
      rw [if_pos (by decide)]
      go_enter Tryd.func40, Tryd.ntmps40
      go_wp2_with (first
        | (rw [hw1])
        | (refine wpList_load_row rfl 97 (.tmp 2) rfl bs rfl _ (flA ep (.slice (some ⟨g1, 0, none⟩) 832 832) (.slice (some ⟨g2, 0, none⟩) 16 16)) (0, 0) _ HS1.out Tryd.underlying97 rfl fl_info ?_)
        | (go_at_call 41; (refine HTO.out.mono ?_); rintro r w2 ⟨hb, x2, n2, c2, rfl, hr⟩; have HB2 := Lib.hid (bch HB1.out hb); have HG2 := Lib.hid (HG1.out.keep hb); have HD2 := Lib.hid (HD1.out.keep hb); have HM2 := Lib.hid (HM1.out.keep hb); have HR2 := Lib.hid hr; clear hb hr)
        | (refine wpl_put_fr rfl (.tmp 6) (.tmp 12) rfl w2.heap.size (FO.alloc w2) k2 e2 x2 n2 c2 rfl rfl ?_; intro w3 HF3 HG3; have hb3 : Below w2.heap.size w2 w3 := below_over (balloc w2 _) HG3.out (Nat.le_refl _) (balloc w2 _).size; have HB3 := Lib.hid (bch HB2.out hb3); have HO3 := Lib.hid (HG2.out.keep hb3); have HD3 := Lib.hid (HD2.out.keep hb3); have HM3 := Lib.hid (HM2.out.keep hb3); have HR3 := Lib.hid (HR2.out.keep hb3); clear hb3)
        | (refine wpl_load_fr (by rfl) (.tmp 6) rfl rfl HF3.out ?_)
        | (refine wpl_load_fr (by rfl) (.tmp 5) rfl rfl HM3.out ?_)
        | (go_at_call 42; (refine (HSM.out _ _ _ _ HR3.out HD3.out).mono ?_); rintro r w4 ⟨rfl, hb⟩; have HB4 := Lib.hid (bch HB3.out hb); have HO4 := Lib.hid (HO3.out.keep hb); have c4 := HO4.out.cell1; have z4 := HO4.out.frozen; clear hb)
        | (at_builtin; refine wpl_appw rfl (.tmp 21) (.tmp 23) 32 rfl 3 .i64 8 Tryd.underlying32 Tryd.info_i64 W.heap.size _ n _ rfl (HO4.out.own.alloc _) _ 1 [(a : Int)] rfl (ri_new1 w4 a) (by have := HNN.out; omega) (by have := HNN.out; omega) (by have := HO4.out.size; simp; omega) ?_; intro v5 w5 HO5 HG5 HW5; obtain ⟨x5, y5, rfl⟩ := own_form HO5.out; have HK5 := Lib.hid ((HO4.out.keep (balloc w4 _)).mid HG5.out); have c5 := cell_of_row w5 bc 0 _ _ _ HK5.out; have z5 := Joins.unfrozen_of_block HK5.out 0))
      go_end0
      refine ⟨rfl, _, _, (HO4.out.keep (balloc w4 _)).turn HG5.out HO5.out, by omega, stay_of (bch HB4.out (balloc w4 _)) HG5.out bc _, ?_⟩
      rcases HW5.out with q | q
      · exact .inl q
      · exact .inr ⟨_, q, Nat.le_trans HB4.out.size (balloc w4 _).size⟩
end Go.Proofs.YtepaghohojomeaaDoor
/-
  WHAT THE PROGRAM'S OWN kind, Room, Fits OF LAYER 14 (cut) ANSWER. No condition.
-/
namespace Go.Proofs.YtepaghohojomeaaDoor
open Go.RowKit
set_option maxRecDepth 8000 in
theorem kind_any (x y : Bool) (w : World) : Calls Tryd.prog 82 #[.bool x, .bool y] w fun e w' => e = .returned (.int .i64 (kindN x y)) ∧ w' = w := by
  cases x <;> cases y <;>
  · go_enter Tryd.func82, Tryd.ntmps82
    go_wp2
    go_ret
    exact ⟨rfl, rfl⟩
set_option maxRecDepth 8000 in
theorem room_any (n : Int) (h : I63 n) (w : World) : Calls Tryd.prog 95 #[.int .i64 n] w fun e w' => e = .returned (.int .i64 (roomI (nr n))) ∧ Below w.heap.size w w' := by
  have hle := nr_le n
  have hbl := begin_le _ hle
  have hll := left_le _ hbl
  have H1 : Hid (∀ w, Calls Tryd.prog 47 #[.int .i64 n] w fun e w' => e = .returned (.int .i64 (beginN (nr n) : Int)) ∧ Below w.heap.size w w') := fun w => begin_any n h w
  have hbr := begin_room _ hle
  obtain ⟨r, hr⟩ : ∃ r, roomI (nr n) = r := ⟨_, rfl⟩
  rw [hr]
  unfold roomI at hr
  generalize nr n = a at *
  generalize beginN a = b at *
  have H2 : Hid (∀ w, Calls Tryd.prog 66 #[.int .i64 (b : Int)] w fun e w' => e = .returned (.int .i64 (leftN b : Int)) ∧ Below w.heap.size w w') := fun w => by
    have := left_any b (by unfold I63; omega) w; rwa [nr_nat _ hbl] at this
  generalize leftN b = l at *
  clear h
  by_cases h8 : b = 832
  · subst h8
    rw [if_pos rfl] at hr
    subst hr
    go_enter Tryd.func95, Tryd.ntmps95
    go_wp2_with (first
      | (go_at_call 47; (with_reducible refine (H1.out _).mono ?_); rintro e w1 ⟨rfl, hb⟩; have HB1 := Lib.hid hb; clear hb))
    go_ret
    exact ⟨rfl, HB1.out⟩
  · rw [if_neg h8] at hr
    have hb8 : ¬ (b : Int) = 832 := by omega
    have hdv : ((832 : Int) - b - l).tdiv 208 = (((832 - b - l) / 208 : Nat) : Int) := by rw [Int.tdiv_eq_ediv_of_nonneg (by omega)]; omega
    obtain ⟨q, hq⟩ : ∃ q, (832 - b - l) / 208 = q := ⟨_, rfl⟩
    rw [hq] at hdv hr
    have hq4 : (q : Int) ≤ 4 := by omega
    have hl11 : (11 : Int) ≤ l := by omega
    have hsum : (b : Int) + l ≤ 832 := by omega
    have HR := Lib.hid hr
    clear hr hq hbr hll
    go_enter Tryd.func95, Tryd.ntmps95
    go_wp2_with (first
      | (go_at_call 47; (with_reducible refine (H1.out _).mono ?_); rintro e w1 ⟨rfl, hb⟩; have HB1 := Lib.hid hb; clear hb)
      | (go_at_call 66; (with_reducible refine (H2.out _).mono ?_); rintro e w2 ⟨rfl, hb⟩; have HB2 := Lib.hid (bch HB1.out hb); clear hb))
    go_ret
    exact ⟨ret_int (by rw [← HR.out]), HB2.out⟩
set_option maxRecDepth 8000 in
theorem fits_any (a n : Int) (ha : I63 a) (w : World) : Calls Tryd.prog 80 #[.int .i64 a, .int .i64 n] w fun e w' => e = .returned (.bool (fitI a n)) ∧ Below w.heap.size w w' := by
  have H1 : Hid (∀ w, Calls Tryd.prog 95 #[.int .i64 a] w fun e w' => e = .returned (.int .i64 (roomI (nr a))) ∧ Below w.heap.size w w') := fun w => room_any a ha w
  by_cases h0 : n < 0
  · rw [fitI_neg a n h0]
    clear ha
    go_enter Tryd.func80, Tryd.ntmps80
    go_wp2
    go_ret
    exact ⟨rfl, Below.refl _ _⟩
  · have h0' : 0 ≤ n := by omega
    have he : fitI a n = decide (n ≤ roomI (nr a)) := by unfold fitI; simp [h0']
    rw [he]
    generalize roomI (nr a) = r at *
    by_cases hc : n ≤ r
    · rw [decide_eq_true hc]
      clear ha he
      go_enter Tryd.func80, Tryd.ntmps80
      go_wp2_with (first
        | (go_at_call 95; (with_reducible refine (H1.out _).mono ?_); rintro e w1 ⟨rfl, hb⟩; have HB1 := Lib.hid hb; clear hb))
      go_ret
      exact ⟨by first | rfl | exact ret_bool (decide_eq_true hc), HB1.out⟩
    · rw [decide_eq_false hc]
      clear ha he
      go_enter Tryd.func80, Tryd.ntmps80
      go_wp2_with (first
        | (go_at_call 95; (with_reducible refine (H1.out _).mono ?_); rintro e w1 ⟨rfl, hb⟩; have HB1 := Lib.hid hb; clear hb))
      go_ret
      exact ⟨by first | rfl | exact ret_bool (decide_eq_false (by omega)), HB1.out⟩
end Go.Proofs.YtepaghohojomeaaDoor
/-
  LISTS OF FRAGMENTS THAT A CALL MAKES (layer 13's fragments): their cells, each one's data in a row of its own; appends; loads. No condition.
-/
namespace Go.Proofs.YtepaghohojomeaaDoor
open Go.RowKit
abbrev eL (e : FR × Value) : List Value := [.int .i64 e.1.kind, .int .u32 e.1.epoch, e.2]
def eF (es : List (FR × Value)) : List Value := (es.map eL).flatten
theorem eF_length (l : List (FR × Value)) : (eF l).length = l.length * 3 := by
  have := flat_length 3 (l.map eL) (fun e he => by obtain ⟨o, _, rfl⟩ := List.mem_map.1 he; rfl)
  simpa [eF] using this
theorem eF_snoc (l : List (FR × Value)) (c : FR × Value) : eF (l ++ [c]) = eF l ++ eL c := by simp [eF]
theorem fr_info' : (Tryd.prog.info? 70).map (·.size) = some 3 := by kernel_rfl
theorem fr_parts : (Tryd.prog.info? 70).map (fun i => (i.zero, i.size, i.bytes)) = some (some (.agg #[.int .i64 0, .int .u32 0, .slice none 0 0]), 3, 40) := by kernel_rfl
/-- a list of fragments under way, and each one's data -/
structure FL (base : Nat) (w : World) (v : Value) (m : Nat) (es : List (FR × Value)) : Prop where
  row : w.ownsRow base 70 3 v m (eF es)
  data : ∀ e ∈ es, w.ownsRow base 5 1 e.2 e.1.data.length (il .u8 e.1.data)
section
variable {base : Nat} {w w' : World} {v v' : Value} {m : Nat} {es : List (FR × Value)}
theorem FL.nil (base : Nat) (w : World) : FL base w (.slice none 0 0) 0 [] := ⟨World.ownsRow_nil _ _ _ _, fun e he => by simp at he⟩
theorem FL.keep (h : FL base w v m es) (hb : Below w.heap.size w w') : FL base w' v m es := ⟨own_keep h.row hb, fun e he => own_keep (h.data e he) hb⟩
theorem FL.len (h : FL base w v m es) : es.length = m := by have := h.row.1; rw [eF_length] at this; omega
/-- another row stays where the list grows -/
theorem FL.other (h : FL base w v m es) (hg : w.grownBy w' v.ownBlock) {t : TypeId} {k n base' : Nat} {u : Value} {xs : List Value} (ho : w.ownsRow base' t k u n xs) (ht : t ≠ 70) : w'.ownsRow base' t k u n xs :=
  own_over ho hg (own_types ho h.row ht)
/-- a block of another kind stays where the list grows -/
theorem FL.blk (h : FL base w v m es) (hg : w.grownBy w' v.ownBlock) {g : Nat} {c : Array Value} {t : TypeId} (hk : w.heap[g]? = some (.cells c t (0, 0))) (ht : t ≠ 70) : w'.heap[g]? = some (.cells c t (0, 0)) := by
  refine (hg.block g (Array.getElem?_eq_some_iff.1 hk).1 (fun e => ?_)).trans hk
  rcases h.row.2 with ⟨rfl, _⟩ | ⟨q, cap, cur, rfl, _, hcur, _⟩
  · simp [Value.ownBlock] at e
  · simp only [Value.ownBlock, Option.some.injEq] at e
    subst e
    rw [hk] at hcur
    simp only [Option.some.injEq, Obj.cells.injEq] at hcur
    exact ht hcur.2.1
theorem FL.snoc (h : FL base w v m es) (hg : w.grownBy w' v.ownBlock) (e : FR × Value) (hd : w.ownsRow base 5 1 e.2 e.1.data.length (il .u8 e.1.data)) (ho : w'.ownsRow base 70 3 v' (m + 1) (eF (es ++ [e]))) : FL base w' v' (m + 1) (es ++ [e]) :=
  ⟨ho, fun x hx => by
    rcases List.mem_append.1 hx with hx | hx
    · exact h.other hg (h.data x hx) (by decide)
    · obtain rfl : x = e := by simpa using hx
      exact h.other hg hd (by decide)⟩
/-- where one of them lies -/
theorem FL.at_ {a : Option Addr} {cap : Nat} (h : FL base w (.slice a m cap) m es) (i : Nat) (e : FR × Value) (he : es[i]? = some e) : ∃ b off, a = some ⟨b, off, none⟩ ∧ w.rangeAt b (off + i * 3) (eL e) := by
  have hi := (List.getElem?_eq_some_iff.1 he).1
  have hl := h.len
  have hcs : CS 3 w (.slice a m cap) m (eF es) := CS.own h.row
  obtain ⟨b, off, rfl, hc⟩ := CS.at_ hcs i (by omega)
  refine ⟨b, off, rfl, fun j v hv => ?_⟩
  have hj : j < 3 := (List.getElem?_eq_some_iff.1 hv).1
  have h7 := flat_get 3 (es.map eL) i j (fun e he => by obtain ⟨o, _, rfl⟩ := List.mem_map.1 he; rfl) hj (eL e) (by simp [he])
  exact ((hc j hj).trans h7).trans hv
theorem exec_load_el {a : Act} {o : Oper} {b off : Nat} {e : FR × Value} (x : Operand) (ho : o.op = .load 70 x) (hx : a.eval x = .pointer (some ⟨b, off, none⟩)) (h : w.rangeAt b off (eL e)) :
    (execOp a.eval o).run Tryd.prog w = .ok (.value (.agg (fA e.1.kind e.1.epoch e.2))) w := by
  unfold execOp
  simp only [ho, hx, Instr.loadAt, Instr.sureAddr, Sem.run_bind, Sem.run_pure, Result.andThen_ok, run_loadVar_mid w b off 70 (eL e) _ h Tryd.underlying70 rfl fr_info']
/-- append of one fragment, in a statement whose order is open -/
theorem wp_app_fr {o : Oper} {a : Act} {Q : Exit → Act → World → Prop} {K : Act → World → Prop} (s x : Operand)
    (ho : o.op = .call { callee := .builtin .append, args := #[s, x], argTypes := #[123, 123] })
    (hs : a.eval s = v) (hfl : FL base w v m es) (g : Nat) (e : FR × Value) (n cap : Nat) (p : Option Addr) (hv : e.2 = .slice p n cap) (hx : a.eval x = .slice (some ⟨g, 0, none⟩) 1 1) (hblk : w.heap[g]? = some (.cells (eL e).toArray 70 (0, 0)))
    (hd : w.ownsRow base 5 1 e.2 e.1.data.length (il .u8 e.1.data)) (hm : m ≤ 1000000) (hbase : base ≤ w.heap.size)
    (h : ∀ v' w', Hid (FL base w' v' (m + 1) (es ++ [e])) → Hid (w.grownBy w' v.ownBlock) → K (a.put o.dst v') w') : Oper.wp Tryd.prog o a w K Q := by
  obtain ⟨i, hi, hz0, hz1, hz2⟩ := info_parts fr_parts
  refine wp_append_own_wide w s x 123 ho base 70 i _ 3 40 Tryd.underlying123 hi hz0 hz1 hz2 rfl (by omega) v m (eF es) hs hfl.row ⟨g, 0, none⟩ 1 1 (eL e) hx (by simp) ?_ (by simp [Value.oneCell', hv]) (by unfold maxLen; omega) (by omega) hbase ?_
  · intro j u hj
    have hc : w.cell? ⟨g, j, none⟩ = some u := by rw [cell_of_row _ g j _ _ _ hblk]; simpa using hj
    by_cases h0 : j = 0
    · subst h0; simpa [Addr.add] using hc
    · simpa [Addr.add, h0] using hc
  · intro v' w' h1 h2 _
    exact h v' w' (hfl.snoc h2 e hd (by rw [eF_snoc]; exact h1)) h2
end
end Go.Proofs.YtepaghohojomeaaDoor
/-
  A RANGE OVER A FUNCTION WHOSE ITERATOR TELLS THE ROUND SOMETHING OF THE MEMORY BEHIND WHAT IT HANDS OVER ('T x W'), and whose rounds name the blocks that they may turn (a state f): a contract (SeqTold) and the law of the caller (wpIn_rangeFunc_told). Nothing here speaks of the program. No condition.
-/
namespace Go.Proofs.YtepaghohojomeaaDoor
open Go.RowKit
/-- from A to B: what lay below b, and what is cells, lies as it lay -/
def Free (b : Nat) (A B : World) : Prop := Below b A B ∧ ∀ (k : Nat) (o : Obj), A.heap[k]? = some o → o.isCells = true → B.heap[k]? = some o
theorem Free.refl (b : Nat) (A : World) : Free b A A := ⟨Below.refl _ _, fun _ _ h _ => h⟩
theorem Free.trans {b : Nat} {A B C : World} (h : Free b A B) (k : Free b B C) : Free b A C := ⟨h.1.trans k.1, fun i o hi ho => k.2 i o (h.2 i o hi ho) ho⟩
theorem Free.mono {b b' : Nat} {A B : World} (h : Free b A B) (hb : b' ≤ b) : Free b' A B := ⟨h.1.mono hb, h.2⟩
theorem Free.of {b : Nat} {A B : World} (h : Below A.heap.size A B) (hb : b ≤ A.heap.size) : Free b A B := ⟨h.mono hb, fun k _ hk _ => (h.block k (Array.getElem?_eq_some_iff.1 hk).1).trans hk⟩
theorem Free.put {b : Nat} {W : World} {l : Nat} {o : Obj} (o' : Obj) (hb : b ≤ l) (h : W.heap[l]? = some o) (ho : o.isCells = false) : Free b W (W.putObj l o') :=
  ⟨(Below.refl b W).grown (grownBy_putObj' W l o') (by have := (Array.getElem?_eq_some_iff.1 h).1; omega) (fun k e => by cases e; exact hb), fun k o2 hk ho2 => by
    by_cases e : k = l
    · subst e; rw [h] at hk; cases hk; rw [ho] at ho2; cases ho2
    · exact (World.putObj_heap_other e).trans hk⟩
variable {F : Fence} {n : Nat} {P : Program}
def SeqTold {α σ : Type} (F : Fence) (n : Nat) (P : Program) (g : Nat) (lb : Array Value) (encs : α → Array Value) (T : α → World → Prop) (Kp : σ → World → σ → World → Prop) (Ok : σ → World → World → Prop) (S : List α → Prop) (N : Nat) (w : World) : Prop :=
  ∀ (l : Nat) (J : σ → List α → World → Prop) (f : σ) (W : World), Below w.heap.size w W → Ok f w W → (∀ f s A B, J f s A → Free W.heap.size A B → J f s B) →
    (∀ f pre x W1, J f pre W1 → T x W1 → pre.length < N → YieldAt F (n - 1) P l (encs x) W1 fun e W' => e = .returned (.bool true) ∧ ∃ f', J f' (pre ++ [x]) W' ∧ Kp f W1 f' W') →
    J f [] W →
    CallsIn F n P g (#[.func (.yield l) #[] #[]] ++ lb) W fun e W' => (∃ v, e = .returned v) ∧ ∃ f' xs, S xs ∧ J f' xs W'
/-- no cells lie there -/
def NoC (W : World) (k : Nat) : Prop := ∃ o : Obj, W.heap[k]? = some o ∧ o.isCells = false
/-- how the body of a round is left -/
def toldPost {α σ : Type} (B : Nat) (Kp : σ → World → σ → World → Prop) (I : σ → List α → World → Prop) (f : σ) (xs : List α) (W : World) : Exit → Act → World → Prop
  | .normal, _, W' => ∃ f', W'.heap[B]? = W.heap[B]? ∧ W'.heap[B + 1]? = W.heap[B + 1]? ∧ Kp f W f' W' ∧ I f' xs W'
  | _, _, _ => False
theorem wpIn_rangeFunc_told {α σ : Type} {g : Operand} {ps : Array Tmp} {assign body : Code} {Q : Exit → Act → World → Prop} {a : Act} {w : World}
    (hro : F.round = none) (h1 : 1 ≤ n) {gf : Nat} {lb : Array Value} (hg : a.eval g = .func (.func gf) #[] lb) (hFg : F.fn gf) (eg : ∀ args w, (callFunc gf args).run P w = .ok (.enter gf args) w)
    {encs : α → Array Value} {T : α → World → Prop} {Kp : σ → World → σ → World → Prop} {Ok : σ → World → World → Prop} {S : List α → Prop} {N : Nat} {w0 : World} (hseq : SeqTold F (n - 1) P gf lb encs T Kp Ok S N w0)
    (hb0 : Below w0.heap.size w0 w) (hps : ∀ x, (encs x).size = ps.size) (f0 : σ) (ok : ∀ o o', Ok f0 w0 ((w.alloc o).alloc o'))
    (hKt : ∀ {a A b B c C}, Kp a A b B → Kp b B c C → Kp a A c C) (hKx : ∀ {f W W'}, Below W.heap.size W W' → Kp f W f W')
    (I : σ → List α → World → Prop) (hI : ∀ f s A B, I f s A → Free w.heap.size A B → I f s B) (hT : ∀ x A B, T x A → Free w.heap.size A B → T x B)
    (hKb : ∀ f s W (o o' : Obj), I f s W → W.heap[w.heap.size + 1]? = some o → o.isCells = false → Kp f W f (W.putObj (w.heap.size + 1) o')) (h0 : ∀ o o', I f0 [] ((w.alloc o).alloc o'))
    (Ax : σ → α → Act → World → Prop) (hAx : ∀ f x a' A B, Ax f x a' A → Free w.heap.size A B → Ax f x a' B)
    (hassign : ∀ (l : Nat) (f : σ) (pre : List α) (x : α) (W : World) (K : Act → World → Prop), I f pre W → T x W → (∀ a' W', Below W.heap.size W W' → Ax f x a' W' → K a' W') →
      assign.wpIn (F.inRound l) (n - 1 - 1) P (Exit.then K (fun _ _ _ => False)) { tmps := (ps.zip (encs x)).foldl (fun t (p, v) => t.setIfInBounds p v) a.tmps, defers := [] } W)
    (hbody : ∀ (l : Nat) (f : σ) (pre : List α) (x : α) (a' : Act) (W : World), NoC W w.heap.size → NoC W (w.heap.size + 1) → I f pre W → T x W → Ax f x a' W → pre.length < N → body.wpIn (F.inRound l) (n - 1 - 1) P (toldPost w.heap.size Kp I f (pre ++ [x]) W) a' W)
    (hdone : ∀ (f : σ) (xs : List α) (W : World), S xs → I f xs W → W.heap[w.heap.size]? = some (.deferred (some [])) → Q .normal { a with defers := { target := .collected w.heap.size, args := #[] } :: a.defers } W) :
    (Code.rangeFunc g ps assign body).wpIn F n P Q a w := by
  refine wpIn_rangeFunc ?_
  intro fn hfn
  rw [hro]
  obtain ⟨rec, hrec⟩ : ∃ rec : LoopState → Option Code → Loop, rec = fun st pe => { state := st, pending := pe, fn, tmps := a.tmps, params := ps, assign, body, defers := w.heap.size } := ⟨_, rfl⟩
  obtain ⟨W1, hW1⟩ : ∃ W1, (w.alloc (.deferred (some []))).alloc (.loop (rec .ready none)) = W1 := ⟨_, rfl⟩
  have hL1 : W1.heap[w.heap.size + 1]? = some (.loop (rec .ready none)) := by
    rw [← hW1]; have := World.alloc_heap_new (w.alloc (.deferred (some []))) (.loop (rec .ready none)); rwa [World.size_alloc] at this
  have hK1 : W1.heap[w.heap.size]? = some (.deferred (some [])) := by
    rw [← hW1]; exact (Below.heap_alloc _ _ _ (by simp)).trans (World.alloc_heap_new w _)
  have hbw : Below w.heap.size w W1 := by rw [← hW1]; exact ((Below.refl _ w).alloc (Nat.le_refl _) _).alloc (by simp) _
  have hs1 : W1.heap.size = w.heap.size + 2 := by rw [← hW1]; simp
  have hI1 : I f0 [] W1 := by rw [← hW1]; exact h0 _ _
  have hb1 : Below w0.heap.size w0 W1 := hb0.trans (hbw.mono hb0.size)
  refine ⟨w.heap.size + 1, [{ target := .collected w.heap.size, args := #[] }], W1, { target := .fn (.func gf) lb, args := #[.func (.yield (w.heap.size + 1)) #[] #[]] }, W1, gf,
    #[.func (.yield (w.heap.size + 1)) #[] #[]] ++ lb, W1, ?_, ?_, ?_, ?_, fun _ => h1, ?_⟩
  · rw [← hW1, hrec]; exact run_enterLoop_outer _ _ _ _ _
  · simp only [resolve, hg]
    simp [go_sem]
  · intro f' hf'; simp [Target.leads] at hf'; subst hf'; exact hFg
  · simp [invoke, go_sem, eg]
  · refine (hseq (w.heap.size + 1)
      (fun f pre W => I f pre W ∧ W.heap[w.heap.size + 1]? = some (.loop (rec .ready none)) ∧ W.heap[w.heap.size]? = some (.deferred (some [])))
      f0 W1 hb1 (by rw [← hW1]; exact ok _ _)
      (fun f s A B hs hf => ⟨hI f s A B hs.1 (hf.mono (by omega)), (hf.1.block _ (by omega)).trans hs.2.1, (hf.1.block _ (by omega)).trans hs.2.2⟩)
      ?_ ⟨hI1, hL1, hK1⟩).mono ?_
    · -- one round
      rintro f pre x W ⟨hi, hl, hk⟩ htx hlen
      have hlt : w.heap.size + 1 < W.heap.size := (Array.getElem?_eq_some_iff.1 hl).1
      have hy := run_yield (P := P) (args := encs x) hl (by rw [hrec]; exact hps x)
      rw [hrec] at hy
      refine ⟨fn, _, assign, body, hy, roundIn_of_wpIn hfn (hassign _ f pre x W _ hi htx ?_)⟩
      clear hy
      intro a' Wa hba hax
      have hfa : Free w.heap.size W Wa := Free.of hba (by omega)
      have hla : Wa.heap[w.heap.size + 1]? = some (.loop (rec .ready none)) := (hba.block _ (by omega)).trans hl
      have hka : Wa.heap[w.heap.size]? = some (.deferred (some [])) := (hba.block _ (by omega)).trans hk
      have hlta : w.heap.size + 1 < Wa.heap.size := (Array.getElem?_eq_some_iff.1 hla).1
      have hia := hI _ _ _ _ hi hfa
      refine ⟨_, run_beginRound hla (by rw [hrec]), ?_⟩
      have hf2 : Free w.heap.size Wa (Wa.putObj (w.heap.size + 1) (.loop { rec .ready none with state := .busy })) := Free.put _ (by omega) hla rfl
      have hl2 : (Wa.putObj (w.heap.size + 1) (.loop { rec .ready none with state := .busy })).heap[w.heap.size + 1]? = some (.loop { rec .ready none with state := .busy }) := World.putObj_heap_same hlta
      have hk2 : (Wa.putObj (w.heap.size + 1) (.loop { rec .ready none with state := .busy })).heap[w.heap.size]? = some (.deferred (some [])) := (World.putObj_heap_other (by omega)).trans hka
      have hw2 : Kp f Wa f (Wa.putObj (w.heap.size + 1) (.loop { rec .ready none with state := .busy })) := hKb _ _ _ _ _ hia hla rfl
      refine wpIn_mono (hbody _ f pre x a' _ ⟨_, hk2, rfl⟩ ⟨_, hl2, rfl⟩ (hI _ _ _ _ hia hf2) (hT _ _ _ (hT _ _ _ htx hfa) hf2) (hAx _ _ _ _ _ hax hf2) hlen) ?_
      rintro e a3 W3 hp
      cases e with
      | normal =>
        obtain ⟨f', hk3, hl3, hkp3, hi3⟩ := hp
        replace hk3 := hk3.trans hk2
        replace hl3 := hl3.trans hl2
        have hr := run_endRound (P := P) none hl3
        rw [hrec] at hr
        refine ⟨_, _, hr, rfl, f', ⟨hI _ _ _ _ hi3 (Free.put _ (by omega) hl3 rfl), ?_, (World.putObj_heap_other (by omega)).trans hk3⟩, hKt (hKx hba) (hKt (hKt hw2 hkp3) (hKb _ _ _ _ _ hi3 hl3 rfl))⟩
        rw [hrec]
        exact World.putObj_heap_same (Array.getElem?_eq_some_iff.1 hl3).1
      | _ => exact hp.elim
    · -- behind the iterator
      rintro e W2 ⟨⟨v, rfl⟩, f', xs, hS, hi, hl, hk⟩
      exact ⟨none, _, by have := run_endLoop (P := P) hl (by rw [hrec]; simp); rw [hrec] at this; exact this, hdone f' xs _ hS (hI _ _ _ _ hi (Free.put _ (by omega) hl rfl)) ((World.putObj_heap_other (by omega)).trans hk)⟩
/-- rows of one type lie as they lay -/
def RowsKeep (t : TypeId) (W W' : World) : Prop := ∀ (k : Nat) (cur : Array Value), W.heap[k]? = some (.cells cur t (0, 0)) → W'.heap[k]? = some (.cells cur t (0, 0))
theorem RowsKeep.of {t : TypeId} {W W' : World} (h : Below W.heap.size W W') : RowsKeep t W W' := fun k _ hk => (h.block k (Array.getElem?_eq_some_iff.1 hk).1).trans hk
theorem RowsKeep.trans {t : TypeId} {A B C : World} (h : RowsKeep t A B) (k : RowsKeep t B C) : RowsKeep t A C := fun i c hi => k i c (h i c hi)
theorem RowsKeep.put {t : TypeId} {W : World} {l : Nat} {o : Obj} (o' : Obj) (h : W.heap[l]? = some o) (ho : o.isCells = false) : RowsKeep t W (W.putObj l o') :=
  fun k _ hk => (Free.put (b := l) o' (Nat.le_refl _) h ho).2 k _ hk rfl
/-- rounds that turn f's blocks and new ones alone, and no rows of type t -/
def KpE (t : TypeId) (f : Nat → Bool) (W : World) (f' : Nat → Bool) (W' : World) : Prop := Ext f W W' f' ∧ (Foot f W.heap.size → Foot f' W'.heap.size) ∧ RowsKeep t W W'
def OkE (f : Nat → Bool) (w W : World) : Prop := Foot f W.heap.size ∧ ∀ k, k < w.heap.size → f k = false
theorem KpE.trans {t : TypeId} {a A b B c C} (h : KpE t a A b B) (k : KpE t b B c C) : KpE t a A c C := ⟨h.1.trans k.1, fun hf => k.2.1 (h.2.1 hf), h.2.2.trans k.2.2⟩
theorem KpE.of {t : TypeId} {f : Nat → Bool} {W W' : World} (h : Below W.heap.size W W') : KpE t f W f W' := ⟨Ext.below h, fun hf => hf.mono h.size, RowsKeep.of h⟩
def KpS {σ : Type} (_ : σ) (W : World) (_ : σ) (W' : World) : Prop := W.heap.size ≤ W'.heap.size
/-- an iterator that asks nothing of its rounds serves those, too -/
theorem SeqTold.lift {α : Type} {t : TypeId} {g : Nat} {lb : Array Value} {encs : α → Array Value} {T : α → World → Prop} {S : List α → Prop} {N : Nat} {w : World}
    (h : SeqTold (σ := Nat → Bool) F n P g lb encs T KpS (fun _ _ _ => True) S N w) : SeqTold F n P g lb encs T (KpE t) OkE S N w := by
  intro l J f W hb _ hJ hY h0
  refine h l J f W hb trivial hJ ?_ h0
  intro f pre x W1 hj ht hl
  exact (hY f pre x W1 hj ht hl).mono fun e W' ⟨he, f', hj, hk⟩ => ⟨he, f', hj, hk.1.size⟩
/-- no operation puts a call off -/
def noDefer (ops : Array Oper) : Bool := ops.toList.all fun o => match o.op with | .defer _ => false | _ => true
theorem noDefer_spec {ops : Array Oper} (h : noDefer ops = true) {i : Nat} {o : Oper} (ho : ops[i]? = some o) : ∀ c, o.op ≠ .defer c := by
  intro c hc
  have hm : o ∈ ops.toList := by rw [← Array.getElem?_toList] at ho; exact List.mem_of_getElem? ho
  have := List.all_eq_true.1 h o hm
  rw [hc] at this
  simp at this
/-- a statement whose order is open is walked in a round as outside of it -/
theorem wpAnyIn_round {l : Nat} {md : Region.Mode} {ops : Array Oper} {Q : Exit → Act → World → Prop} (hnd : noDefer ops = true) : ∀ (fuel : Nat) (listed : Array Bool) (a : Act) (w : World),
    wpAnyIn Fence.wide n P md ops Q fuel listed a w → wpAnyIn (Fence.wide.inRound l) n P md ops Q fuel listed a w
  | 0, _, _, _, h => h
  | fuel + 1, listed, a, w, h => ⟨h.1, fun i hi => by
    have h2 := wpOpIn_mono (fun a' w' => wpAnyIn_round (l := l) hnd fuel (listed.setIfInBounds i true) a' w') (h.2 i hi)
    unfold wpOpIn at h2 ⊢
    cases ho : ops[i]? with
    | none => simp only [ho] at h2 ⊢; exact h2
    | some o =>
      simp only [ho] at h2 ⊢
      split
      · rename_i hw
        simp only [hw, if_true] at h2
        unfold Oper.wpIn at h2 ⊢
        refine ⟨h2.1, ?_⟩
        have h3 := h2.2
        rw [Oper.semAt_eq _ _ _ (noDefer_spec hnd ho)] at h3 ⊢
        exact h3
      · rename_i hw
        simp only [hw] at h2
        exact h2⟩
end Go.Proofs.YtepaghohojomeaaDoor
