/-
  TEXTS JOINED: CutGather, CutGo, CutCut, CutFrags, ImgRec, ImgSeq, ImgSet. Each one's own words stand at its head.
-/
import Derived.Test.YtepaghohojomeaaDoorJ13
import Derived.Test.YtepaghohojomeaaDoorJ11
import Derived.Lib.MinMax
import Derived.Test.YtepaghohojomeaaDoorJ3
import Derived.Test.YtepaghohojomeaaDoorJ5
import Derived.Test.YtepaghohojomeaaDoorJ9
import Derived.Test.YtepaghohojomeaaDoorJ1
import Derived.Test.YtepaghohojomeaaDoorJ15
import Derived.Shelf.RegionOpen
/-
  THE CLOSURE OF Cut (layer 14): it goes on by one piece. GS: where the four variables that it captures lie, and the list under way. No condition.
-/
namespace Go.Proofs.YtepaghohojomeaaDoor
open Go.RowKit
/-- the captured variables: the place (g0), from (g1), n (g2), the list (g3); the list's row is the call's own -/
structure GS (B : Nat) (W w : World) (g0 g1 g2 g3 : Nat) (p f n : Int) (v : Value) (m : Nat) (l : List PC) : Prop where
  below : Below B W w
  base : B ≤ W.heap.size
  ge : B ≤ g0 ∧ B ≤ g1 ∧ B ≤ g2 ∧ B ≤ g3
  ne : g0 ≠ g1 ∧ g0 ≠ g2 ∧ g0 ≠ g3 ∧ g1 ≠ g2 ∧ g1 ≠ g3 ∧ g2 ≠ g3
  k0 : w.heap[g0]? = some (.cells #[.int .i64 p] 3 (0, 0))
  k1 : w.heap[g1]? = some (.cells #[.int .i64 f] 3 (0, 0))
  k2 : w.heap[g2]? = some (.cells #[.int .i64 n] 3 (0, 0))
  k3 : w.heap[g3]? = some (.cells #[v] 63 (0, 0))
  own : w.ownsRow B 67 4 v m (pF l)
section
variable {B : Nat} {W w w' : World} {g0 g1 g2 g3 : Nat} {p f n : Int} {v : Value} {m : Nat} {l : List PC}
theorem GS.keep (h : GS B W w g0 g1 g2 g3 p f n v m l) (hb : Below w.heap.size w w') : GS B W w' g0 g1 g2 g3 p f n v m l :=
  have lt {g : Nat} {o : Obj} (hk : w.heap[g]? = some o) : g < w.heap.size := (Array.getElem?_eq_some_iff.1 hk).1
  ⟨h.below.trans (hb.mono (Nat.le_trans h.base h.below.size)), h.base, h.ge, h.ne, (hb.block _ (lt h.k0)).trans h.k0, (hb.block _ (lt h.k1)).trans h.k1, (hb.block _ (lt h.k2)).trans h.k2, (hb.block _ (lt h.k3)).trans h.k3, own_keep h.own hb⟩
theorem GS.cells (h : GS B W w g0 g1 g2 g3 p f n v m l) : w.cell? ⟨g0, 0, none⟩ = some (.int .i64 p) ∧ w.cell? ⟨g1, 0, none⟩ = some (.int .i64 f) ∧ w.cell? ⟨g2, 0, none⟩ = some (.int .i64 n) ∧ w.cell? ⟨g3, 0, none⟩ = some v :=
  ⟨cell_of_row w g0 0 _ _ _ h.k0, cell_of_row w g1 0 _ _ _ h.k1, cell_of_row w g2 0 _ _ _ h.k2, cell_of_row w g3 0 _ _ _ h.k3⟩
theorem GS.frozen (h : GS B W w g0 g1 g2 g3 p f n v m l) : w.frozen? ⟨g0, 0, none⟩ = false ∧ w.frozen? ⟨g1, 0, none⟩ = false ∧ w.frozen? ⟨g3, 0, none⟩ = false :=
  ⟨Joins.unfrozen_of_block h.k0 0, Joins.unfrozen_of_block h.k1 0, Joins.unfrozen_of_block h.k3 0⟩
/-- the list's row is none of the variables -/
theorem own_not {g : Nat} {c : Array Value} {t : TypeId} (hk : w.heap[g]? = some (.cells c t (0, 0))) (ht : t ≠ 67) (h : w.ownsRow B 67 4 v m (pF l)) : some g ≠ v.ownBlock := by
  intro e
  rcases h.2 with ⟨rfl, _⟩ | ⟨q, cap, cur, rfl, _, hcur, _⟩
  · simp [Value.ownBlock] at e
  · simp only [Value.ownBlock, Option.some.injEq] at e
    subst e
    rw [hk] at hcur
    simp only [Option.some.injEq, Obj.cells.injEq] at hcur
    exact ht hcur.2.1
theorem set_apart {g b : Nat} {o : Option Obj} (hk : w.heap[g]? = o) (hne : g ≠ b) (x : Value) : (w.setCell ⟨b, 0, none⟩ x).heap[g]? = o := (heap_setCell_other w ⟨b, 0, none⟩ g x hne).trans hk
theorem grown_set (w : World) (g : Nat) (x : Value) : w.grownBy (w.setCell ⟨g, 0, none⟩ x) (some g) := ⟨rfl, rfl, rfl, by simp, fun i _ hne => heap_setCell_other w ⟨g, 0, none⟩ i x (fun e => hne (by rw [e]))⟩
theorem GS.set0 (h : GS B W w g0 g1 g2 g3 p f n v m l) (p' : Int) : GS B W (w.setCell ⟨g0, 0, none⟩ (.int .i64 p')) g0 g1 g2 g3 p' f n v m l := by
  have hne := h.ne
  exact ⟨bset h.below h.ge.1 h.base 0 _, h.base, h.ge, hne, Joins.block_setCell h.k0 _, set_apart h.k1 (Ne.symm hne.1) _, set_apart h.k2 (Ne.symm hne.2.1) _, set_apart h.k3 (Ne.symm hne.2.2.1) _,
    own_over h.own (grown_set w g0 _) (fun g hg e => own_not h.k0 (by decide) h.own (by rw [hg, e]))⟩
theorem GS.set1 (h : GS B W w g0 g1 g2 g3 p f n v m l) (f' : Int) : GS B W (w.setCell ⟨g1, 0, none⟩ (.int .i64 f')) g0 g1 g2 g3 p f' n v m l := by
  have hne := h.ne
  exact ⟨bset h.below h.ge.2.1 h.base 0 _, h.base, h.ge, hne, set_apart h.k0 hne.1 _, Joins.block_setCell h.k1 _, set_apart h.k2 (Ne.symm hne.2.2.2.1) _, set_apart h.k3 (Ne.symm hne.2.2.2.2.1) _,
    own_over h.own (grown_set w g1 _) (fun g hg e => own_not h.k1 (by decide) h.own (by rw [hg, e]))⟩
/-- the list has grown, and the variable is told -/
theorem GS.turn (h : GS B W w g0 g1 g2 g3 p f n v m l) {v' : Value} {m' : Nat} {l' : List PC} (ho : w'.ownsRow B 67 4 v' m' (pF l')) (hg : w.grownBy w' v.ownBlock) :
    GS B W (w'.setCell ⟨g3, 0, none⟩ v') g0 g1 g2 g3 p f n v' m' l' := by
  have hne := h.ne
  have lt {g : Nat} {o : Obj} (hk : w.heap[g]? = some o) : g < w.heap.size := (Array.getElem?_eq_some_iff.1 hk).1
  have k0 := (hg.block _ (lt h.k0) (own_not h.k0 (by decide) h.own)).trans h.k0
  have k1 := (hg.block _ (lt h.k1) (own_not h.k1 (by decide) h.own)).trans h.k1
  have k2 := (hg.block _ (lt h.k2) (own_not h.k2 (by decide) h.own)).trans h.k2
  have k3 := (hg.block _ (lt h.k3) (own_not h.k3 (by decide) h.own)).trans h.k3
  have hb : Below B W w' := h.below.grown hg (Nat.le_trans h.base h.below.size) (fun q hq => (h.own.lt q hq).1)
  exact ⟨bset hb h.ge.2.2.2 h.base 0 _, h.base, h.ge, hne, set_apart k0 hne.2.2.1 _, set_apart k1 hne.2.2.2.2.1 _, set_apart k2 hne.2.2.2.2.2 _, Joins.block_setCell k3 _,
    own_over ho (grown_set w' g3 _) (fun g hg e => own_not k3 (by decide) ho (by rw [hg, e]))⟩
/-- .. what is seen ahead of that -/
theorem GS.mid (h : GS B W w g0 g1 g2 g3 p f n v m l) (hg : w.grownBy w' v.ownBlock) : w'.cell? ⟨g0, 0, none⟩ = some (.int .i64 p) ∧ w'.cell? ⟨g1, 0, none⟩ = some (.int .i64 f) ∧ w'.cell? ⟨g2, 0, none⟩ = some (.int .i64 n) ∧ w'.cell? ⟨g3, 0, none⟩ = some v ∧ w'.frozen? ⟨g3, 0, none⟩ = false := by
  have lt {g : Nat} {o : Obj} (hk : w.heap[g]? = some o) : g < w.heap.size := (Array.getElem?_eq_some_iff.1 hk).1
  have k0 := (hg.block _ (lt h.k0) (own_not h.k0 (by decide) h.own)).trans h.k0
  have k1 := (hg.block _ (lt h.k1) (own_not h.k1 (by decide) h.own)).trans h.k1
  have k2 := (hg.block _ (lt h.k2) (own_not h.k2 (by decide) h.own)).trans h.k2
  have k3 := (hg.block _ (lt h.k3) (own_not h.k3 (by decide) h.own)).trans h.k3
  exact ⟨cell_of_row w' g0 0 _ _ _ k0, cell_of_row w' g1 0 _ _ _ k1, cell_of_row w' g2 0 _ _ _ k2, cell_of_row w' g3 0 _ _ _ k3, Joins.unfrozen_of_block k3 0⟩
end
end Go.Proofs.YtepaghohojomeaaDoor
/-
  THE CLOSURE OF Cut (layer 14), walked: it lays one piece more, and tells whether some bytes are left. A piece must have room.
-/
namespace Go.Proofs.YtepaghohojomeaaDoor
open Go.RowKit
theorem dec_cast (i : Nat) : decide ((i : Int) = 0) = decide (i = 0) := by rw [Bool.eq_iff_iff]; simp
theorem dec_cast2 (x y : Nat) : decide ((x : Int) = (y : Int)) = decide (x = y) := by rw [Bool.eq_iff_iff, decide_eq_true_iff, decide_eq_true_iff]; omega
set_option maxRecDepth 8000 in
set_option maxHeartbeats 4000000 in
theorem gather_any (B : Nat) (W w : World) (g0 g1 g2 g3 : Nat) (p : Int) (v : Value) (a n i : Nat) (hp : I63 p) (hpn : nr p = pS a n i) (hs : Step a n i) (hn : n ≤ 832) (hi : i ≤ 1000)
    (h : GS B W w g0 g1 g2 g3 p (fS a n i : Nat) (n : Nat) v i (firstP a n i)) :
    Calls Tryd.prog 81 #[.pointer (some ⟨g0, 0, none⟩), .pointer (some ⟨g1, 0, none⟩), .pointer (some ⟨g2, 0, none⟩), .pointer (some ⟨g3, 0, none⟩)] w fun e w' =>
      e = .returned (.bool (decide (fS a n (i + 1) < n))) ∧ ∃ v', GS B W w' g0 g1 g2 g3 (pS a n (i + 1) : Nat) (fS a n (i + 1) : Nat) (n : Nat) v' (i + 1) (firstP a n (i + 1)) := by
  have hb1 : beginN (nr p) = bS a n i := by rw [hpn]; rfl
  have H1 : Hid (∀ w, Calls Tryd.prog 47 #[.int .i64 p] w fun e w' => e = .returned (.int .i64 (bS a n i : Int)) ∧ Below w.heap.size w w') := fun w => by
    have := begin_any p hp w; rwa [hb1] at this
  obtain ⟨s1, s2, s3, s4, s5, s6, s7⟩ := hs
  have H2 : Hid (∀ w, Calls Tryd.prog 66 #[.int .i64 (bS a n i : Int)] w fun e w' => e = .returned (.int .i64 (leftN (bS a n i) : Int)) ∧ Below w.heap.size w w') := fun w => by
    have := left_any (bS a n i) (by unfold I63; omega) w; rwa [nr_nat _ (by omega)] at this
  have HPC : Hid (pcS a n i = ⟨bS a n i, kindN (decide (i = 0)) (decide (fS a n (i + 1) = n)), fS a n i, fS a n (i + 1)⟩) := rfl
  have HFN := Lib.hid (firstP_next a n i)
  obtain ⟨c, hc⟩ : ∃ c, pcS a n i = c := ⟨_, rfl⟩
  rw [hc] at HPC HFN
  clear hc hpn hb1
  generalize bS a n i = b at *
  generalize fS a n (i + 1) = f1 at *
  generalize fS a n i = f at *
  generalize pS a n (i + 1) = p1 at *
  generalize leftN b = lf at *
  generalize firstP a n (i + 1) = l1 at *
  generalize firstP a n i = l0 at *
  obtain ⟨va, vc, rfl⟩ := own_form h.own
  have HG := Lib.hid h
  obtain ⟨c0, c1, c2, c3⟩ := h.cells
  obtain ⟨z0, z1, z3⟩ := h.frozen
  clear h
  have HMIN : Hid (min ((f : Int) + lf - 11) n = f1) := Lib.hid (by omega)
  have HW1 : Hid (IntKind.i64.wrap ((f : Int) + lf) = (f : Int) + lf) := Lib.hid (IntWalk.i64_in _ (by omega))
  have HW2 : Hid (IntKind.i64.wrap ((f : Int) + lf - 11) = (f : Int) + lf - 11) := Lib.hid (IntWalk.i64_in _ (by omega))
  have hbl : (b : Int) ≤ 821 := by omega
  have hf1 : (f1 : Int) ≤ 832 := by omega
  have hff : (f : Int) ≤ f1 := by omega
  have HP1 : Hid ((b : Int) + 11 + f1 - f = p1) := Lib.hid (by omega)
  clear s1 s2 s3 s4 s5 s6 s7 hn
  go_enter Tryd.func81, Tryd.ntmps81
  go_wp2_with (first
    | (go_at_call 47; (with_reducible refine (H1.out _).mono ?_); rintro e w1 ⟨rfl, hb⟩; have HG1 := Lib.hid (HG.out.keep hb); obtain ⟨d0, d1, d2, d3⟩ := HG1.out.cells; obtain ⟨y0, y1, y3⟩ := HG1.out.frozen; clear hb))
  obtain ⟨w2, hw2⟩ : ∃ q, w1.setCell ⟨g0, 0, none⟩ (.int .i64 (b : Int)) = q := ⟨_, rfl⟩
  rw [hw2]
  have HG2 : Hid (GS B W w2 g0 g1 g2 g3 b f n (.slice va i vc) i l0) := Lib.hid (by rw [← hw2]; exact HG1.out.set0 b)
  clear hw2 c0 c1 c2 c3 z0 z1 z3 d0 d1 d2 d3 y0 y1 y3 HG HG1 H1
  refine wp_region_held_drew (S := (fun w' => w'.cell? ⟨g0, 0, none⟩ = some (.int .i64 (b : Int)) ∧ w'.cell? ⟨g1, 0, none⟩ = some (.int .i64 (f : Int)) ∧ w'.cell? ⟨g2, 0, none⟩ = some (.int .i64 (n : Int)))) (by kernel_rfl) (let c := (HG2.out.keep ((Below.refl _ _).drew)).cells; ⟨c.1, c.2.1, c.2.2.1⟩) (fun hS => ?_)
  refine wpAnyH_take (i := 0) (oi := ({ dst := some 8, op := Op.load 3 (Operand.tmp 1), type := 3, pos := "cut.go:21", after := #[], guard := none } : Oper)) (v := ?_) rfl (by kernel_rfl) (by kernel_rfl) (by kernel_rfl) (fun _ _ _ h => h) (Or.inl ⟨by rfl, ?_⟩) hS ?_
  rotate_left
  · (intro w hSw; (try dsimp only at hSw); go_simp; try with_reducible rfl)
  (try simp only [Act.put, List.setIfInBounds_toArray, List.set_cons_zero, List.set_cons_succ])
  refine wpAnyH_take (i := 1) (oi := ({ dst := some 9, op := Op.load 3 (Operand.tmp 0), type := 3, pos := "cut.go:21", after := #[], guard := none } : Oper)) (v := ?_) rfl (by kernel_rfl) (by kernel_rfl) (by kernel_rfl) (fun _ _ _ h => h) (Or.inl ⟨by rfl, ?_⟩) hS ?_
  rotate_left
  · (intro w hSw; (try dsimp only at hSw); go_simp; try with_reducible rfl)
  (try simp only [Act.put, List.setIfInBounds_toArray, List.set_cons_zero, List.set_cons_succ])
  refine wpAnyH_take (i := 5) (oi := ({ dst := some 13, op := Op.load 3 (Operand.tmp 2), type := 3, pos := "cut.go:21", after := #[], guard := none } : Oper)) (v := ?_) rfl (by kernel_rfl) (by kernel_rfl) (by kernel_rfl) (fun _ _ _ h => h) (Or.inl ⟨by rfl, ?_⟩) hS ?_
  rotate_left
  · (intro w hSw; (try dsimp only at hSw); go_simp; try with_reducible rfl)
  (try simp only [Act.put, List.setIfInBounds_toArray, List.set_cons_zero, List.set_cons_succ])
  refine rg_one 2 ({ dst := some 10, op := Op.call { callee := Callee.value (Operand.func 66), args := #[Operand.tmp 9], argTypes := #[3] }, type := 3, pos := "cut.go:21", after := #[{ on := 1, ground := Ground.data }], guard := none } : Oper) (by kernel_rfl) rfl (fun K hK => ?_)
  go_simp
  (go_at_call 66; (with_reducible refine (H2.out _).mono ?_); rintro e w3 ⟨rfl, hb⟩; have HG3 := Lib.hid ((HG2.out.keep ((Below.refl _ _).drew)).keep hb); have hN := (let c := HG3.out.cells; (⟨c.1, c.2.1, c.2.2.1⟩ : w3.cell? ⟨g0, 0, none⟩ = some (.int .i64 (b : Int)) ∧ w3.cell? ⟨g1, 0, none⟩ = some (.int .i64 (f : Int)) ∧ w3.cell? ⟨g2, 0, none⟩ = some (.int .i64 (n : Int)))); clear hb)
  refine hK.out _ _ ?_ (fun hS1 => ?_)
  · (exact hN)
  clear hK K hS; have hS := hS1; clear hS1
  (try simp only [Act.put, List.setIfInBounds_toArray, List.set_cons_zero, List.set_cons_succ])
  refine wpAnyH_take (i := 3) (oi := ({ dst := some 11, op := Op.binOp BinOp.add 3 (Operand.tmp 8) (Operand.tmp 10) 3, type := 3, pos := "cut.go:21", after := #[{ on := 0, ground := Ground.data }, { on := 2, ground := Ground.data }], guard := none } : Oper)) (v := .int .i64 ((f : Int) + lf)) rfl (by kernel_rfl) (by kernel_rfl) (by kernel_rfl) (fun _ _ _ h => h) (Or.inl ⟨by rfl, ?_⟩) hS ?_
  · (intro w hSw; (try dsimp only at hSw); have z := HW1.out; go_simp; (try exact z))
  (try simp only [Act.put, List.setIfInBounds_toArray, List.set_cons_zero, List.set_cons_succ])
  refine wpAnyH_take (i := 4) (oi := ({ dst := some 12, op := Op.binOp BinOp.sub 3 (Operand.tmp 11) (Operand.const (Value.int IntKind.i64 11)) 3, type := 3, pos := "cut.go:21", after := #[{ on := 3, ground := Ground.data }], guard := none } : Oper)) (v := .int .i64 ((f : Int) + lf - 11)) rfl (by kernel_rfl) (by kernel_rfl) (by kernel_rfl) (fun _ _ _ h => h) (Or.inl ⟨by rfl, ?_⟩) hS ?_
  · (intro w hSw; (try dsimp only at hSw); have z := HW2.out; go_simp; (try exact z))
  (try simp only [Act.put, List.setIfInBounds_toArray, List.set_cons_zero, List.set_cons_succ])
  refine wpAnyH_take (i := 6) (oi := ({ dst := some 14, op := Op.call { callee := Callee.builtin Builtin.min, args := #[Operand.tmp 12, Operand.tmp 13], argTypes := #[3, 3] }, type := 3, pos := "cut.go:21", after := #[{ on := 4, ground := Ground.data }, { on := 5, ground := Ground.data }], guard := none } : Oper)) (v := .int .i64 (f1 : Int)) rfl (by kernel_rfl) (by kernel_rfl) (by kernel_rfl) (fun _ _ _ h => h) (Or.inl ⟨by rfl, ?_⟩) hS ?_
  · (intro w hSw; (try dsimp only at hSw); have z := HMIN.out; go_simp; (try exact z))
  (try simp only [Act.put, List.setIfInBounds_toArray, List.set_cons_zero, List.set_cons_succ])
  refine wpAnyH_take (i := 7) (oi := ({ dst := some 5, op := Op.assign (Operand.tmp 14), type := 3, pos := "cut.go:21", after := #[{ on := 6, ground := Ground.data }, { on := 2, ground := Ground.chain }, { on := 0, ground := Ground.phase }, { on := 1, ground := Ground.phase }, { on := 2, ground := Ground.phase }, { on := 3, ground := Ground.phase }, { on := 4, ground := Ground.phase }, { on := 5, ground := Ground.phase }, { on := 6, ground := Ground.phase }], guard := none } : Oper)) (v := ?_) rfl (by kernel_rfl) (by kernel_rfl) (by kernel_rfl) (fun _ _ _ h => h) (Or.inl ⟨by rfl, ?_⟩) hS ?_
  rotate_left
  · (intro w hSw; (try dsimp only at hSw); go_simp; try with_reducible rfl)
  (try simp only [Act.put, List.setIfInBounds_toArray, List.set_cons_zero, List.set_cons_succ])
  refine wpAnyH_done (by kernel_rfl) ?_ _
  clear hS hN HG2 H2
  have HG4 := Lib.hid (HG3.out.keep ((Below.refl _ _).drew))
  have e3 := HG3.out.cells.2.2.2
  have d3 := HG4.out.cells.2.2.2
  obtain ⟨kd, hkd⟩ : ∃ kd, kindN (decide (i = 0)) (decide (f1 = n)) = kd := ⟨_, rfl⟩
  have HK : Hid (∀ w, Calls Tryd.prog 82 #[.bool (decide (i = 0)), .bool (decide (f1 = n))] w fun e w' => e = .returned (.int .i64 kd) ∧ w' = w) := fun w => by rw [← hkd]; exact kind_any _ _ w
  rw [hkd] at HPC
  clear hkd
  go_wp2_with fail
  refine wp_region_held_drew (S := (fun w' => w'.cell? ⟨g0, 0, none⟩ = some (.int .i64 (b : Int)) ∧ w'.cell? ⟨g1, 0, none⟩ = some (.int .i64 (f : Int)) ∧ w'.cell? ⟨g2, 0, none⟩ = some (.int .i64 (n : Int)))) (by kernel_rfl) (let c := HG4.out.cells; ⟨c.1, c.2.1, c.2.2.1⟩) (fun hS => ?_)
  refine wpAnyH_take (i := 1) (oi := ({ dst := some 16, op := Op.load 3 (Operand.tmp 0), type := 3, pos := "cut.go:22", after := #[], guard := none } : Oper)) (v := ?_) rfl (by kernel_rfl) (by kernel_rfl) (by kernel_rfl) (fun _ _ _ h => h) (Or.inl ⟨by rfl, ?_⟩) hS ?_
  rotate_left
  · (intro w hSw; (try dsimp only at hSw); go_simp; try with_reducible rfl)
  (try simp only [Act.put, List.setIfInBounds_toArray, List.set_cons_zero, List.set_cons_succ])
  refine wpAnyH_take (i := 5) (oi := ({ dst := some 20, op := Op.move (Operand.tmp 5), type := 3, pos := "cut.go:22", after := #[], guard := none } : Oper)) (v := ?_) rfl (by kernel_rfl) (by kernel_rfl) (by kernel_rfl) (fun _ _ _ h => h) (Or.inl ⟨by rfl, ?_⟩) hS ?_
  rotate_left
  · (intro w hSw; (try dsimp only at hSw); go_simp; try with_reducible rfl)
  (try simp only [Act.put, List.setIfInBounds_toArray, List.set_cons_zero, List.set_cons_succ])
  refine wpAnyH_take (i := 6) (oi := ({ dst := some 21, op := Op.load 3 (Operand.tmp 2), type := 3, pos := "cut.go:22", after := #[], guard := none } : Oper)) (v := ?_) rfl (by kernel_rfl) (by kernel_rfl) (by kernel_rfl) (fun _ _ _ h => h) (Or.inl ⟨by rfl, ?_⟩) hS ?_
  rotate_left
  · (intro w hSw; (try dsimp only at hSw); go_simp; try with_reducible rfl)
  (try simp only [Act.put, List.setIfInBounds_toArray, List.set_cons_zero, List.set_cons_succ])
  refine wpAnyH_take (i := 7) (oi := ({ dst := some 22, op := Op.binOp BinOp.eql 3 (Operand.tmp 20) (Operand.tmp 21) 3, type := 4, pos := "cut.go:22", after := #[{ on := 5, ground := Ground.data }, { on := 6, ground := Ground.data }], guard := none } : Oper)) (v := .bool (decide (f1 = n))) rfl (by kernel_rfl) (by kernel_rfl) (by kernel_rfl) (fun _ _ _ h => h) (Or.inl ⟨by rfl, ?_⟩) hS ?_
  · (intro w hSw; (try dsimp only at hSw); have z := dec_cast2 f1 n; go_simp; (try exact z))
  (try simp only [Act.put, List.setIfInBounds_toArray, List.set_cons_zero, List.set_cons_succ])
  refine wpAnyH_take (i := 9) (oi := ({ dst := some 24, op := Op.load 3 (Operand.tmp 1), type := 3, pos := "cut.go:22", after := #[], guard := none } : Oper)) (v := ?_) rfl (by kernel_rfl) (by kernel_rfl) (by kernel_rfl) (fun _ _ _ h => h) (Or.inl ⟨by rfl, ?_⟩) hS ?_
  rotate_left
  · (intro w hSw; (try dsimp only at hSw); go_simp; try with_reducible rfl)
  (try simp only [Act.put, List.setIfInBounds_toArray, List.set_cons_zero, List.set_cons_succ])
  refine wpAnyH_take (i := 10) (oi := ({ dst := some 25, op := Op.move (Operand.tmp 5), type := 3, pos := "cut.go:22", after := #[], guard := none } : Oper)) (v := ?_) rfl (by kernel_rfl) (by kernel_rfl) (by kernel_rfl) (fun _ _ _ h => h) (Or.inl ⟨by rfl, ?_⟩) hS ?_
  rotate_left
  · (intro w hSw; (try dsimp only at hSw); go_simp; try with_reducible rfl)
  (try simp only [Act.put, List.setIfInBounds_toArray, List.set_cons_zero, List.set_cons_succ])
  refine rg_both 0 2 ({ dst := some 15, op := Op.load 63 (Operand.tmp 3), type := 63, pos := "cut.go:22", after := #[], guard := none } : Oper) ({ dst := some 17, op := Op.load 63 (Operand.tmp 3), type := 63, pos := "cut.go:22", after := #[], guard := none } : Oper) (by kernel_rfl) rfl rfl (fun K hK => ?_) (fun K hK => ?_)
  · skip
    go_simp
    refine hK.out _ _ ?_ (fun hS1 => ?_)
    · (first | exact hN | exact hS)
    clear hK K hS; have hS := hS1; clear hS1
    (try simp only [Act.put, List.setIfInBounds_toArray, List.set_cons_zero, List.set_cons_succ])
    refine rg_one 2 ({ dst := some 17, op := Op.load 63 (Operand.tmp 3), type := 63, pos := "cut.go:22", after := #[], guard := none } : Oper) (by kernel_rfl) rfl (fun K hK => ?_)
    go_simp
    refine hK.out _ _ ?_ (fun hS1 => ?_)
    · (first | exact hN | exact hS)
    clear hK K hS; have hS := hS1; clear hS1
    (try simp only [Act.put, List.setIfInBounds_toArray, List.set_cons_zero, List.set_cons_succ])
    refine wpAnyH_take (i := 3) (oi := ({ dst := some 18, op := Op.call { callee := Callee.builtin Builtin.len, args := #[Operand.tmp 17], argTypes := #[63] }, type := 3, pos := "cut.go:22", after := #[{ on := 2, ground := Ground.data }], guard := none } : Oper)) (v := ?_) rfl (by kernel_rfl) (by kernel_rfl) (by kernel_rfl) (fun _ _ _ h => h) (Or.inl ⟨by rfl, ?_⟩) hS ?_
    rotate_left
    · (intro w hSw; (try dsimp only at hSw); go_simp; try with_reducible rfl)
    (try simp only [Act.put, List.setIfInBounds_toArray, List.set_cons_zero, List.set_cons_succ])
    refine wpAnyH_take (i := 4) (oi := ({ dst := some 19, op := Op.binOp BinOp.eql 3 (Operand.tmp 18) (Operand.const (Value.int IntKind.i64 0)) 3, type := 4, pos := "cut.go:22", after := #[{ on := 3, ground := Ground.data }], guard := none } : Oper)) (v := .bool (decide (i = 0))) rfl (by kernel_rfl) (by kernel_rfl) (by kernel_rfl) (fun _ _ _ h => h) (Or.inl ⟨by rfl, ?_⟩) hS ?_
    · (intro w hSw; (try dsimp only at hSw); have z := dec_cast i; go_simp; (try exact z))
    (try simp only [Act.put, List.setIfInBounds_toArray, List.set_cons_zero, List.set_cons_succ])
    refine rg_one 8 ({ dst := some 23, op := Op.call { callee := Callee.value (Operand.func 82), args := #[Operand.tmp 19, Operand.tmp 22], argTypes := #[4, 4] }, type := 3, pos := "cut.go:22", after := #[{ on := 4, ground := Ground.data }, { on := 7, ground := Ground.data }], guard := none } : Oper) (by kernel_rfl) rfl (fun K hK => ?_)
    go_simp
    (go_at_call 82; (with_reducible refine (HK.out _).mono ?_); rintro e w' ⟨rfl, rfl⟩)
    refine hK.out _ _ ?_ (fun hS1 => ?_)
    · (first | exact hN | exact hS)
    clear hK K hS; have hS := hS1; clear hS1
    (try simp only [Act.put, List.setIfInBounds_toArray, List.set_cons_zero, List.set_cons_succ])
    refine wpAnyH_take (i := 11) (oi := ({ dst := some 26, op := Op.build 67 #[(0, Operand.tmp 16), (1, Operand.tmp 23), (2, Operand.tmp 24), (3, Operand.tmp 25)], type := 67, pos := "cut.go:22", after := #[{ on := 1, ground := Ground.data }, { on := 8, ground := Ground.data }, { on := 9, ground := Ground.data }, { on := 10, ground := Ground.data }], guard := none } : Oper)) (v := .agg #[.int .i64 (b : Int), .int .i64 kd, .int .i64 (f : Int), .int .i64 (f1 : Int)]) rfl (by kernel_rfl) (by kernel_rfl) (by kernel_rfl) (fun _ _ _ h => h) (Or.inl ⟨by rfl, ?_⟩) hS ?_
    · (intro w hSw; (try dsimp only at hSw); go_simp)
    (try simp only [Act.put, List.setIfInBounds_toArray, List.set_cons_zero, List.set_cons_succ])
    refine rg_one 12 ({ dst := some 27, op := Op.buildSlice 63 1 #[(0, Operand.tmp 26)], type := 63, pos := "cut.go:22", after := #[{ on := 11, ground := Ground.data }], guard := none } : Oper) (by kernel_rfl) rfl (fun K hK => ?_)
    go_simp
    (obtain ⟨w5, hw5⟩ : ∃ q, (w3.alloc (.cells #[.int .i64 (b : Int), .int .i64 kd, .int .i64 (f : Int), .int .i64 (f1 : Int)] 67)).drew = q := ⟨_, rfl⟩; rw [hw5]; have HG5 : Hid (GS B W w5 g0 g1 g2 g3 b f n (.slice va i vc) i l0) := Lib.hid (by rw [← hw5]; exact HG3.out.keep (bdrew0 w3 _)); have HL5 : Hid (w5.heap[w3.heap.size]? = some (.cells (pL c).toArray 67 (0, 0))) := Lib.hid (by rw [← hw5, HPC.out]; exact heap_alloc_last w3 _); have d5 := HG5.out.cells.2.2.2; have hN := (let c := HG5.out.cells; (⟨c.1, c.2.1, c.2.2.1⟩ : (w5.cell? ⟨g0, 0, none⟩ = some (.int .i64 (b : Int)) ∧ w5.cell? ⟨g1, 0, none⟩ = some (.int .i64 (f : Int)) ∧ w5.cell? ⟨g2, 0, none⟩ = some (.int .i64 (n : Int))))); clear hw5)
    refine hK.out _ _ ?_ (fun hS1 => ?_)
    · (first | exact hN | exact hS)
    clear hK K hS; have hS := hS1; clear hS1
    (try simp only [Act.put, List.setIfInBounds_toArray, List.set_cons_zero, List.set_cons_succ])
    refine rg_one 13 ({ dst := some 28, op := Op.call { callee := Callee.builtin Builtin.append, args := #[Operand.tmp 15, Operand.tmp 27], argTypes := #[63, 63] }, type := 63, pos := "cut.go:22", after := #[{ on := 0, ground := Ground.data }, { on := 12, ground := Ground.data }, { on := 8, ground := Ground.chain }], guard := none } : Oper) (by kernel_rfl) rfl (fun K hK => ?_)
    (rw [if_pos (by rfl)]; refine wp_app_pc (.tmp 15) (.tmp 27) rfl B (.slice va i vc) i l0 rfl HG5.out.own w3.heap.size c rfl HL5.out (by omega) (Nat.le_trans HG5.out.base HG5.out.below.size) ?_; intro v6 w6 HO6 HQ6; rw [HFN.out] at HO6; obtain ⟨a6, c6, rfl⟩ := own_form HO6.out; obtain ⟨q0, q1, q2, q3, q4⟩ := HG5.out.mid HQ6.out; clear hN; have hN := (⟨q0, q1, q2⟩ : (w6.cell? ⟨g0, 0, none⟩ = some (.int .i64 (b : Int)) ∧ w6.cell? ⟨g1, 0, none⟩ = some (.int .i64 (f : Int)) ∧ w6.cell? ⟨g2, 0, none⟩ = some (.int .i64 (n : Int)))))
    refine hK.out _ _ ?_ (fun hS1 => ?_)
    · (first | exact hN | exact hS)
    clear hK K hS; have hS := hS1; clear hS1
    (try simp only [Act.put, List.setIfInBounds_toArray, List.set_cons_zero, List.set_cons_succ])
    refine rg_one 14 ({ dst := none, op := Op.store 63 (Operand.tmp 3) (Operand.tmp 28), type := 0, pos := "cut.go:22", after := #[{ on := 13, ground := Ground.data }, { on := 13, ground := Ground.chain }, { on := 0, ground := Ground.phase }, { on := 1, ground := Ground.phase }, { on := 2, ground := Ground.phase }, { on := 3, ground := Ground.phase }, { on := 4, ground := Ground.phase }, { on := 5, ground := Ground.phase }, { on := 6, ground := Ground.phase }, { on := 7, ground := Ground.phase }, { on := 8, ground := Ground.phase }, { on := 9, ground := Ground.phase }, { on := 10, ground := Ground.phase }, { on := 11, ground := Ground.phase }, { on := 12, ground := Ground.phase }, { on := 13, ground := Ground.phase }], guard := none } : Oper) (by kernel_rfl) rfl (fun K hK => ?_)
    go_simp
    (obtain ⟨w7, hw7⟩ : ∃ q, w6.setCell ⟨g3, 0, none⟩ (.slice a6 (i + 1) c6) = q := ⟨_, rfl⟩; rw [hw7]; have HG7 : Hid (GS B W w7 g0 g1 g2 g3 b f n (.slice a6 (i + 1) c6) (i + 1) l1) := Lib.hid (by rw [← hw7]; exact HG5.out.turn HO6.out HQ6.out); clear hN; have hN := (let c := HG7.out.cells; (⟨c.1, c.2.1, c.2.2.1⟩ : (w7.cell? ⟨g0, 0, none⟩ = some (.int .i64 (b : Int)) ∧ w7.cell? ⟨g1, 0, none⟩ = some (.int .i64 (f : Int)) ∧ w7.cell? ⟨g2, 0, none⟩ = some (.int .i64 (n : Int))))); clear hw7 q0 q1 q2 q3 q4 d5)
    refine hK.out _ _ ?_ (fun hS1 => ?_)
    · (first | exact hN | exact hS)
    clear hK K hS; have hS := hS1; clear hS1
    (try simp only [Act.put])
    refine wpAnyH_done (by kernel_rfl) ?_ _
    clear hS hN HG3 HG4 e3 d3 HK HL5
    obtain ⟨r0, r1, r2, r3⟩ := HG7.out.cells
    obtain ⟨t0, t1, t3⟩ := HG7.out.frozen
    have ne01 : ¬ g0 = g1 := HG7.out.ne.1
    have ne10 : ¬ g1 = g0 := fun e => ne01 e.symm
    have ne02 : ¬ g0 = g2 := HG7.out.ne.2.1
    have ne12 : ¬ g1 = g2 := HG7.out.ne.2.2.2.1
    go_wp2
    go_ret
    rw [HP1.out]
    exact ⟨rfl, _, (HG7.out.set0 p1).set1 f1⟩
  · skip
    go_simp
    refine hK.out _ _ ?_ (fun hS1 => ?_)
    · (first | exact hN | exact hS)
    clear hK K hS; have hS := hS1; clear hS1
    (try simp only [Act.put, List.setIfInBounds_toArray, List.set_cons_zero, List.set_cons_succ])
    refine wpAnyH_take (i := 3) (oi := ({ dst := some 18, op := Op.call { callee := Callee.builtin Builtin.len, args := #[Operand.tmp 17], argTypes := #[63] }, type := 3, pos := "cut.go:22", after := #[{ on := 2, ground := Ground.data }], guard := none } : Oper)) (v := ?_) rfl (by kernel_rfl) (by kernel_rfl) (by kernel_rfl) (fun _ _ _ h => h) (Or.inl ⟨by rfl, ?_⟩) hS ?_
    rotate_left
    · (intro w hSw; (try dsimp only at hSw); go_simp; try with_reducible rfl)
    (try simp only [Act.put, List.setIfInBounds_toArray, List.set_cons_zero, List.set_cons_succ])
    refine wpAnyH_take (i := 4) (oi := ({ dst := some 19, op := Op.binOp BinOp.eql 3 (Operand.tmp 18) (Operand.const (Value.int IntKind.i64 0)) 3, type := 4, pos := "cut.go:22", after := #[{ on := 3, ground := Ground.data }], guard := none } : Oper)) (v := .bool (decide (i = 0))) rfl (by kernel_rfl) (by kernel_rfl) (by kernel_rfl) (fun _ _ _ h => h) (Or.inl ⟨by rfl, ?_⟩) hS ?_
    · (intro w hSw; (try dsimp only at hSw); have z := dec_cast i; go_simp; (try exact z))
    (try simp only [Act.put, List.setIfInBounds_toArray, List.set_cons_zero, List.set_cons_succ])
    refine rg_both 0 8 ({ dst := some 15, op := Op.load 63 (Operand.tmp 3), type := 63, pos := "cut.go:22", after := #[], guard := none } : Oper) ({ dst := some 23, op := Op.call { callee := Callee.value (Operand.func 82), args := #[Operand.tmp 19, Operand.tmp 22], argTypes := #[4, 4] }, type := 3, pos := "cut.go:22", after := #[{ on := 4, ground := Ground.data }, { on := 7, ground := Ground.data }], guard := none } : Oper) (by kernel_rfl) rfl rfl (fun K hK => ?_) (fun K hK => ?_)
    · skip
      go_simp
      refine hK.out _ _ ?_ (fun hS1 => ?_)
      · (first | exact hN | exact hS)
      clear hK K hS; have hS := hS1; clear hS1
      (try simp only [Act.put, List.setIfInBounds_toArray, List.set_cons_zero, List.set_cons_succ])
      refine rg_one 8 ({ dst := some 23, op := Op.call { callee := Callee.value (Operand.func 82), args := #[Operand.tmp 19, Operand.tmp 22], argTypes := #[4, 4] }, type := 3, pos := "cut.go:22", after := #[{ on := 4, ground := Ground.data }, { on := 7, ground := Ground.data }], guard := none } : Oper) (by kernel_rfl) rfl (fun K hK => ?_)
      go_simp
      (go_at_call 82; (with_reducible refine (HK.out _).mono ?_); rintro e w' ⟨rfl, rfl⟩)
      refine hK.out _ _ ?_ (fun hS1 => ?_)
      · (first | exact hN | exact hS)
      clear hK K hS; have hS := hS1; clear hS1
      (try simp only [Act.put, List.setIfInBounds_toArray, List.set_cons_zero, List.set_cons_succ])
      refine wpAnyH_take (i := 11) (oi := ({ dst := some 26, op := Op.build 67 #[(0, Operand.tmp 16), (1, Operand.tmp 23), (2, Operand.tmp 24), (3, Operand.tmp 25)], type := 67, pos := "cut.go:22", after := #[{ on := 1, ground := Ground.data }, { on := 8, ground := Ground.data }, { on := 9, ground := Ground.data }, { on := 10, ground := Ground.data }], guard := none } : Oper)) (v := .agg #[.int .i64 (b : Int), .int .i64 kd, .int .i64 (f : Int), .int .i64 (f1 : Int)]) rfl (by kernel_rfl) (by kernel_rfl) (by kernel_rfl) (fun _ _ _ h => h) (Or.inl ⟨by rfl, ?_⟩) hS ?_
      · (intro w hSw; (try dsimp only at hSw); go_simp)
      (try simp only [Act.put, List.setIfInBounds_toArray, List.set_cons_zero, List.set_cons_succ])
      refine rg_one 12 ({ dst := some 27, op := Op.buildSlice 63 1 #[(0, Operand.tmp 26)], type := 63, pos := "cut.go:22", after := #[{ on := 11, ground := Ground.data }], guard := none } : Oper) (by kernel_rfl) rfl (fun K hK => ?_)
      go_simp
      (obtain ⟨w5, hw5⟩ : ∃ q, (w3.alloc (.cells #[.int .i64 (b : Int), .int .i64 kd, .int .i64 (f : Int), .int .i64 (f1 : Int)] 67)).drew = q := ⟨_, rfl⟩; rw [hw5]; have HG5 : Hid (GS B W w5 g0 g1 g2 g3 b f n (.slice va i vc) i l0) := Lib.hid (by rw [← hw5]; exact HG3.out.keep (bdrew0 w3 _)); have HL5 : Hid (w5.heap[w3.heap.size]? = some (.cells (pL c).toArray 67 (0, 0))) := Lib.hid (by rw [← hw5, HPC.out]; exact heap_alloc_last w3 _); have d5 := HG5.out.cells.2.2.2; have hN := (let c := HG5.out.cells; (⟨c.1, c.2.1, c.2.2.1⟩ : (w5.cell? ⟨g0, 0, none⟩ = some (.int .i64 (b : Int)) ∧ w5.cell? ⟨g1, 0, none⟩ = some (.int .i64 (f : Int)) ∧ w5.cell? ⟨g2, 0, none⟩ = some (.int .i64 (n : Int))))); clear hw5)
      refine hK.out _ _ ?_ (fun hS1 => ?_)
      · (first | exact hN | exact hS)
      clear hK K hS; have hS := hS1; clear hS1
      (try simp only [Act.put, List.setIfInBounds_toArray, List.set_cons_zero, List.set_cons_succ])
      refine rg_one 13 ({ dst := some 28, op := Op.call { callee := Callee.builtin Builtin.append, args := #[Operand.tmp 15, Operand.tmp 27], argTypes := #[63, 63] }, type := 63, pos := "cut.go:22", after := #[{ on := 0, ground := Ground.data }, { on := 12, ground := Ground.data }, { on := 8, ground := Ground.chain }], guard := none } : Oper) (by kernel_rfl) rfl (fun K hK => ?_)
      (rw [if_pos (by rfl)]; refine wp_app_pc (.tmp 15) (.tmp 27) rfl B (.slice va i vc) i l0 rfl HG5.out.own w3.heap.size c rfl HL5.out (by omega) (Nat.le_trans HG5.out.base HG5.out.below.size) ?_; intro v6 w6 HO6 HQ6; rw [HFN.out] at HO6; obtain ⟨a6, c6, rfl⟩ := own_form HO6.out; obtain ⟨q0, q1, q2, q3, q4⟩ := HG5.out.mid HQ6.out; clear hN; have hN := (⟨q0, q1, q2⟩ : (w6.cell? ⟨g0, 0, none⟩ = some (.int .i64 (b : Int)) ∧ w6.cell? ⟨g1, 0, none⟩ = some (.int .i64 (f : Int)) ∧ w6.cell? ⟨g2, 0, none⟩ = some (.int .i64 (n : Int)))))
      refine hK.out _ _ ?_ (fun hS1 => ?_)
      · (first | exact hN | exact hS)
      clear hK K hS; have hS := hS1; clear hS1
      (try simp only [Act.put, List.setIfInBounds_toArray, List.set_cons_zero, List.set_cons_succ])
      refine rg_one 14 ({ dst := none, op := Op.store 63 (Operand.tmp 3) (Operand.tmp 28), type := 0, pos := "cut.go:22", after := #[{ on := 13, ground := Ground.data }, { on := 13, ground := Ground.chain }, { on := 0, ground := Ground.phase }, { on := 1, ground := Ground.phase }, { on := 2, ground := Ground.phase }, { on := 3, ground := Ground.phase }, { on := 4, ground := Ground.phase }, { on := 5, ground := Ground.phase }, { on := 6, ground := Ground.phase }, { on := 7, ground := Ground.phase }, { on := 8, ground := Ground.phase }, { on := 9, ground := Ground.phase }, { on := 10, ground := Ground.phase }, { on := 11, ground := Ground.phase }, { on := 12, ground := Ground.phase }, { on := 13, ground := Ground.phase }], guard := none } : Oper) (by kernel_rfl) rfl (fun K hK => ?_)
      go_simp
      (obtain ⟨w7, hw7⟩ : ∃ q, w6.setCell ⟨g3, 0, none⟩ (.slice a6 (i + 1) c6) = q := ⟨_, rfl⟩; rw [hw7]; have HG7 : Hid (GS B W w7 g0 g1 g2 g3 b f n (.slice a6 (i + 1) c6) (i + 1) l1) := Lib.hid (by rw [← hw7]; exact HG5.out.turn HO6.out HQ6.out); clear hN; have hN := (let c := HG7.out.cells; (⟨c.1, c.2.1, c.2.2.1⟩ : (w7.cell? ⟨g0, 0, none⟩ = some (.int .i64 (b : Int)) ∧ w7.cell? ⟨g1, 0, none⟩ = some (.int .i64 (f : Int)) ∧ w7.cell? ⟨g2, 0, none⟩ = some (.int .i64 (n : Int))))); clear hw7 q0 q1 q2 q3 q4 d5)
      refine hK.out _ _ ?_ (fun hS1 => ?_)
      · (first | exact hN | exact hS)
      clear hK K hS; have hS := hS1; clear hS1
      (try simp only [Act.put])
      refine wpAnyH_done (by kernel_rfl) ?_ _
      clear hS hN HG3 HG4 e3 d3 HK HL5
      obtain ⟨r0, r1, r2, r3⟩ := HG7.out.cells
      obtain ⟨t0, t1, t3⟩ := HG7.out.frozen
      have ne01 : ¬ g0 = g1 := HG7.out.ne.1
      have ne10 : ¬ g1 = g0 := fun e => ne01 e.symm
      have ne02 : ¬ g0 = g2 := HG7.out.ne.2.1
      have ne12 : ¬ g1 = g2 := HG7.out.ne.2.2.2.1
      go_wp2
      go_ret
      rw [HP1.out]
      exact ⟨rfl, _, (HG7.out.set0 p1).set1 f1⟩
    · skip
      go_simp
      (go_at_call 82; (with_reducible refine (HK.out _).mono ?_); rintro e w' ⟨rfl, rfl⟩)
      refine hK.out _ _ ?_ (fun hS1 => ?_)
      · (first | exact hN | exact hS)
      clear hK K hS; have hS := hS1; clear hS1
      (try simp only [Act.put, List.setIfInBounds_toArray, List.set_cons_zero, List.set_cons_succ])
      refine wpAnyH_take (i := 11) (oi := ({ dst := some 26, op := Op.build 67 #[(0, Operand.tmp 16), (1, Operand.tmp 23), (2, Operand.tmp 24), (3, Operand.tmp 25)], type := 67, pos := "cut.go:22", after := #[{ on := 1, ground := Ground.data }, { on := 8, ground := Ground.data }, { on := 9, ground := Ground.data }, { on := 10, ground := Ground.data }], guard := none } : Oper)) (v := .agg #[.int .i64 (b : Int), .int .i64 kd, .int .i64 (f : Int), .int .i64 (f1 : Int)]) rfl (by kernel_rfl) (by kernel_rfl) (by kernel_rfl) (fun _ _ _ h => h) (Or.inl ⟨by rfl, ?_⟩) hS ?_
      · (intro w hSw; (try dsimp only at hSw); go_simp)
      (try simp only [Act.put, List.setIfInBounds_toArray, List.set_cons_zero, List.set_cons_succ])
      refine rg_both 0 12 ({ dst := some 15, op := Op.load 63 (Operand.tmp 3), type := 63, pos := "cut.go:22", after := #[], guard := none } : Oper) ({ dst := some 27, op := Op.buildSlice 63 1 #[(0, Operand.tmp 26)], type := 63, pos := "cut.go:22", after := #[{ on := 11, ground := Ground.data }], guard := none } : Oper) (by kernel_rfl) rfl rfl (fun K hK => ?_) (fun K hK => ?_)
      · skip
        go_simp
        refine hK.out _ _ ?_ (fun hS1 => ?_)
        · (first | exact hN | exact hS)
        clear hK K hS; have hS := hS1; clear hS1
        (try simp only [Act.put, List.setIfInBounds_toArray, List.set_cons_zero, List.set_cons_succ])
        refine rg_one 12 ({ dst := some 27, op := Op.buildSlice 63 1 #[(0, Operand.tmp 26)], type := 63, pos := "cut.go:22", after := #[{ on := 11, ground := Ground.data }], guard := none } : Oper) (by kernel_rfl) rfl (fun K hK => ?_)
        go_simp
        (obtain ⟨w5, hw5⟩ : ∃ q, (w3.alloc (.cells #[.int .i64 (b : Int), .int .i64 kd, .int .i64 (f : Int), .int .i64 (f1 : Int)] 67)).drew = q := ⟨_, rfl⟩; rw [hw5]; have HG5 : Hid (GS B W w5 g0 g1 g2 g3 b f n (.slice va i vc) i l0) := Lib.hid (by rw [← hw5]; exact HG3.out.keep (bdrew0 w3 _)); have HL5 : Hid (w5.heap[w3.heap.size]? = some (.cells (pL c).toArray 67 (0, 0))) := Lib.hid (by rw [← hw5, HPC.out]; exact heap_alloc_last w3 _); have d5 := HG5.out.cells.2.2.2; have hN := (let c := HG5.out.cells; (⟨c.1, c.2.1, c.2.2.1⟩ : (w5.cell? ⟨g0, 0, none⟩ = some (.int .i64 (b : Int)) ∧ w5.cell? ⟨g1, 0, none⟩ = some (.int .i64 (f : Int)) ∧ w5.cell? ⟨g2, 0, none⟩ = some (.int .i64 (n : Int))))); clear hw5)
        refine hK.out _ _ ?_ (fun hS1 => ?_)
        · (first | exact hN | exact hS)
        clear hK K hS; have hS := hS1; clear hS1
        (try simp only [Act.put, List.setIfInBounds_toArray, List.set_cons_zero, List.set_cons_succ])
        refine rg_one 13 ({ dst := some 28, op := Op.call { callee := Callee.builtin Builtin.append, args := #[Operand.tmp 15, Operand.tmp 27], argTypes := #[63, 63] }, type := 63, pos := "cut.go:22", after := #[{ on := 0, ground := Ground.data }, { on := 12, ground := Ground.data }, { on := 8, ground := Ground.chain }], guard := none } : Oper) (by kernel_rfl) rfl (fun K hK => ?_)
        (rw [if_pos (by rfl)]; refine wp_app_pc (.tmp 15) (.tmp 27) rfl B (.slice va i vc) i l0 rfl HG5.out.own w3.heap.size c rfl HL5.out (by omega) (Nat.le_trans HG5.out.base HG5.out.below.size) ?_; intro v6 w6 HO6 HQ6; rw [HFN.out] at HO6; obtain ⟨a6, c6, rfl⟩ := own_form HO6.out; obtain ⟨q0, q1, q2, q3, q4⟩ := HG5.out.mid HQ6.out; clear hN; have hN := (⟨q0, q1, q2⟩ : (w6.cell? ⟨g0, 0, none⟩ = some (.int .i64 (b : Int)) ∧ w6.cell? ⟨g1, 0, none⟩ = some (.int .i64 (f : Int)) ∧ w6.cell? ⟨g2, 0, none⟩ = some (.int .i64 (n : Int)))))
        refine hK.out _ _ ?_ (fun hS1 => ?_)
        · (first | exact hN | exact hS)
        clear hK K hS; have hS := hS1; clear hS1
        (try simp only [Act.put, List.setIfInBounds_toArray, List.set_cons_zero, List.set_cons_succ])
        refine rg_one 14 ({ dst := none, op := Op.store 63 (Operand.tmp 3) (Operand.tmp 28), type := 0, pos := "cut.go:22", after := #[{ on := 13, ground := Ground.data }, { on := 13, ground := Ground.chain }, { on := 0, ground := Ground.phase }, { on := 1, ground := Ground.phase }, { on := 2, ground := Ground.phase }, { on := 3, ground := Ground.phase }, { on := 4, ground := Ground.phase }, { on := 5, ground := Ground.phase }, { on := 6, ground := Ground.phase }, { on := 7, ground := Ground.phase }, { on := 8, ground := Ground.phase }, { on := 9, ground := Ground.phase }, { on := 10, ground := Ground.phase }, { on := 11, ground := Ground.phase }, { on := 12, ground := Ground.phase }, { on := 13, ground := Ground.phase }], guard := none } : Oper) (by kernel_rfl) rfl (fun K hK => ?_)
        go_simp
        (obtain ⟨w7, hw7⟩ : ∃ q, w6.setCell ⟨g3, 0, none⟩ (.slice a6 (i + 1) c6) = q := ⟨_, rfl⟩; rw [hw7]; have HG7 : Hid (GS B W w7 g0 g1 g2 g3 b f n (.slice a6 (i + 1) c6) (i + 1) l1) := Lib.hid (by rw [← hw7]; exact HG5.out.turn HO6.out HQ6.out); clear hN; have hN := (let c := HG7.out.cells; (⟨c.1, c.2.1, c.2.2.1⟩ : (w7.cell? ⟨g0, 0, none⟩ = some (.int .i64 (b : Int)) ∧ w7.cell? ⟨g1, 0, none⟩ = some (.int .i64 (f : Int)) ∧ w7.cell? ⟨g2, 0, none⟩ = some (.int .i64 (n : Int))))); clear hw7 q0 q1 q2 q3 q4 d5)
        refine hK.out _ _ ?_ (fun hS1 => ?_)
        · (first | exact hN | exact hS)
        clear hK K hS; have hS := hS1; clear hS1
        (try simp only [Act.put])
        refine wpAnyH_done (by kernel_rfl) ?_ _
        clear hS hN HG3 HG4 e3 d3 HK HL5
        obtain ⟨r0, r1, r2, r3⟩ := HG7.out.cells
        obtain ⟨t0, t1, t3⟩ := HG7.out.frozen
        have ne01 : ¬ g0 = g1 := HG7.out.ne.1
        have ne10 : ¬ g1 = g0 := fun e => ne01 e.symm
        have ne02 : ¬ g0 = g2 := HG7.out.ne.2.1
        have ne12 : ¬ g1 = g2 := HG7.out.ne.2.2.2.1
        go_wp2
        go_ret
        rw [HP1.out]
        exact ⟨rfl, _, (HG7.out.set0 p1).set1 f1⟩
      · skip
        go_simp
        (obtain ⟨w5, hw5⟩ : ∃ q, (w3.alloc (.cells #[.int .i64 (b : Int), .int .i64 kd, .int .i64 (f : Int), .int .i64 (f1 : Int)] 67)).drew = q := ⟨_, rfl⟩; rw [hw5]; have HG5 : Hid (GS B W w5 g0 g1 g2 g3 b f n (.slice va i vc) i l0) := Lib.hid (by rw [← hw5]; exact HG3.out.keep (bdrew0 w3 _)); have HL5 : Hid (w5.heap[w3.heap.size]? = some (.cells (pL c).toArray 67 (0, 0))) := Lib.hid (by rw [← hw5, HPC.out]; exact heap_alloc_last w3 _); have d5 := HG5.out.cells.2.2.2; have hN := (let c := HG5.out.cells; (⟨c.1, c.2.1, c.2.2.1⟩ : (w5.cell? ⟨g0, 0, none⟩ = some (.int .i64 (b : Int)) ∧ w5.cell? ⟨g1, 0, none⟩ = some (.int .i64 (f : Int)) ∧ w5.cell? ⟨g2, 0, none⟩ = some (.int .i64 (n : Int))))); clear hw5)
        refine hK.out _ _ ?_ (fun hS1 => ?_)
        · (first | exact hN | exact hS)
        clear hK K hS; have hS := hS1; clear hS1
        (try simp only [Act.put, List.setIfInBounds_toArray, List.set_cons_zero, List.set_cons_succ])
        refine rg_one 0 ({ dst := some 15, op := Op.load 63 (Operand.tmp 3), type := 63, pos := "cut.go:22", after := #[], guard := none } : Oper) (by kernel_rfl) rfl (fun K hK => ?_)
        go_simp
        refine hK.out _ _ ?_ (fun hS1 => ?_)
        · (first | exact hN | exact hS)
        clear hK K hS; have hS := hS1; clear hS1
        (try simp only [Act.put, List.setIfInBounds_toArray, List.set_cons_zero, List.set_cons_succ])
        refine rg_one 13 ({ dst := some 28, op := Op.call { callee := Callee.builtin Builtin.append, args := #[Operand.tmp 15, Operand.tmp 27], argTypes := #[63, 63] }, type := 63, pos := "cut.go:22", after := #[{ on := 0, ground := Ground.data }, { on := 12, ground := Ground.data }, { on := 8, ground := Ground.chain }], guard := none } : Oper) (by kernel_rfl) rfl (fun K hK => ?_)
        (rw [if_pos (by rfl)]; refine wp_app_pc (.tmp 15) (.tmp 27) rfl B (.slice va i vc) i l0 rfl HG5.out.own w3.heap.size c rfl HL5.out (by omega) (Nat.le_trans HG5.out.base HG5.out.below.size) ?_; intro v6 w6 HO6 HQ6; rw [HFN.out] at HO6; obtain ⟨a6, c6, rfl⟩ := own_form HO6.out; obtain ⟨q0, q1, q2, q3, q4⟩ := HG5.out.mid HQ6.out; clear hN; have hN := (⟨q0, q1, q2⟩ : (w6.cell? ⟨g0, 0, none⟩ = some (.int .i64 (b : Int)) ∧ w6.cell? ⟨g1, 0, none⟩ = some (.int .i64 (f : Int)) ∧ w6.cell? ⟨g2, 0, none⟩ = some (.int .i64 (n : Int)))))
        refine hK.out _ _ ?_ (fun hS1 => ?_)
        · (first | exact hN | exact hS)
        clear hK K hS; have hS := hS1; clear hS1
        (try simp only [Act.put, List.setIfInBounds_toArray, List.set_cons_zero, List.set_cons_succ])
        refine rg_one 14 ({ dst := none, op := Op.store 63 (Operand.tmp 3) (Operand.tmp 28), type := 0, pos := "cut.go:22", after := #[{ on := 13, ground := Ground.data }, { on := 13, ground := Ground.chain }, { on := 0, ground := Ground.phase }, { on := 1, ground := Ground.phase }, { on := 2, ground := Ground.phase }, { on := 3, ground := Ground.phase }, { on := 4, ground := Ground.phase }, { on := 5, ground := Ground.phase }, { on := 6, ground := Ground.phase }, { on := 7, ground := Ground.phase }, { on := 8, ground := Ground.phase }, { on := 9, ground := Ground.phase }, { on := 10, ground := Ground.phase }, { on := 11, ground := Ground.phase }, { on := 12, ground := Ground.phase }, { on := 13, ground := Ground.phase }], guard := none } : Oper) (by kernel_rfl) rfl (fun K hK => ?_)
        go_simp
        (obtain ⟨w7, hw7⟩ : ∃ q, w6.setCell ⟨g3, 0, none⟩ (.slice a6 (i + 1) c6) = q := ⟨_, rfl⟩; rw [hw7]; have HG7 : Hid (GS B W w7 g0 g1 g2 g3 b f n (.slice a6 (i + 1) c6) (i + 1) l1) := Lib.hid (by rw [← hw7]; exact HG5.out.turn HO6.out HQ6.out); clear hN; have hN := (let c := HG7.out.cells; (⟨c.1, c.2.1, c.2.2.1⟩ : (w7.cell? ⟨g0, 0, none⟩ = some (.int .i64 (b : Int)) ∧ w7.cell? ⟨g1, 0, none⟩ = some (.int .i64 (f : Int)) ∧ w7.cell? ⟨g2, 0, none⟩ = some (.int .i64 (n : Int))))); clear hw7 q0 q1 q2 q3 q4 d5)
        refine hK.out _ _ ?_ (fun hS1 => ?_)
        · (first | exact hN | exact hS)
        clear hK K hS; have hS := hS1; clear hS1
        (try simp only [Act.put])
        refine wpAnyH_done (by kernel_rfl) ?_ _
        clear hS hN HG3 HG4 e3 d3 HK HL5
        obtain ⟨r0, r1, r2, r3⟩ := HG7.out.cells
        obtain ⟨t0, t1, t3⟩ := HG7.out.frozen
        have ne01 : ¬ g0 = g1 := HG7.out.ne.1
        have ne10 : ¬ g1 = g0 := fun e => ne01 e.symm
        have ne02 : ¬ g0 = g2 := HG7.out.ne.2.1
        have ne12 : ¬ g1 = g2 := HG7.out.ne.2.2.2.1
        go_wp2
        go_ret
        rw [HP1.out]
        exact ⟨rfl, _, (HG7.out.set0 p1).set1 f1⟩
end Go.Proofs.YtepaghohojomeaaDoor
/-
  WHAT THE PROGRAM'S OWN Cut OF LAYER 14 ANSWERS, of any place and any number. No condition.
-/
namespace Go.Proofs.YtepaghohojomeaaDoor
open Go.RowKit
theorem mf_run (fn : Fn) (first cap : Array Value) (w : World) : (Instr.makeFunc fn first cap).run Tryd.prog w = .ok (.func fn first cap) w := rfl
/-- how far a place in a cell is from the body's end -/
def mz : Option Value → Nat
  | some (.int _ x) => (832 - x).toNat
  | _ => 0
/-- the variables, just made -/
theorem GS.start (w w1 : World) (x n : Int) (hb : Below ((w.alloc (.cells #[.int .i64 x] 3)).alloc (.cells #[.int .i64 n] 3)).heap.size ((w.alloc (.cells #[.int .i64 x] 3)).alloc (.cells #[.int .i64 n] 3)) w1) :
    GS w.heap.size w ((w1.alloc (.cells #[.slice none 0 0] 63)).alloc (.cells #[.int .i64 0] 3)) w.heap.size (w1.heap.size + 1) (w.heap.size + 1) w1.heap.size x 0 n (.slice none 0 0) 0 [] := by
  obtain ⟨v1, hv1⟩ : ∃ q, w.alloc (.cells #[.int .i64 x] 3) = q := ⟨_, rfl⟩
  have e1 : v1.heap.size = w.heap.size + 1 := by rw [← hv1]; simp
  have a0 : v1.heap[w.heap.size]? = some (.cells #[.int .i64 x] 3 (0, 0)) := by rw [← hv1]; exact heap_alloc_last w _
  have b1 : Below w.heap.size w v1 := by rw [← hv1]; exact balloc w _
  rw [hv1] at hb
  obtain ⟨v2, hv2⟩ : ∃ q, v1.alloc (.cells #[.int .i64 n] 3) = q := ⟨_, rfl⟩
  have e2 : v2.heap.size = w.heap.size + 2 := by rw [← hv2]; simp [e1]
  have a1 : v2.heap[w.heap.size]? = some (.cells #[.int .i64 x] 3 (0, 0)) := by rw [← hv2]; exact ((balloc v1 _).block _ (by omega)).trans a0
  have a2 : v2.heap[w.heap.size + 1]? = some (.cells #[.int .i64 n] 3 (0, 0)) := by rw [← hv2, ← e1]; exact heap_alloc_last v1 _
  have b2 : Below w.heap.size w v2 := by rw [← hv2]; exact bch b1 (balloc v1 _)
  rw [hv2] at hb
  have hs1 := hb.size
  have a3 := (hb.block w.heap.size (by omega)).trans a1
  have a4 := (hb.block (w.heap.size + 1) (by omega)).trans a2
  obtain ⟨v3, hv3⟩ : ∃ q, w1.alloc (.cells #[.slice none 0 0] 63) = q := ⟨_, rfl⟩
  have e3 : v3.heap.size = w1.heap.size + 1 := by rw [← hv3]; simp
  have hb3 : Below w1.heap.size w1 v3 := by rw [← hv3]; exact balloc w1 _
  have a5 := (hb3.block w.heap.size (by omega)).trans a3
  have a6 := (hb3.block (w.heap.size + 1) (by omega)).trans a4
  have a7 : v3.heap[w1.heap.size]? = some (.cells #[.slice none 0 0] 63 (0, 0)) := by rw [← hv3]; exact heap_alloc_last w1 _
  rw [hv3]
  have hb4 := balloc v3 (.cells #[.int .i64 0] 3)
  refine ⟨bch (bch (bch b2 hb) hb3) hb4, Nat.le_refl _, by omega, by omega, (hb4.block _ (by omega)).trans a5, ?_, (hb4.block _ (by omega)).trans a6, (hb4.block _ (by omega)).trans a7, World.ownsRow_nil _ _ _ _⟩
  rw [← e3]
  exact heap_alloc_last v3 _
set_option maxRecDepth 8000 in
set_option maxHeartbeats 4000000 in
theorem cut_no (x n : Int) (hx : I63 x) (hf : fitI x n = false) (w : World) : Calls Tryd.prog 63 #[.int .i64 x, .int .i64 n] w fun e w' => e = .returned (.tuple #[.slice none 0 0, .int .i64 0, .bool false]) ∧ Below w.heap.size w w' := by
  have H1 : Hid (∀ w, Calls Tryd.prog 80 #[.int .i64 x, .int .i64 n] w fun e w' => e = .returned (.bool false) ∧ Below w.heap.size w w') := fun w => by
    have := fits_any x n hx w; rwa [hf] at this
  clear hf hx
  go_enter Tryd.func63, Tryd.ntmps63
  go_wp2_with (first
    | (go_at_call 80; (with_reducible refine (H1.out _).mono ?_); rintro e w1 ⟨rfl, hb⟩; have HB1 := Lib.hid (bch (bch (balloc w _) (balloc _ _)) hb); clear hb))
  go_ret3
  exact ⟨rfl, HB1.out⟩
set_option maxRecDepth 8000 in
set_option maxHeartbeats 4000000 in
theorem cut_yes (x : Int) (n m : Nat) (hx : I63 x) (hn : n ≤ 832) (hc : Cuts (nr x) n m) (hft : Fit (nr x) n) (w : World) : Calls Tryd.prog 63 #[.int .i64 x, .int .i64 (n : Int)] w fun e w' =>
    ∃ v, e = .returned (.tuple #[v, .int .i64 (pS (nr x) n m : Int), .bool true]) ∧ w'.ownsRow w.heap.size 67 4 v m (pF (firstP (nr x) n m)) ∧ Below w.heap.size w w' := by
  have H1 : Hid (∀ w, Calls Tryd.prog 80 #[.int .i64 x, .int .i64 (n : Int)] w fun e w' => e = .returned (.bool true) ∧ Below w.heap.size w w') := fun w => by
    have := fits_any x n hx w; rwa [(fit_nat x n).2 hft] at this
  have HA := Lib.hid (nr_le x)
  have HX := Lib.hid hx
  have HF := Lib.hid hft
  have HC := Lib.hid hc
  have HN := Lib.hid hn
  obtain ⟨a, ha⟩ : ∃ a, nr x = a := ⟨_, rfl⟩
  have HAX := Lib.hid ha
  rw [ha] at HA HC HF
  rw [ha]
  clear ha hft hc hn hx
  have hmf := mf_run
  go_enter Tryd.func63, Tryd.ntmps63
  go_wp2_with (first
    | (go_at_call 80; (with_reducible refine (H1.out _).mono ?_); rintro e w1 ⟨rfl, hb⟩; have HB0 := Lib.hid hb; clear hb))
  have HG0 : Hid (GS w.heap.size w ((w1.alloc (.cells #[.slice none 0 0] 63)).alloc (.cells #[.int .i64 0] 3)) w.heap.size (w1.heap.size + 1) (w.heap.size + 1) w1.heap.size x 0 (n : Int) (.slice none 0 0) 0 []) := Lib.hid (GS.start w w1 x n HB0.out)
  obtain ⟨w2, hw2⟩ : ∃ q, (w1.alloc (.cells #[.slice none 0 0] 63)).alloc (.cells #[.int .i64 0] 3) = q := ⟨_, rfl⟩
  rw [hw2] at HG0 ⊢
  obtain ⟨g2, hg2⟩ : ∃ g, w.heap.size + 1 = g := ⟨_, rfl⟩
  obtain ⟨g3, hg3⟩ : ∃ g, w1.heap.size = g := ⟨_, rfl⟩
  obtain ⟨g1, hg1⟩ : ∃ g, w1.heap.size + 1 = g := ⟨_, rfl⟩
  rw [hg1, hg2, hg3] at HG0 ⊢
  clear hw2 hg2 hg3 hg1 HB0 H1
  go_loopw [] (fun wr => ∃ (i : Nat) (p : Int) (v : Value), Hid (I63 p ∧ nr p = pS a n i ∧ Run a n i ∧ (i = 0 ∨ fS a n i < n)) ∧ Hid (GS w.heap.size w wr w.heap.size g1 g2 g3 p (fS a n i : Nat) (n : Int) v i (firstP a n i))) (fun wr => mz (wr.cell? ⟨w.heap.size, 0, none⟩))
  case atStart => exact ⟨0, x, _, ⟨HX.out, HAX.out, Run.zero HA.out, .inl rfl⟩, HG0⟩
  case round =>
    obtain ⟨i, p, v, HR, HG⟩ := hrel
    obtain ⟨hp, hpn, hr, hi⟩ := HR.out
    have hb := hr.go hi HF.out
    have hst := hr.step hb
    have hrn := hr.next hi hb
    have hi7 : i ≤ 1000 := by have := hr.p_ge; have := hr.p_le; omega
    have HGT := Lib.hid (gather_any w.heap.size w wr w.heap.size g1 g2 g3 p v a n i hp hpn hst HN.out hi7 HG.out)
    have HM : Hid ((832 - (pS a n (i + 1) : Int)).toNat < (832 - p).toNat) := Lib.hid (by
      have h1 := hst.p_eq
      have h2 := hrn.p_le
      have h3 : pS a n i ≤ bS a n i := by unfold bS beginN; split <;> omega
      have h4 : p ≤ (nr p : Int) ∨ 832 ≤ p := by unfold nr; omega
      have h5 := hr.begin_le
      rcases h4 with h4 | h4
      · omega
      · have h6 : nr p = 832 := by unfold nr; omega
        omega)
    have HRN := Lib.hid hrn
    have HCN : Hid (¬ fS a n (i + 1) < n → i + 1 = m) := Lib.hid (fun hlt => by
      have := (hrn.end_ HA.out (by omega) (by have := hrn.f_le; omega)).2
      rw [cnt_eq HC.out] at this
      exact this.symm)
    clear hp hpn hr hi hb hst hrn hi7
    by_cases hlt : fS a n (i + 1) < n
    · have HLT := Lib.hid hlt
      rw [decide_eq_true hlt] at HGT
      clear hlt HCN
      go_wp2_with (first
        | (go_at_call 81; (with_reducible refine (HGT.out).mono ?_); rintro e w3 ⟨rfl, v3, hg⟩; have HG3 := Lib.hid hg; clear hg))
      go_roundw
      case rel => exact ⟨i + 1, _, v3, Lib.hid ⟨by unfold I63; have := HRN.out.p_le; omega, nr_nat _ HRN.out.p_le, HRN.out, .inr HLT.out⟩, HG3⟩
      case measure =>
        have h1 := HG.out.cells.1
        have h2 := HG3.out.cells.1
        rw [h1, h2]
        exact HM.out
    · have hm := HCN.out hlt
      subst hm
      rw [decide_eq_false hlt] at HGT
      clear hlt HCN
      go_wp2_with (first
        | (go_at_call 81; (with_reducible refine (HGT.out).mono ?_); rintro e w3 ⟨rfl, v3, hg⟩; have HG3 := Lib.hid hg; clear hg))
      obtain ⟨a3, c3, rfl⟩ := own_form HG3.out.own
      have d0 := HG3.out.cells.1
      have d3 := HG3.out.cells.2.2.2
      refine wp_region_held_drew (S := (fun w' => w'.cell? ⟨w.heap.size, 0, none⟩ = some (.int .i64 (pS a n (i + 1) : Int)) ∧ w'.cell? ⟨g3, 0, none⟩ = some (.slice a3 (i + 1) c3))) (by kernel_rfl) (let c := (HG3.out.keep ((Below.refl _ _).drew)).cells; ⟨c.1, c.2.2.2⟩) (fun hS => ?_)
      refine wpAnyH_take (i := 0) (oi := ({ dst := some 17, op := Op.load 63 (Operand.tmp 7), type := 63, pos := "cut.go:28", after := #[], guard := none } : Oper)) (v := ?_) rfl (by kernel_rfl) (by kernel_rfl) (by kernel_rfl) (fun _ _ _ h => h) (Or.inl ⟨by rfl, ?_⟩) hS ?_
      rotate_left
      · (intro w hSw; (try dsimp only at hSw); go_simp; try with_reducible rfl)
      (try simp only [Act.put, List.setIfInBounds_toArray, List.set_cons_zero, List.set_cons_succ])
      refine wpAnyH_take (i := 1) (oi := ({ dst := some 18, op := Op.load 3 (Operand.tmp 2), type := 3, pos := "cut.go:28", after := #[{ on := 2, ground := Ground.gcOnly Departure.lateStores }], guard := none } : Oper)) (v := ?_) rfl (by kernel_rfl) (by kernel_rfl) (by kernel_rfl) (fun _ _ _ h => h) (Or.inl ⟨by rfl, ?_⟩) hS ?_
      rotate_left
      · (intro w hSw; (try dsimp only at hSw); go_simp; try with_reducible rfl)
      (try simp only [Act.put, List.setIfInBounds_toArray, List.set_cons_zero, List.set_cons_succ])
      refine wpAnyH_take (i := 2) (oi := ({ dst := some 4, op := Op.assign (Operand.tmp 17), type := 63, pos := "cut.go:28", after := #[{ on := 0, ground := Ground.data }, { on := 0, ground := Ground.phase }, { on := 1, ground := Ground.textOnly Departure.lateStores }], guard := none } : Oper)) (v := ?_) rfl (by kernel_rfl) (by kernel_rfl) (by kernel_rfl) (fun _ _ _ h => h) (Or.inl ⟨by rfl, ?_⟩) hS ?_
      rotate_left
      · (intro w hSw; (try dsimp only at hSw); go_simp; try with_reducible rfl)
      (try simp only [Act.put, List.setIfInBounds_toArray, List.set_cons_zero, List.set_cons_succ])
      refine wpAnyH_take (i := 3) (oi := ({ dst := some 5, op := Op.assign (Operand.tmp 18), type := 3, pos := "cut.go:28", after := #[{ on := 1, ground := Ground.data }, { on := 2, ground := Ground.chain }, { on := 0, ground := Ground.phase }, { on := 1, ground := Ground.phase }, { on := 2, ground := Ground.phase }], guard := none } : Oper)) (v := ?_) rfl (by kernel_rfl) (by kernel_rfl) (by kernel_rfl) (fun _ _ _ h => h) (Or.inl ⟨by rfl, ?_⟩) hS ?_
      rotate_left
      · (intro w hSw; (try dsimp only at hSw); go_simp; try with_reducible rfl)
      (try simp only [Act.put, List.setIfInBounds_toArray, List.set_cons_zero, List.set_cons_succ])
      refine wpAnyH_take (i := 4) (oi := ({ dst := some 6, op := Op.assign (Operand.const (Value.bool true)), type := 4, pos := "cut.go:28", after := #[{ on := 3, ground := Ground.chain }, { on := 0, ground := Ground.phase }, { on := 1, ground := Ground.phase }, { on := 2, ground := Ground.phase }, { on := 3, ground := Ground.phase }], guard := none } : Oper)) (v := ?_) rfl (by kernel_rfl) (by kernel_rfl) (by kernel_rfl) (fun _ _ _ h => h) (Or.inl ⟨by rfl, ?_⟩) hS ?_
      rotate_left
      · (intro w hSw; (try dsimp only at hSw); go_simp; try with_reducible rfl)
      (try simp only [Act.put, List.setIfInBounds_toArray, List.set_cons_zero, List.set_cons_succ])
      refine wpAnyH_done (by kernel_rfl) ?_ _
      clear hS
      go_wp2
      go_ret3
      exact ⟨_, rfl, HG3.out.own.drew, HG3.out.below.drew⟩
/-- whatever comes in -/
theorem cut_any (x n : Int) (hx : I63 x) (w : World) : Calls Tryd.prog 63 #[.int .i64 x, .int .i64 n] w fun e w' =>
    ∃ v, e = .returned (.tuple #[v, .int .i64 (endI x n : Int), .bool (fitI x n)]) ∧ w'.ownsRow w.heap.size 67 4 v (pcsI x n).length (pF (pcsI x n)) ∧ Below w.heap.size w w' := by
  by_cases hf : fitI x n = true
  · obtain ⟨k, m, rfl, hk, _, hc, hft⟩ := told_of hf
    obtain ⟨h1, h2, h3⟩ := told_yes hc hft
    rw [h1, h2, h3, firstP_len]
    exact cut_yes x k m hx hk hc hft w
  · have hf : fitI x n = false := by simpa using hf
    obtain ⟨h1, h2⟩ := told_no hf
    rw [h1, h2, hf]
    exact (cut_no x n hx hf w).mono fun e w' ⟨he, hb⟩ => ⟨_, he, World.ownsRow_nil _ _ _ _, hb⟩
end Go.Proofs.YtepaghohojomeaaDoor
/-
  WHAT THE PROGRAM'S OWN Frags OF LAYER 14 ANSWERS, of any epoch, place and bytes. Bytes must lie where the slice says.
-/
namespace Go.Proofs.YtepaghohojomeaaDoor
open Go.RowKit
noncomputable def fragsI (ep x : Int) (zs : List Int) : List FR := (pcsI x zs.length).map (frOf ep zs)
abbrev pA (p : PC) : Array Value := #[.int .i64 p.at_, .int .i64 p.kind, .int .i64 p.from_, .int .i64 p.to]
theorem pA_info (p : PC) : (Tryd.prog.info? 67).map (·.size) = some (pA p).size := pc_info
theorem pA_one (p : PC) : (pA p).all (·.oneCell') = true := by simp [pA, Value.oneCell']
theorem pc_blk {w : World} {g : Nat} {p : PC} (h : w.heap[g]? = some (.cells (pA p) 67 (0, 0))) : w.cell? ⟨g, 1, none⟩ = some (.int .i64 p.kind) ∧ w.cell? ⟨g, 2, none⟩ = some (.int .i64 p.from_) ∧ w.cell? ⟨g, 3, none⟩ = some (.int .i64 p.to) :=
  ⟨cell_of_row w g 1 _ _ _ h, cell_of_row w g 2 _ _ _ h, cell_of_row w g 3 _ _ _ h⟩
set_option maxRecDepth 8000 in
set_option maxHeartbeats 4000000 in
theorem frags_any (ep x : Int) (dv : Value) (n : Nat) (zs : List Int) (hx : I63 x) (w : World) (hri : RI .u8 w dv n zs) :
    Calls Tryd.prog 64 #[.int .u32 ep, .int .i64 x, dv] w fun e w' =>
      ∃ v es, e = .returned (.tuple #[v, .bool (fitI x n)]) ∧ FL w.heap.size w' v es.length es ∧ es.map Prod.fst = fragsI ep x zs ∧ Below w.heap.size w w' := by
  have hzl := hri.length
  have HC : Hid (∀ w, Calls Tryd.prog 63 #[.int .i64 x, .int .i64 (n : Int)] w fun e w' =>
    ∃ v, e = .returned (.tuple #[v, .int .i64 (endI x n : Int), .bool (fitI x n)]) ∧ w'.ownsRow w.heap.size 67 4 v (pcsI x n).length (pF (pcsI x n)) ∧ Below w.heap.size w w') := fun w => cut_any x n hx w
  have HPC : Hid (∀ (i : Nat) (c : PC), (pcsI x n)[i]? = some c → ∃ l k : Nat, c.from_ = (l : Int) ∧ c.to = ((l + k : Nat) : Int) ∧ ((l + k : Nat) : Int) ≤ n ∧ l + k ≤ 832) := Lib.hid fun i c h => pc_ok h
  have HFI : Hid (fragsI ep x zs = (pcsI x n).map (frOf ep zs)) := Lib.hid (by unfold fragsI; rw [hzl])
  have hpl := pcs_len x n
  have HR := Lib.hid hri
  have HZL := Lib.hid hzl
  obtain ⟨da, dc, rfl, _, hdc, hdm, _⟩ := hri
  generalize fragsI ep x zs = fi at *
  generalize pcsI x n = ps at *
  generalize endI x n = en at *
  generalize fitI x n = fit at *
  obtain ⟨m, hm⟩ : ∃ m, ps.length = m := ⟨_, rfl⟩
  rw [hm] at HC hpl
  have HM := Lib.hid hm
  clear hx hzl hm
  go_enter Tryd.func64, Tryd.ntmps64
  go_wp2_with (first
    | (go_at_call 63; (with_reducible refine (HC.out _).mono ?_); rintro e w1 ⟨v1, rfl, ho, hb⟩; obtain ⟨a1, c1, rfl⟩ := own_form ho; have HO1 := Lib.hid ho; have HB1 := Lib.hid hb; clear ho hb))
  go_loopw [11, 24] (fun lv iv wr => ∃ (i : Nat) (va : Option Addr) (vc : Nat) (es : List (FR × Value)), iv = .int .i64 (i : Int) ∧ lv = .slice va i vc ∧ i ≤ m ∧ Hid (FL w.heap.size wr (.slice va i vc) i es) ∧ Hid (es.map Prod.fst = (ps.take i).map (frOf ep zs)) ∧ Hid (wr.ownsRow w.heap.size 67 4 (.slice a1 m c1) m (pF ps)) ∧ Hid (Below w.heap.size w wr)) (fun _ iv _ => m - (intOf iv).toNat)
  case atStart => exact ⟨0, none, 0, [], rfl, rfl, by omega, Lib.hid (FL.nil _ _), Lib.hid (by simp), HO1, HB1⟩
  case round =>
    obtain ⟨i, va, vc, es, rfl, rfl, him, HFL, HES, HO, HB⟩ := hrel
    by_cases hlt : (i : Int) < (m : Int)
    · have hci : ps[i]? = some (ps[i]'(by have := HM.out; omega)) := List.getElem?_eq_getElem _
      obtain ⟨c, hc⟩ : ∃ c, ps[i]'(by have := HM.out; omega) = c := ⟨_, rfl⟩
      rw [hc] at hci
      have HCI := Lib.hid hci
      obtain ⟨l, k, hl, hk, hkn, hk8⟩ := HPC.out i c hci
      have HPS : Hid (PS wr (.slice a1 m c1) ps) := Lib.hid (PS.own (by rw [HM.out]; exact HO.out))
      obtain ⟨b1, o1, rfl, r1⟩ := HPS.out.at_ i c hci
      have HR1 := Lib.hid r1
      have HFD := Lib.hid (frOf_data (ep := ep) (zs := zs) hl hk)
      obtain ⟨ca, kd, cf, ct⟩ := c
      obtain rfl : cf = (l : Int) := hl
      obtain ⟨h, hh⟩ : ∃ h, l + k = h := ⟨_, rfl⟩
      have HH := Lib.hid hh
      rw [hh] at hk hkn hk8
      obtain rfl : ct = (h : Int) := hk
      have hln : (l : Int) ≤ h := by omega
      have hkl : (k : Int) ≤ 832 := by omega
      obtain ⟨q, qc, hsl⟩ := sliced_form da l k dc 1
      have HRC := Lib.hid (HR.out.cut l k dc (by omega) (by omega) (Nat.le_refl _))
      rw [hsl] at HRC
      have HSL := Lib.hid hsl
      have HDC : Hid (l + k ≤ dc ∧ l + k ≤ n) := Lib.hid (by omega)
      clear hci hc r1 hsl hh
      go_wp2_with (first
        | (refine wpl_load_pc rfl (.tmp 26) rfl rfl HR1.out ?_)
        | (refine wpList_store_row rfl 67 _ _ rfl wr.heap.size (pA ⟨ca, kd, l, h⟩) rfl rfl _ _ (heap_alloc_last wr _) (pA_info _) rfl (pA_one _) ?_))
      obtain ⟨w5, hw5⟩ : ∃ q, (wr.alloc (.cells (pA ⟨0, 0, 0, 0⟩) 67)).setRow wr.heap.size (pA ⟨ca, kd, l, h⟩) = q := ⟨_, rfl⟩
      rw [hw5]
      obtain ⟨g, hg⟩ : ∃ g, wr.heap.size = g := ⟨_, rfl⟩
      rw [hg]
      have hb5 : Below wr.heap.size wr w5 := by rw [← hw5]; exact bnew wr _ _
      have HK5 : Hid (w5.heap[g]? = some (.cells (pA ⟨ca, kd, l, h⟩) 67 (0, 0))) := Lib.hid (by rw [← hw5, ← hg]; exact setRow_heap _ _ _ _ _ _ (heap_alloc_last wr _))
      have HB5 := Lib.hid (bch HB.out hb5)
      have HFL5 := Lib.hid (HFL.out.keep hb5)
      have HO5 := Lib.hid (own_keep HO.out hb5)
      clear hb5 hw5 hg HR1 HPS HFL HO
      refine wp_region_held_drew (S := (fun w' => w'.cell? ⟨g, 1, none⟩ = some (.int .i64 kd) ∧ w'.cell? ⟨g, 2, none⟩ = some (.int .i64 (l : Int)) ∧ w'.cell? ⟨g, 3, none⟩ = some (.int .i64 (h : Int)))) (by kernel_rfl) (let z := pc_blk (((Below.refl w5.heap.size w5).drew.block g (Array.getElem?_eq_some_iff.1 HK5.out).1).trans HK5.out); ⟨z.1, z.2.1, z.2.2⟩) (fun hS => ?_)
      refine wpAnyH_take (i := 0) (oi := ({ dst := some 28, op := Op.move (Operand.tmp 11), type := 123, pos := "cut.go:53", after := #[], guard := none } : Oper)) (v := ?_) rfl (by kernel_rfl) (by kernel_rfl) (by kernel_rfl) (fun _ _ _ h => h) (Or.inl ⟨by rfl, ?_⟩) hS ?_
      rotate_left
      · (intro w hSw; (try dsimp only at hSw); go_simp; try with_reducible rfl)
      (try simp only [Act.put, List.setIfInBounds_toArray, List.set_cons_zero, List.set_cons_succ])
      refine wpAnyH_take (i := 1) (oi := ({ dst := some 29, op := Op.fieldAddr 67 (Operand.tmp 13) 1, type := 0, pos := "cut.go:53", after := #[], guard := none } : Oper)) (v := ?_) rfl (by kernel_rfl) (by kernel_rfl) (by kernel_rfl) (fun _ _ _ h => h) (Or.inl ⟨by rfl, ?_⟩) hS ?_
      rotate_left
      · (intro w hSw; (try dsimp only at hSw); go_simp; try with_reducible rfl)
      (try simp only [Act.put, List.setIfInBounds_toArray, List.set_cons_zero, List.set_cons_succ])
      refine wpAnyH_take (i := 2) (oi := ({ dst := some 30, op := Op.load 3 (Operand.tmp 29), type := 3, pos := "cut.go:53", after := #[{ on := 1, ground := Ground.data }], guard := none } : Oper)) (v := ?_) rfl (by kernel_rfl) (by kernel_rfl) (by kernel_rfl) (fun _ _ _ h => h) (Or.inl ⟨by rfl, ?_⟩) hS ?_
      rotate_left
      · (intro w hSw; (try dsimp only at hSw); go_simp; try with_reducible rfl)
      (try simp only [Act.put, List.setIfInBounds_toArray, List.set_cons_zero, List.set_cons_succ])
      refine wpAnyH_take (i := 3) (oi := ({ dst := some 31, op := Op.move (Operand.tmp 0), type := 68, pos := "cut.go:53", after := #[], guard := none } : Oper)) (v := ?_) rfl (by kernel_rfl) (by kernel_rfl) (by kernel_rfl) (fun _ _ _ h => h) (Or.inl ⟨by rfl, ?_⟩) hS ?_
      rotate_left
      · (intro w hSw; (try dsimp only at hSw); go_simp; try with_reducible rfl)
      (try simp only [Act.put, List.setIfInBounds_toArray, List.set_cons_zero, List.set_cons_succ])
      refine wpAnyH_take (i := 4) (oi := ({ dst := some 32, op := Op.move (Operand.tmp 2), type := 43, pos := "cut.go:53", after := #[], guard := none } : Oper)) (v := ?_) rfl (by kernel_rfl) (by kernel_rfl) (by kernel_rfl) (fun _ _ _ h => h) (Or.inl ⟨by rfl, ?_⟩) hS ?_
      rotate_left
      · (intro w hSw; (try dsimp only at hSw); go_simp; try with_reducible rfl)
      (try simp only [Act.put, List.setIfInBounds_toArray, List.set_cons_zero, List.set_cons_succ])
      refine wpAnyH_take (i := 5) (oi := ({ dst := some 33, op := Op.fieldAddr 67 (Operand.tmp 13) 2, type := 0, pos := "cut.go:53", after := #[], guard := none } : Oper)) (v := ?_) rfl (by kernel_rfl) (by kernel_rfl) (by kernel_rfl) (fun _ _ _ h => h) (Or.inl ⟨by rfl, ?_⟩) hS ?_
      rotate_left
      · (intro w hSw; (try dsimp only at hSw); go_simp; try with_reducible rfl)
      (try simp only [Act.put, List.setIfInBounds_toArray, List.set_cons_zero, List.set_cons_succ])
      refine wpAnyH_take (i := 6) (oi := ({ dst := some 34, op := Op.load 3 (Operand.tmp 33), type := 3, pos := "cut.go:53", after := #[{ on := 5, ground := Ground.data }], guard := none } : Oper)) (v := ?_) rfl (by kernel_rfl) (by kernel_rfl) (by kernel_rfl) (fun _ _ _ h => h) (Or.inl ⟨by rfl, ?_⟩) hS ?_
      rotate_left
      · (intro w hSw; (try dsimp only at hSw); go_simp; try with_reducible rfl)
      (try simp only [Act.put, List.setIfInBounds_toArray, List.set_cons_zero, List.set_cons_succ])
      refine wpAnyH_take (i := 7) (oi := ({ dst := some 35, op := Op.fieldAddr 67 (Operand.tmp 13) 3, type := 0, pos := "cut.go:53", after := #[], guard := none } : Oper)) (v := ?_) rfl (by kernel_rfl) (by kernel_rfl) (by kernel_rfl) (fun _ _ _ h => h) (Or.inl ⟨by rfl, ?_⟩) hS ?_
      rotate_left
      · (intro w hSw; (try dsimp only at hSw); go_simp; try with_reducible rfl)
      (try simp only [Act.put, List.setIfInBounds_toArray, List.set_cons_zero, List.set_cons_succ])
      refine wpAnyH_take (i := 8) (oi := ({ dst := some 36, op := Op.load 3 (Operand.tmp 35), type := 3, pos := "cut.go:53", after := #[{ on := 7, ground := Ground.data }], guard := none } : Oper)) (v := ?_) rfl (by kernel_rfl) (by kernel_rfl) (by kernel_rfl) (fun _ _ _ h => h) (Or.inl ⟨by rfl, ?_⟩) hS ?_
      rotate_left
      · (intro w hSw; (try dsimp only at hSw); go_simp; try with_reducible rfl)
      (try simp only [Act.put, List.setIfInBounds_toArray, List.set_cons_zero, List.set_cons_succ])
      refine wpAnyH_take (i := 9) (oi := ({ dst := some 37, op := Op.slice 43 (Operand.tmp 32) (some (Operand.tmp 34)) (some (Operand.tmp 36)) none, type := 43, pos := "cut.go:53", after := #[{ on := 4, ground := Ground.data }, { on := 6, ground := Ground.data }, { on := 8, ground := Ground.data }], guard := none } : Oper)) (v := .slice q k qc) rfl (by kernel_rfl) (by kernel_rfl) (by kernel_rfl) (fun _ _ _ h => h) (Or.inl ⟨by rfl, ?_⟩) hS ?_
      · (intro w hSw; (try dsimp only at hSw); exact (exec_cut_lh (.tmp 32) (.tmp 34) (.tmp 36) rfl da n dc l k rfl rfl (by rw [HH.out]; rfl) HDC.out.1).trans (by rw [HSL.out]))
      (try simp only [Act.put, List.setIfInBounds_toArray, List.set_cons_zero, List.set_cons_succ])
      refine rg_one 10 ({ dst := some 38, op := Op.call { callee := Callee.value (Operand.func 83), args := #[Operand.tmp 37], argTypes := #[43] }, type := 43, pos := "cut.go:53", after := #[{ on := 9, ground := Ground.data }], guard := none } : Oper) (by kernel_rfl) rfl (fun K hK => ?_)
      go_simp
      (go_at_call 83; (with_reducible refine (clone_any _ k _ _ (HRC.out.keep (HB5.out.trans ((Below.refl w5.heap.size w5).drew.mono HB5.out.size))) (by omega)).mono ?_); rintro e w6 ⟨v6, rfl, ho6, hb6⟩; have hb56 := (Below.refl w5.heap.size w5).drew.trans hb6; obtain ⟨a6, c6, rfl⟩ := own_form ho6; have HB6 := Lib.hid (bch HB5.out hb56); have HFL6 := Lib.hid (HFL5.out.keep hb56); have HO6 := Lib.hid (own_keep HO5.out hb56); have HD6 := Lib.hid (own_mono ho6 HB5.out.size); have HK6 := Lib.hid ((hb56.block g (Array.getElem?_eq_some_iff.1 HK5.out).1).trans HK5.out); have hN := (let z := pc_blk HK6.out; (⟨z.1, z.2.1, z.2.2⟩ : (w6.cell? ⟨g, 1, none⟩ = some (.int .i64 kd) ∧ w6.cell? ⟨g, 2, none⟩ = some (.int .i64 (l : Int)) ∧ w6.cell? ⟨g, 3, none⟩ = some (.int .i64 (h : Int))))); clear ho6 hb6 hb56)
      refine hK.out _ _ ?_ (fun hS1 => ?_)
      · (exact hN)
      clear hK K hS; have hS := hS1; clear hS1
      (try simp only [Act.put, List.setIfInBounds_toArray, List.set_cons_zero, List.set_cons_succ])
      refine wpAnyH_take (i := 11) (oi := ({ dst := some 39, op := Op.build 70 #[(0, Operand.tmp 30), (1, Operand.tmp 31), (2, Operand.tmp 38)], type := 70, pos := "cut.go:53", after := #[{ on := 2, ground := Ground.data }, { on := 3, ground := Ground.data }, { on := 10, ground := Ground.data }], guard := none } : Oper)) (v := .agg #[.int .i64 kd, .int .u32 ep, .slice a6 k c6]) rfl (by kernel_rfl) (by kernel_rfl) (by kernel_rfl) (fun _ _ _ h => h) (Or.inl ⟨by rfl, ?_⟩) hS ?_
      · (intro w hSw; (try dsimp only at hSw); go_simp)
      (try simp only [Act.put, List.setIfInBounds_toArray, List.set_cons_zero, List.set_cons_succ])
      refine rg_one 12 ({ dst := some 40, op := Op.buildSlice 123 1 #[(0, Operand.tmp 39)], type := 123, pos := "cut.go:53", after := #[{ on := 11, ground := Ground.data }], guard := none } : Oper) (by kernel_rfl) rfl (fun K hK => ?_)
      go_simp
      (obtain ⟨w7, hw7⟩ : ∃ q, w6.alloc (.cells (fA kd ep (.slice a6 k c6)) 70) = q := ⟨_, rfl⟩; rw [hw7]; have hb7 : Below w6.heap.size w6 w7 := hw7 ▸ balloc w6 _; have HL7 : Hid (w7.heap[w6.heap.size]? = some (.cells (fA kd ep (.slice a6 k c6)) 70 (0, 0))) := Lib.hid (by rw [← hw7]; exact heap_alloc_last w6 _); have HB7 := Lib.hid (bch HB6.out hb7); have HFL7 := Lib.hid (HFL6.out.keep hb7); have HO7 := Lib.hid (own_keep HO6.out hb7); have HD7 := Lib.hid (own_keep HD6.out hb7); have HK7 := Lib.hid ((hb7.block g (Array.getElem?_eq_some_iff.1 HK6.out).1).trans HK6.out); clear hN; have hN := (let z := pc_blk HK7.out; (⟨z.1, z.2.1, z.2.2⟩ : (w7.cell? ⟨g, 1, none⟩ = some (.int .i64 kd) ∧ w7.cell? ⟨g, 2, none⟩ = some (.int .i64 (l : Int)) ∧ w7.cell? ⟨g, 3, none⟩ = some (.int .i64 (h : Int))))); clear hb7 hw7)
      refine hK.out _ _ ?_ (fun hS1 => ?_)
      · (exact hN)
      clear hK K hS; have hS := hS1; clear hS1
      (try simp only [Act.put, List.setIfInBounds_toArray, List.set_cons_zero, List.set_cons_succ])
      refine rg_one 13 ({ dst := some 41, op := Op.call { callee := Callee.builtin Builtin.append, args := #[Operand.tmp 28, Operand.tmp 40], argTypes := #[123, 123] }, type := 123, pos := "cut.go:53", after := #[{ on := 0, ground := Ground.data }, { on := 12, ground := Ground.data }, { on := 10, ground := Ground.chain }], guard := none } : Oper) (by kernel_rfl) rfl (fun K hK => ?_)
      (rw [if_pos (by rfl)]; refine wp_app_fr (.tmp 28) (.tmp 40) rfl rfl HFL7.out w6.heap.size (⟨kd, ep, (zs.drop l).take k⟩, .slice a6 k c6) k c6 a6 rfl rfl HL7.out (by rw [show ((zs.drop l).take k).length = k from by rw [List.length_take, List.length_drop]; have := HZL.out; have := HDC.out.2; omega]; exact HD7.out) (by omega) HB7.out.size ?_; intro v8 w8 HFL8 HQ8; obtain ⟨a8, c8, rfl⟩ := own_form HFL8.out.row; have HB8 := Lib.hid (HB7.out.grown HQ8.out HB7.out.size (fun q hq => (HFL7.out.row.lt q hq).1)); have HO8 := Lib.hid (HFL7.out.other HQ8.out HO7.out (by decide)); have HK8 := Lib.hid (HFL7.out.blk HQ8.out HK7.out (by decide)); clear hN; have hN := (let z := pc_blk HK8.out; (⟨z.1, z.2.1, z.2.2⟩ : (w8.cell? ⟨g, 1, none⟩ = some (.int .i64 kd) ∧ w8.cell? ⟨g, 2, none⟩ = some (.int .i64 (l : Int)) ∧ w8.cell? ⟨g, 3, none⟩ = some (.int .i64 (h : Int))))))
      refine hK.out _ _ ?_ (fun hS1 => ?_)
      · (exact hN)
      clear hK K hS; have hS := hS1; clear hS1
      (try simp only [Act.put, List.setIfInBounds_toArray, List.set_cons_zero, List.set_cons_succ])
      refine wpAnyH_take (i := 14) (oi := ({ dst := some 11, op := Op.assign (Operand.tmp 41), type := 123, pos := "cut.go:53", after := #[{ on := 13, ground := Ground.data }, { on := 13, ground := Ground.chain }, { on := 0, ground := Ground.phase }, { on := 1, ground := Ground.phase }, { on := 2, ground := Ground.phase }, { on := 3, ground := Ground.phase }, { on := 4, ground := Ground.phase }, { on := 5, ground := Ground.phase }, { on := 6, ground := Ground.phase }, { on := 7, ground := Ground.phase }, { on := 8, ground := Ground.phase }, { on := 9, ground := Ground.phase }, { on := 10, ground := Ground.phase }, { on := 11, ground := Ground.phase }, { on := 12, ground := Ground.phase }, { on := 13, ground := Ground.phase }], guard := none } : Oper)) (v := ?_) rfl (by kernel_rfl) (by kernel_rfl) (by kernel_rfl) (fun _ _ _ h => h) (Or.inl ⟨by rfl, ?_⟩) hS ?_
      rotate_left
      · (intro w hSw; (try dsimp only at hSw); go_simp; try with_reducible rfl)
      (try simp only [Act.put, List.setIfInBounds_toArray, List.set_cons_zero, List.set_cons_succ])
      refine wpAnyH_done (by kernel_rfl) ?_ _
      clear hS hN
      go_wp2
      go_roundw
      case rel =>
        refine ⟨i + 1, a8, c8, _, by go_num, rfl, by omega, HFL8, Lib.hid ?_, HO8, HB8⟩
        rw [List.map_append, HES.out, List.take_add_one, HCI.out, List.map_append]
        simp [HFD.out]
      case measure => simp [intOf]; omega
    · obtain rfl : i = m := by omega
      go_wp2
      go_ret2
      refine ⟨_, rfl, es, ?_, ?_, HB.out⟩
      · rw [HFL.out.len]; exact HFL.out
      · rw [HFI.out, HES.out, List.take_of_length_le (by rw [HM.out]; omega)]
end Go.Proofs.YtepaghohojomeaaDoor
/-
  LAYER 17 (image): a record in a block (MO), and what cutFrom answers, of any place and any bytes that lie somewhere.
-/
namespace Go.Proofs.YtepaghohojomeaaDoor
open Go.RowKit
abbrev rA (d : Value) (pl : Int) (pv : Value) (bh : Int) : Array Value := #[d, .int .i64 pl, pv, .int .i64 bh]
theorem rec_info (c : Array Value) (h : c.size = 4) : (Tryd.prog.info? 141).map (·.size) = some c.size := by rw [h]; kernel_rfl
theorem rec_one (a a2 : Option Addr) (n m n2 m2 : Nat) (pl bh : Int) : (rA (.slice a n m) pl (.slice a2 n2 m2) bh).all (·.oneCell') = true := by simp [rA, Value.oneCell']
/-- the block b holds a record -/
def MO (w : World) (b : Nat) (d : Value) (pl : Int) (pv : Value) (bh : Int) : Prop := w.heap[b]? = some (.cells (rA d pl pv bh) 141 (0, 0))
section
variable {w w' : World} {b b' : Nat} {d pv : Value} {pl bh : Int}
theorem MO.lt (h : MO w b d pl pv bh) : b < w.heap.size := (Array.getElem?_eq_some_iff.1 h).1
theorem MO.keep (h : MO w b d pl pv bh) (hb : Below w.heap.size w w') : MO w' b d pl pv bh := (hb.block b h.lt).trans h
theorem MO.over (h : MO w b d pl pv bh) {g : Nat} (hg : w.grownBy w' (some g)) (hne : b ≠ g) : MO w' b d pl pv bh := (hg.block b h.lt (fun e => hne (Option.some.inj e))).trans h
theorem MO.cells (h : MO w b d pl pv bh) : w.cell? ⟨b, 0, none⟩ = some d ∧ w.cell? ⟨b, 1, none⟩ = some (.int .i64 pl) ∧ w.cell? ⟨b, 2, none⟩ = some pv ∧ w.cell? ⟨b, 3, none⟩ = some (.int .i64 bh) :=
  ⟨cell_of_row w b 0 _ _ _ h, cell_of_row w b 1 _ _ _ h, cell_of_row w b 2 _ _ _ h, cell_of_row w b 3 _ _ _ h⟩
theorem MO.alloc (w : World) : MO (w.alloc (.cells (rA d pl pv bh) 141)) w.heap.size d pl pv bh := heap_alloc_last w _
theorem MO.new (x : Array Value) : MO ((w.alloc (.cells x 141)).setRow w.heap.size (rA d pl pv bh)) w.heap.size d pl pv bh := setRow_heap _ _ _ _ _ _ (heap_alloc_last w _)
theorem MO.load (h : MO w b d pl pv bh) : (loadVar 141 ⟨b, 0, none⟩).run Tryd.prog w = .ok (.agg (rA d pl pv bh)) w :=
  run_loadVar_row w b _ 141 (rA d pl pv bh) (0, 0) _ h Tryd.underlying141 rfl (rec_info _ rfl)
theorem MO.row (h : MO w b d pl pv bh) (d' pv' : Value) (pl' bh' : Int) : MO (w.setRow b (rA d' pl' pv' bh')) b d' pl' pv' bh' := setRow_heap w b _ _ _ _ h
theorem exec_load_img {o : Oper} {a : Act} (x : Operand) (ho : o.op = .load 141 x) (hx : a.eval x = .pointer (some ⟨b, 0, none⟩)) (h : MO w b d pl pv bh) :
    (execOp a.eval o).run Tryd.prog w = .ok (.value (.agg (rA d pl pv bh))) w := by
  unfold execOp
  simp only [ho, hx, Instr.loadAt, Instr.sureAddr, Sem.run_bind, Sem.run_pure, Result.andThen_ok, h.load]
theorem wpl_load_img {ops : Array Oper} {rest : List Oper} {o : Oper} {a : Act} {Q : Exit → Act → World → Prop} (hw : Region.wanted o (yielded ops a.tmps) = true) (x : Operand) (ho : o.op = .load 141 x) (hx : a.eval x = .pointer (some ⟨b, 0, none⟩)) (h : MO w b d pl pv bh)
    (hk : wpList Tryd.prog ops Q rest (a.put o.dst (.agg (rA d pl pv bh))) w) : wpList Tryd.prog ops Q (o :: rest) a w := by
  unfold wpList
  rw [if_pos hw]
  exact Or.inl (wp_load_row 141 x ho b hx _ (rA d pl pv bh) (0, 0) _ h Tryd.underlying141 rfl (rec_info _ rfl) hk)
end
/-- what cutFrom answers -/
def CutF (x : Int) (dv : Value) (n : Nat) (w : World) (e : Ending) (w' : World) : Prop :=
  ∃ a c, e = .returned (.tuple #[.agg (rA dv (beginN (nr x) : Nat) (.slice a (pcsI x n).length c) (endI x n : Nat)), .bool (fitI x n)]) ∧
    w'.ownsRow w.heap.size 67 4 (.slice a (pcsI x n).length c) (pcsI x n).length (pF (pcsI x n)) ∧ Below w.heap.size w w'
set_option maxRecDepth 8000 in
set_option maxHeartbeats 1000000 in
theorem cutFrom_any (x : Int) (hx : I63 x) (da : Option Addr) (n dc : Nat) (w : World) :
    Calls Tryd.prog 94 #[.int .i64 x, .slice da n dc] w (CutF x (.slice da n dc) n w) := by
  have HC : Hid (∀ w, Calls Tryd.prog 63 #[.int .i64 x, .int .i64 (n : Int)] w fun e w' =>
    ∃ v, e = .returned (.tuple #[v, .int .i64 (endI x n : Int), .bool (fitI x n)]) ∧ w'.ownsRow w.heap.size 67 4 v (pcsI x n).length (pF (pcsI x n)) ∧ Below w.heap.size w w') := fun w => cut_any x n hx w
  have HB : Hid (∀ w, Calls Tryd.prog 47 #[.int .i64 x] w fun e w' => e = .returned (.int .i64 (beginN (nr x) : Int)) ∧ Below w.heap.size w w') := fun w => begin_any x hx w
  unfold CutF
  generalize pcsI x n = ps at *
  generalize endI x n = en at *
  generalize fitI x n = fit at *
  generalize beginN (nr x) = bg at *
  clear hx
  go_enter Tryd.func94, Tryd.ntmps94
  go_wp2_with (first
    | (go_at_call 63; go_loud ((with_reducible refine (HC.out _).mono ?_); rintro e w1 ⟨v1, rfl, ho, hb⟩; obtain ⟨a1, c1, rfl⟩ := own_form ho; have HO1 := Lib.hid ho; have HB1 := Lib.hid (bch (balloc w _) hb); have HR1 := Lib.hid ((MO.alloc (d := .slice none 0 0) (pl := 0) (pv := .slice none 0 0) (bh := 0) w).keep hb); clear ho hb))
    | (go_at_call 47; (with_reducible refine (HB.out _).mono ?_); rintro e w2 ⟨rfl, hb⟩; have HO2 := Lib.hid (own_keep HO1.out hb); have HB2 := Lib.hid (bch HB1.out hb); have HR2 := Lib.hid (HR1.out.keep hb); clear hb)
    | (refine wpList_store_row rfl 141 _ _ rfl w.heap.size (rA (.slice da n dc) bg (.slice a1 ps.length c1) en) rfl rfl _ _ HR2.out (rec_info _ rfl) rfl (rec_one _ _ _ _ _ _ _ _) ?_))
  refine bodyPost_ret_by (results_row_tmp rfl _ _ w.heap.size (.agg (rA (.slice da n dc) bg (.slice a1 ps.length c1) en)) rfl (HR2.out.row (.slice da n dc) (.slice a1 ps.length c1) bg en).load) rfl ?_
  exact ⟨a1, c1, rfl, own_over (own_mono HO2.out (by simp)) (grown_row _ w.heap.size _) (fun g hg e => by have := (HO2.out.lt g hg).1; have := Option.some.inj e; simp at *; omega), brow HB2.out (Nat.le_refl _) (Nat.le_refl _) _⟩
end Go.Proofs.YtepaghohojomeaaDoor
/-
  LAYER 17 (image), the program's own: the function that yields records, what it hands over and what it tells of it.
-/
namespace Go.Proofs.YtepaghohojomeaaDoor
open Go.RowKit
attribute [local go_sem] Oper.semAt_some
noncomputable abbrev aK (ls : List (List Int)) (k : Nat) : Nat := endF (ls.take k)
abbrev nK (ls : List (List Int)) (k : Nat) : Nat := (ls.getD k []).length
noncomputable abbrev psK (ls : List (List Int)) (k : Nat) : List PC := pcsI (aK ls k : Nat) (nK ls k : Nat)
/-- what is handed over: where a record's bytes lie, and its pieces -/
abbrev RecX := (Option Addr × Nat) × (Option Addr × Nat)
noncomputable def encR (ls : List (List Int)) (k : Nat) (x : RecX) : Array Value :=
  #[.agg (rA (.slice x.1.1 (nK ls k) x.1.2) (beginN (aK ls k) : Nat) (.slice x.2.1 (psK ls k).length x.2.2) (endI (aK ls k : Nat) (nK ls k : Nat) : Nat)), .bool (fitI (aK ls k : Nat) (nK ls k : Nat))]
/-- .. and what lies behind it -/
def TR (ls : List (List Int)) (k : Nat) (x : RecX) (W : World) : Prop :=
  RI .u8 W (.slice x.1.1 (nK ls k) x.1.2) (nK ls k) (ls.getD k []) ∧ W.ownsRow 0 67 4 (.slice x.2.1 (psK ls k).length x.2.2) (psK ls k).length (pF (psK ls k))
noncomputable def badR (ls : List (List Int)) (k : Nat) : Bool := !fitI (aK ls k : Nat) (nK ls k : Nat)
/-- rounds that keep what lies below n0, and all cells but f's blocks and new ones -/
structure KpI (n0 : Nat) (f : Nat → Bool) (W : World) (f' : Nat → Bool) (W' : World) : Prop where
  size : W.heap.size ≤ W'.heap.size
  below : n0 ≤ W.heap.size → Below n0 W W'
  cells : ∀ (k : Nat) (o : Obj), f k = false → W.heap[k]? = some o → o.isCells = true → W'.heap[k]? = some o
  foot : Foot f W.heap.size → Foot f' W'.heap.size
  old : ∀ k, k < W.heap.size → f' k = f k
def OkI (f : Nat → Bool) (_ W : World) : Prop := Foot f W.heap.size
theorem KpI.trans {n0 : Nat} {a A b B c C} (h : KpI n0 a A b B) (k : KpI n0 b B c C) : KpI n0 a A c C :=
  ⟨Nat.le_trans h.size k.size, fun hn => (h.below hn).trans (k.below (Nat.le_trans hn h.size)), fun i o hf ho hc => by
      have hlt := (Array.getElem?_eq_some_iff.1 ho).1
      exact k.cells i o (by rw [h.old i hlt]; exact hf) (h.cells i o hf ho hc) hc,
    fun hf => k.foot (h.foot hf), fun i hi => (k.old i (Nat.lt_of_lt_of_le hi h.size)).trans (h.old i hi)⟩
theorem KpI.of {n0 : Nat} {f : Nat → Bool} {W W' : World} (h : Below W.heap.size W W') : KpI n0 f W f W' :=
  ⟨h.size, fun hn => h.mono hn, fun k _ _ ho _ => (h.block k (Array.getElem?_eq_some_iff.1 ho).1).trans ho, fun hf => hf.mono h.size, fun _ _ => rfl⟩
theorem RI.free {k : IntKind} {A B : World} {b : Nat} {v : Value} {n : Nat} {zs : List Int} (h : RI k A v n zs) (hf : Free b A B) : RI k B v n zs := by
  obtain ⟨a, cap, rfl, h1, h2, h3, h4, hc⟩ := h
  refine ⟨a, cap, rfl, h1, h2, h3, h4, fun h0 => ?_⟩
  obtain ⟨b', off, rfl, hcell⟩ := hc h0
  refine ⟨b', off, rfl, fun j hj => ?_⟩
  have hcj := hcell j hj
  unfold World.cell? at hcj ⊢
  cases ho : A.heap[b']? with
  | none => simp [ho] at hcj
  | some o =>
    cases o with
    | cells cs t m => rw [hf.2 b' _ ho rfl]; rw [ho] at hcj; exact hcj
    | _ => simp [ho] at hcj
theorem own_free' {w w' : World} {b base : Nat} {e : TypeId} {size : Nat} {v : Value} {n : Nat} {xs : List Value} (h : w.ownsRow base e size v n xs) (hf : Free b w w') : w'.ownsRow base e size v n xs := by
  refine ⟨h.1, ?_⟩
  rcases h.2 with h2 | ⟨g, cap, cur, hv, hg, hcur, h3⟩
  · exact .inl h2
  · exact .inr ⟨g, cap, cur, hv, hg, hf.2 _ _ hcur rfl, h3⟩
theorem TR.free {ls : List (List Int)} {k : Nat} {x : RecX} {A B : World} {b : Nat} (h : TR ls k x A) (hf : Free b A B) : TR ls k x B := ⟨h.1.free hf, own_free' h.2 hf⟩
theorem records_any (la : Option Addr) (N lc : Nat) (w : World) : CallsIn Fence.wide 6 Tryd.prog 79 #[.slice la N lc] w fun e w' => e = .returned (.func (.func 93) #[] #[.pointer (some ⟨w.heap.size, 0, none⟩)]) ∧ w' = w.alloc (.cells #[.slice la N lc] 23) := by
  refine callsIn_of_wp Tryd.func79 rfl trivial ?_ rfl
  simp only [Tryd.ntmps79, List.size_toArray, List.length_cons, List.length_nil, Nat.reduceAdd, Nat.reduceSub, Array.replicate_succ, Array.replicate_zero, List.push_toArray, List.append_toArray, List.nil_append, List.cons_append]
  gi_wp2
  go_ret
  exact ⟨rfl, rfl⟩
set_option maxRecDepth 8000 in
set_option maxHeartbeats 4000000 in
theorem records_told (n : Nat) (hn : 1 ≤ n) (we : World) (lv : Value) (N : Nat) (ls : List (List Int)) (hrl : RL .u8 we lv N ls) (Bn : Nat) (w : World) (hbe : Below we.heap.size we w) (hB : Bn < w.heap.size) (hc : w.cell? ⟨Bn, 0, none⟩ = some lv) :
    SeqTill Fence.wide n Tryd.prog 93 #[.pointer (some ⟨Bn, 0, none⟩)] (encR ls) (TR ls) (badR ls) (KpI we.heap.size) OkI (GoodF ls N) (BadF ls) N w := by
  intro l J Jx f W hb hOk hJ hJx hG hBd h0
  have hcW := (hb.cell (p := ⟨Bn, 0, none⟩) hB).trans hc
  have hbW : Below we.heap.size we W := hbe.trans (hb.mono hbe.size)
  have hll := hrl.length
  have hNl := hrl.le
  obtain ⟨la, lc, rfl, _⟩ := hrl.form
  have HJ := Lib.hid hJ
  have HG := Lib.hid hG
  have HBd := Lib.hid hBd
  have HRL := Lib.hid hrl
  have HLL := Lib.hid hll
  have HBW := Lib.hid hbW
  have hOk2 : Foot f W.heap.size := hOk
  have HOK := Lib.hid hOk2
  refine callsIn_of_wp Tryd.func93 rfl trivial ?_ rfl
  simp only [Tryd.ntmps93, List.size_toArray, List.length_cons, List.length_nil, Nat.reduceAdd, Nat.reduceSub, Array.replicate_succ, Array.replicate_zero, List.push_toArray, List.append_toArray, List.nil_append, List.cons_append]
  clear hJ hJx hG hBd hrl hOk hOk2 hbW hll
  gi_wp2
  clear hc hcW hb hbe hB
  gi_loopw [3, 10] (fun av kv wr => ∃ (k a : Nat) (fk : Nat → Bool), kv = .int .i64 (k : Int) ∧ av = .int .i64 (a : Int) ∧ k ≤ N ∧ a ≤ 832 ∧ Hid (endF (ls.take k) = a) ∧ Hid (GoodF ls k) ∧ Hid (J fk k wr) ∧ Hid (Foot fk wr.heap.size) ∧ Hid (Below we.heap.size we wr) ∧ Hid (W.heap.size ≤ wr.heap.size)) (fun _ kv _ => N - (intOf kv).toNat)
  case atStart => exact ⟨0, 0, f, rfl, rfl, by omega, by omega, Lib.hid (by simp [endF_nil]), Lib.hid (GoodF.zero ls), Lib.hid h0, HOK, HBW, Lib.hid (Nat.le_refl _)⟩
  case round =>
    obtain ⟨k, a, fk, rfl, rfl, hk, ha, HA, HGD, HJ0, HF0, HB0, HS0⟩ := hrel
    by_cases hlt : (k : Int) < (N : Int)
    · have hkl : k < ls.length := by rw [HLL.out]; omega
      obtain ⟨b, off, rfl, hat⟩ := HRL.out.at_ (by omega)
      obtain ⟨x, c, hc, hr⟩ := hat k (by omega)
      have hc := cell_keep HB0.out hc
      obtain ⟨m, hm⟩ : ∃ m, nK ls k = m := ⟨_, rfl⟩
      have hm0 : (ls.getD k []).length = m := hm
      have ha0 : endF (ls.take k) = a := HA.out
      have HEN := Lib.hid (endF_next ls k hkl)
      have HFI : Hid (fitI (endF (ls.take k) : Nat) (ls.getD k []).length = fitI (a : Nat) (m : Nat)) := Lib.hid (by rw [ha0, hm0])
      rw [ha0, hm0] at HEN
      rw [hm0] at hc hr
      have HCF : Hid (∀ w, Calls Tryd.prog 94 #[.int .i64 (a : Nat), .slice x m c] w (CutF (a : Nat) (.slice x m c) m w)) := Lib.hid fun w => cutFrom_any (a : Nat) (by unfold I63; omega) x m c w
      have HYG : fitI (a : Nat) (m : Nat) = true → ∀ (pa : Option Addr) (pc : Nat) (W1 : World), J fk k W1 → RI .u8 W1 (.slice x m c) m (ls.getD k []) → W1.ownsRow 0 67 4 (.slice pa (pcsI (a : Nat) (m : Nat)).length pc) (pcsI (a : Nat) (m : Nat)).length (pF (pcsI (a : Nat) (m : Nat))) →
          YieldAt Fence.wide (n - 1) Tryd.prog l #[.agg (rA (.slice x m c) (beginN a : Nat) (.slice pa (pcsI (a : Nat) (m : Nat)).length pc) (endI (a : Nat) (m : Nat) : Nat)), .bool true] W1 fun e W' => e = .returned (.bool true) ∧ ∃ f', J f' (k + 1) W' ∧ KpI we.heap.size fk W1 f' W' := fun hft pa pc W1 h1 h2 h3 => by
        have h := HG.out fk k ((x, c), (pa, pc)) W1 h1 (by unfold TR psK aK; rw [ha0, hm]; exact ⟨h2, h3⟩) (by omega) (by unfold badR aK; rw [ha0, hm, hft]; rfl)
        unfold encR psK aK at h
        rw [ha0, hm, hft] at h
        exact h
      have HYB : fitI (a : Nat) (m : Nat) = false → ∀ (pa : Option Addr) (pc : Nat) (W1 : World), J fk k W1 → RI .u8 W1 (.slice x m c) m (ls.getD k []) → W1.ownsRow 0 67 4 (.slice pa (pcsI (a : Nat) (m : Nat)).length pc) (pcsI (a : Nat) (m : Nat)).length (pF (pcsI (a : Nat) (m : Nat))) →
          YieldAt Fence.wide (n - 1) Tryd.prog l #[.agg (rA (.slice x m c) (beginN a : Nat) (.slice pa (pcsI (a : Nat) (m : Nat)).length pc) (endI (a : Nat) (m : Nat) : Nat)), .bool false] W1 fun e W' => e = .returned (.bool false) ∧ Jx W' := fun hft pa pc W1 h1 h2 h3 => by
        have h := HBd.out fk k ((x, c), (pa, pc)) W1 h1 (by unfold TR psK aK; rw [ha0, hm]; exact ⟨h2, h3⟩) (by omega) (by unfold badR aK; rw [ha0, hm, hft]; rfl)
        unfold encR psK aK at h
        rw [ha0, hm, hft] at h
        exact h
      have HR := Lib.hid hr
      have HKL := Lib.hid hkl
      unfold CutF at HCF
      rw [nr_nat a ha] at HCF
      have hen8 := end_le (a : Nat) (m : Nat)
      generalize pcsI (a : Nat) (m : Nat) = ps at *
      generalize endI (a : Nat) (m : Nat) = en at *
      generalize beginN a = bg at *
      clear hr hkl hm hm0 ha0
      cases hft : fitI (a : Nat) (m : Nat) with
      | true =>
        have HYK := Lib.hid (HYG hft)
        rw [hft] at HCF HFI
        clear HYG HYB hft
        gi_wp2_with (first
          | (refine ⟨trivial, ?_⟩; gi_at_call 94; refine (callsIn_wide.2 (HCF.out _)).mono ?_; rintro e w2 ⟨pa, pc, rfl, ho, hb2⟩; have HB2 := Lib.hid hb2; have HO2 := Lib.hid ho; clear ho hb2)
          | (refine wplIn_store_row rfl 141 _ _ rfl w2.heap.size (rA (.slice x m c) bg (.slice pa ps.length pc) en) rfl rfl _ _ (heap_alloc_last w2 _) (rec_info _ rfl) rfl (rec_one _ _ _ _ _ _ _ _) ?_; obtain ⟨w3, hw3⟩ : ∃ w3, (w2.alloc (.cells #[.slice none 0 0, .int .i64 0, .slice none 0 0, .int .i64 0] 141)).setRow w2.heap.size (rA (.slice x m c) bg (.slice pa ps.length pc) en) = w3 := ⟨_, rfl⟩; rw [hw3]; have hb3 : Below w2.heap.size w2 w3 := by rw [← hw3]; exact bnew _ _ _
             have HM3 : Hid (MO w3 w2.heap.size (.slice x m c) bg (.slice pa ps.length pc) en) := Lib.hid (by rw [← hw3]; exact MO.new _)
             have HO3 := Lib.hid (own_mono (own_keep HO2.out hb3) (Nat.zero_le _)); have HB3 := Lib.hid (bch HB2.out hb3); have HJ3 := Lib.hid (HJ.out _ _ _ _ HJ0.out (Free.of HB3.out HS0.out)); have HRB : Hid (fk w2.heap.size = false) := Lib.hid (by cases hq : fk w2.heap.size with | false => rfl | true => have := HF0.out _ hq; have := HB2.out.size; omega); have HF3 := Lib.hid (HF0.out.mono HB3.out.size); have HBE := Lib.hid (bch HB0.out HB3.out); obtain ⟨fn, tmps, assign, body, hy, hR⟩ := HYK.out pa pc w3 HJ3.out (HR.out.keep HBE.out) HO3.out; clear hb3 hw3)
          | (refine wplIn_load_row rfl 141 _ rfl w2.heap.size rfl HM3.out.load ?_)
          | (refine hR.mono ?_; rintro e w4 ⟨rfl, f4, hj4, hk4⟩; have HM4 := Lib.hid (show MO w4 w2.heap.size (.slice x m c) bg (.slice pa ps.length pc) en from hk4.cells _ _ HRB.out HM3.out rfl); obtain ⟨z0, z1, z2, z3⟩ := HM4.out.cells; have HK4 := Lib.hid hk4; have HJ4 := Lib.hid hj4; clear hj4 hk4))
        exact ⟨⟨k + 1, en, f4, by go_num, rfl, by omega, hen8, HEN, Lib.hid (HGD.out.next HFI.out), HJ4, Lib.hid (HK4.out.foot HF3.out), Lib.hid (HBE.out.trans (HK4.out.below HBE.out.size)), Lib.hid (by have := HS0.out; have := HB3.out.size; have := HK4.out.size; omega)⟩, by simp [intOf]; omega⟩
      | false =>
        have HYK := Lib.hid (HYB hft)
        rw [hft] at HCF HFI
        clear HYG HYB hft
        gi_wp2_with (first
          | (refine ⟨trivial, ?_⟩; gi_at_call 94; refine (callsIn_wide.2 (HCF.out _)).mono ?_; rintro e w2 ⟨pa, pc, rfl, ho, hb2⟩; have HB2 := Lib.hid hb2; have HO2 := Lib.hid ho; clear ho hb2)
          | (refine wplIn_store_row rfl 141 _ _ rfl w2.heap.size (rA (.slice x m c) bg (.slice pa ps.length pc) en) rfl rfl _ _ (heap_alloc_last w2 _) (rec_info _ rfl) rfl (rec_one _ _ _ _ _ _ _ _) ?_; obtain ⟨w3, hw3⟩ : ∃ w3, (w2.alloc (.cells #[.slice none 0 0, .int .i64 0, .slice none 0 0, .int .i64 0] 141)).setRow w2.heap.size (rA (.slice x m c) bg (.slice pa ps.length pc) en) = w3 := ⟨_, rfl⟩; rw [hw3]; have hb3 : Below w2.heap.size w2 w3 := by rw [← hw3]; exact bnew _ _ _
             have HM3 : Hid (MO w3 w2.heap.size (.slice x m c) bg (.slice pa ps.length pc) en) := Lib.hid (by rw [← hw3]; exact MO.new _)
             have HO3 := Lib.hid (own_mono (own_keep HO2.out hb3) (Nat.zero_le _)); have HB3 := Lib.hid (bch HB2.out hb3); have HJ3 := Lib.hid (HJ.out _ _ _ _ HJ0.out (Free.of HB3.out HS0.out)); have HRB : Hid (fk w2.heap.size = false) := Lib.hid (by cases hq : fk w2.heap.size with | false => rfl | true => have := HF0.out _ hq; have := HB2.out.size; omega); have HF3 := Lib.hid (HF0.out.mono HB3.out.size); have HBE := Lib.hid (bch HB0.out HB3.out); obtain ⟨fn, tmps, assign, body, hy, hR⟩ := HYK.out pa pc w3 HJ3.out (HR.out.keep HBE.out) HO3.out; clear hb3 hw3)
          | (refine wplIn_load_row rfl 141 _ rfl w2.heap.size rfl HM3.out.load ?_)
          | (refine hR.mono ?_; rintro e w4 ⟨rfl, hj4⟩; have HJ4 := Lib.hid hj4; clear hj4))
        refine bodyPost_ret (results_none rfl _ _ _) rfl ?_
        exact ⟨⟨_, rfl⟩, .inr ⟨⟨k, HKL.out, HFI.out⟩, HJ4.out⟩⟩
    · obtain rfl : k = N := by omega
      gi_wp2
      go_end0
      exact ⟨⟨_, rfl⟩, .inl ⟨HGD.out, fk, HJ0.out⟩⟩
end Go.Proofs.YtepaghohojomeaaDoor
/-
  LAYER 17 (image): blocks of one cell behind several allocs; what they are behind a store. No condition.
-/
namespace Go.Proofs.YtepaghohojomeaaDoor
open Go.RowKit
theorem alloc2 (w : World) (a b : Obj) : ((w.alloc a).alloc b).heap[w.heap.size]? = some a ∧ ((w.alloc a).alloc b).heap[w.heap.size + 1]? = some b ∧ Below w.heap.size w ((w.alloc a).alloc b) ∧ ((w.alloc a).alloc b).heap.size = w.heap.size + 1 + 1 := by
  refine ⟨(Below.heap_alloc (w.alloc a) b _ (by simp)).trans (heap_alloc_last w a), ?_, bch (balloc w a) (balloc _ b), by simp⟩
  have := heap_alloc_last (w.alloc a) b
  rwa [alloc_size] at this
theorem alloc4 (w : World) (a b c d : Obj) : ((((w.alloc a).alloc b).alloc c).alloc d).heap[w.heap.size]? = some a ∧ ((((w.alloc a).alloc b).alloc c).alloc d).heap[w.heap.size + 1]? = some b ∧ ((((w.alloc a).alloc b).alloc c).alloc d).heap[w.heap.size + 1 + 1]? = some c ∧
    ((((w.alloc a).alloc b).alloc c).alloc d).heap[w.heap.size + 1 + 1 + 1]? = some d ∧ Below w.heap.size w ((((w.alloc a).alloc b).alloc c).alloc d) ∧ ((((w.alloc a).alloc b).alloc c).alloc d).heap.size = w.heap.size + 1 + 1 + 1 + 1 := by
  obtain ⟨h1, h2, h3, h4⟩ := alloc2 w a b
  obtain ⟨k1, k2, k3, k4⟩ := alloc2 ((w.alloc a).alloc b) c d
  rw [h4] at k1 k2 k4
  have kk : ∀ q, q < w.heap.size + 1 + 1 → ((((w.alloc a).alloc b).alloc c).alloc d).heap[q]? = ((w.alloc a).alloc b).heap[q]? := fun q hq => k3.block q (by rw [h4]; exact hq)
  exact ⟨(kk _ (by omega)).trans h1, (kk _ (by omega)).trans h2, k1, k2, h3.trans (k3.mono h3.size), k4⟩
theorem set1 {W : World} {b : Nat} {u : Value} {t : TypeId} (h : W.heap[b]? = some (.cells #[u] t (0, 0))) (v : Value) : (W.setCell ⟨b, 0, none⟩ v).heap[b]? = some (.cells #[v] t (0, 0)) := by
  have := Joins.block_setCell (i := 0) h v
  simpa using this
theorem set_other {W : World} {b b' : Nat} (h : b ≠ b') (v : Value) : (W.setCell ⟨b', 0, none⟩ v).heap[b]? = W.heap[b]? := heap_setCell_other W ⟨b', 0, none⟩ b v h
theorem cell1 {W : World} {b : Nat} {u : Value} {t : TypeId} (h : W.heap[b]? = some (.cells #[u] t (0, 0))) : W.cell? ⟨b, 0, none⟩ = some u := cell_of_row W b 0 _ _ _ h
theorem frozen1 {W : World} {b : Nat} {u : Value} {t : TypeId} (h : W.heap[b]? = some (.cells #[u] t (0, 0))) : W.frozen? ⟨b, 0, none⟩ = false := Joins.unfrozen_of_block h 0
theorem NoC.ne {W : World} {k b : Nat} {c : Array Value} {t : TypeId} {m : Nat × Nat} (h : NoC W k) (hb : W.heap[b]? = some (.cells c t m)) : k ≠ b := by
  rintro rfl
  obtain ⟨o, ho, hc⟩ := h
  rw [hb] at ho
  cases ho
  cases hc
theorem MO.free {A B : World} {b q : Nat} {d pv : Value} {pl bh : Int} (h : MO A q d pl pv bh) (hf : Free b A B) : MO B q d pl pv bh := hf.2 _ _ h rfl
end Go.Proofs.YtepaghohojomeaaDoor
