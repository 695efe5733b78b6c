/-
  TEXTS JOINED: TearOpen, TearDiffer, TearRef. Each one's own words stand at its head.
-/
import Derived.Test.YtepaghohojomeaaDoorJ1
import Derived.Test.YtepaghohojomeaaDoorJ0
import Derived.Test.YtepaghohojomeaaDoorJ7
import Derived.Test.YtepaghohojomeaaDoorJ10
import Derived.Test.YtepaghohojomeaaDoorJ9
import Derived.Test.YtepaghohojomeaaDoorJ12
import Derived.Test.YtepaghohojomeaaDoorJ11
/-
  HOW ARGUMENTS OF LAYER 20's LAWS ARE OPENED: records and sectors in one struct; two sectors in an array. No condition.
-/
namespace Go.Proofs.YtepaghohojomeaaDoor
open Go.RowKit Go.ChangeShapes Go.WideShapes
section
variable {H : Type} {enc : TypeId × Value → H} {W : World}
theorem c_secsT : Tryd.prog.cellsOf 24 = 1 := by kernel_rfl
theorem c_two : Tryd.prog.cellsOf 26 = 2 := by kernel_rfl
theorem c_secT : Tryd.prog.cellsOf 28 = 64 := by kernel_rfl
theorem c_pair : Tryd.prog.cellsOf 29 = 128 := by kernel_rfl
theorem c_u8T : Tryd.prog.cellsOf 5 = 1 := by kernel_rfl
set_option maxRecDepth 8000 in
theorem rd_two {r : Reach} {b : Nat} {v : Value} {d : DataW H} (ho : Value.okWide Tryd.prog W r b 26 v) (h : RdC enc Tryd.prog W 26 v.cells.toList d) :
    ∃ a n cap ls va k vc fs, v = .agg #[.slice a n cap, .slice va k vc] ∧ RL .u8 W (.slice a n cap) n ls ∧ (∀ l ∈ ls, ∀ x ∈ l, 0 ≤ x ∧ x ≤ 255) ∧ FS W (.slice va k vc) k fs ∧ Bytes fs := by
  obtain ⟨cs, rfl, _⟩ := okWide_struct Tryd.underlying26 ho
  obtain ⟨ds, rfl, hn, hl, hf⟩ := rdc_struct Tryd.underlying26 h
  have e1 : (Value.agg cs).cells.toList = cs.toList := rfl
  rw [e1] at hl hf
  rw [c_two] at hl
  obtain ⟨l⟩ := cs
  have hn2 : ds.length = 2 := hn
  match l, hl, ds, hn2, hf with
  | [c0, c1], _, [x0, x1], _, hf =>
    have h0 : RdC enc Tryd.prog W 23 (([c0, c1].drop 0).take (Tryd.prog.cellsOf 23)) x0 := hf 0 _ _ rfl rfl
    rw [c_rows] at h0
    have h1 : RdC enc Tryd.prog W 24 (([c0, c1].drop 1).take (Tryd.prog.cellsOf 24)) x1 := hf 1 _ _ rfl rfl
    rw [c_secsT] at h1
    obtain ⟨a, n, cap, ls, e0, r0, b0⟩ := rdc_rows (cs := [c0]) h0
    obtain ⟨v, k, fs, e2, r1, b1⟩ := rdc_secs (cs := [c1]) h1
    obtain ⟨va, vc, rfl⟩ : ∃ a c, v = .slice a k c := by obtain ⟨a, c, q, _⟩ := r1; exact ⟨a, c, q⟩
    simp only [List.cons.injEq, and_true] at e0 e2
    subst e0; subst e2
    exact ⟨a, n, cap, ls, va, k, vc, fs, rfl, r0, b0, r1, b1⟩
set_option maxRecDepth 8000 in
theorem rd_pair {r : Reach} {b : Nat} {v : Value} {d : DataW H} (ho : Value.okWide Tryd.prog W r b 29 v) (h : RdC enc Tryd.prog W 29 v.cells.toList d) :
    ∃ p q : List Int, v = .agg (il .u8 (p ++ q)).toArray ∧ p.length = 64 ∧ q.length = 64 := by
  obtain ⟨cs, rfl, hs⟩ := okWide_array Tryd.underlying29 ho
  rw [c_pair] at hs
  obtain ⟨f, p, hf⟩ := h
  obtain ⟨xs, m, _, hx, hl, hxl, hel⟩ := DataW.trod_array Tryd.underlying29 hf
  have e1 : (Value.agg cs).cells.toList = cs.toList := rfl
  rw [e1] at hel
  have part : ∀ i, i < 2 → ∃ zs : List Int, (cs.toList.drop (i * 64)).take 64 = il .u8 zs ∧ zs.length = 64 := fun i hi => by
    have h1 := hel i hi
    rw [c_secT] at h1
    obtain ⟨y, hy⟩ : ∃ y, xs[i]? = some y := ⟨_, List.getElem?_eq_getElem (by omega)⟩
    have h2 : RdC enc Tryd.prog W 28 ((cs.toList.drop (i * 64)).take 64) y.1 := ⟨m, y.2, by rw [h1, hy]⟩
    obtain ⟨zs, hz, hzl, _⟩ := rdc_bytes_array Tryd.underlying28 Tryd.underlying5 c_u8T c_secT h2
    exact ⟨zs, hz, hzl⟩
  obtain ⟨p0, hp0, hl0⟩ := part 0 (by omega)
  obtain ⟨p1, hp1, hl1⟩ := part 1 (by omega)
  refine ⟨p0, p1, ?_, hl0, hl1⟩
  have hc : cs.toList = il .u8 (p0 ++ p1) := by
    have h2 : il .u8 (p0 ++ p1) = il .u8 p0 ++ il .u8 p1 := by simp [il]
    rw [h2, ← hp0, ← hp1, Nat.zero_mul, Nat.one_mul, List.drop_zero]
    rw [show (cs.toList.drop 64).take 64 = cs.toList.drop 64 from List.take_of_length_le (by simp; omega), List.take_append_drop]
  rw [← hc, Array.toArray_toList]
end
end Go.Proofs.YtepaghohojomeaaDoor
/-
  LAYER 20 (tear), the program's own: what Differ answers, of any two sectors. No condition.
-/
namespace Go.Proofs.YtepaghohojomeaaDoor
open Go.RowKit
/-- where the first k bytes differ: the first place, one more than the last one; 0, 0, if nowhere -/
def difN (a b : List Int) : Nat → Nat × Nat
  | 0 => (0, 0)
  | k + 1 => if a.getD k 0 = b.getD k 0 then difN a b k else (if (difN a b k).2 = 0 then k else (difN a b k).1, k + 1)
theorem difN_le (a b : List Int) : ∀ k, (difN a b k).1 ≤ k ∧ (difN a b k).2 ≤ k
  | 0 => ⟨Nat.le_refl _, Nat.le_refl _⟩
  | k + 1 => by
    have h := difN_le a b k
    unfold difN
    split
    · omega
    · refine ⟨?_, Nat.le_refl _⟩
      show (if (difN a b k).2 = 0 then k else (difN a b k).1) ≤ k + 1
      split <;> omega
theorem difN_tells (a b : List Int) : ∀ k, ((difN a b k).1 = 0 ∧ (difN a b k).2 = 0 ∧ ∀ j, j < k → a.getD j 0 = b.getD j 0) ∨
    ((difN a b k).1 < (difN a b k).2 ∧ (difN a b k).2 ≤ k ∧ a.getD (difN a b k).1 0 ≠ b.getD (difN a b k).1 0 ∧ a.getD ((difN a b k).2 - 1) 0 ≠ b.getD ((difN a b k).2 - 1) 0 ∧ ∀ j, j < k → (j < (difN a b k).1 ∨ (difN a b k).2 ≤ j) → a.getD j 0 = b.getD j 0)
  | 0 => .inl ⟨rfl, rfl, fun j hj => absurd hj (by omega)⟩
  | k + 1 => by
    have ih := difN_tells a b k
    by_cases he : a.getD k 0 = b.getD k 0
    · have e : difN a b (k + 1) = difN a b k := by rw [difN, if_pos he]
      rw [e]
      rcases ih with ⟨h1, h2, h3⟩ | ⟨h1, h2, h3, h4, h5⟩
      · refine .inl ⟨h1, h2, fun j hj => ?_⟩
        by_cases hjk : j = k
        · subst hjk; exact he
        · exact h3 j (by omega)
      · refine .inr ⟨h1, by omega, h3, h4, fun j hj hb => ?_⟩
        by_cases hjk : j = k
        · subst hjk; exact he
        · exact h5 j (by omega) hb
    · rcases ih with ⟨h1, h2, h3⟩ | ⟨h1, h2, h3, h4, h5⟩
      · have e : difN a b (k + 1) = (k, k + 1) := by rw [difN, if_neg he, if_pos h2]
        rw [e]
        exact .inr ⟨by show k < k + 1; omega, Nat.le_refl _, he, by simpa using he, fun j hj hb => h3 j (by dsimp only at hb; omega)⟩
      · have e : difN a b (k + 1) = ((difN a b k).1, k + 1) := by rw [difN, if_neg he, if_neg (by omega)]
        rw [e]
        exact .inr ⟨by show (difN a b k).1 < k + 1; omega, Nat.le_refl _, h3, by simpa using he, fun j hj hb => h5 j (by dsimp only at hb; omega) (by dsimp only at hb; omega)⟩
set_option maxRecDepth 8000 in
set_option maxHeartbeats 2000000 in
theorem differ_any (a b : List Int) (ha : a.length = 64) (hb : b.length = 64) (w : World) :
    Calls Tryd.prog 11 #[.agg (sv a), .agg (sv b)] w fun r w' => r = .returned (.tuple #[.int .i64 ((difN a b 64).1 : Nat), .int .i64 ((difN a b 64).2 : Nat)]) ∧ Below w.heap.size w w' := by
  obtain ⟨w1, hw1⟩ : ∃ q, (w.alloc (.cells (sv a) 28)).alloc (.cells (sv b) 28) = q := ⟨_, rfl⟩
  have hz1 : (w.alloc (.cells (sv a) 28)).heap.size = w.heap.size + 1 := alloc_size w _
  have HB1 : Hid (Below w.heap.size w w1) := Lib.hid (by rw [← hw1]; exact bch (balloc w _) (balloc _ _))
  have HA1 : Hid (Blk w1 w.heap.size a) := Lib.hid (by rw [← hw1]; exact (Blk.new w a ha).keep (balloc _ _))
  have HC1 : Hid (Blk w1 (w.heap.size + 1) b) := Lib.hid (by rw [← hw1, ← hz1]; exact Blk.new _ b hb)
  clear ha hb
  go_enter Tryd.func11, Tryd.ntmps11
  go_wp2_with (rw [hw1])
  go_loopw [6, 7, 9] (fun fv lv iv wr => ∃ i : Nat, iv = .int .i64 (i : Int) ∧ i ≤ 64 ∧ fv = .int .i64 ((difN a b i).1 : Nat) ∧ lv = .int .i64 ((difN a b i).2 : Nat) ∧ Hid (Below w1.heap.size w1 wr)) (fun _ _ iv _ => 64 - (intOf iv).toNat)
  case atStart => exact ⟨0, rfl, by omega, rfl, rfl, Lib.hid (Below.refl _ _)⟩
  case round =>
    obtain ⟨i, rfl, hi, rfl, rfl, HB⟩ := hrel
    by_cases hlt : (i : Int) < 64
    · have d1 := (HA1.out.keep HB.out).cell i (by omega)
      have d2 := (HC1.out.keep HB.out).cell i (by omega)
      have HN : Hid (difN a b (i + 1) = if a.getD i 0 = b.getD i 0 then difN a b i else (if (difN a b i).2 = 0 then i else (difN a b i).1, i + 1)) := Lib.hid (by rw [difN])
      obtain ⟨hl1, hl2⟩ := difN_le a b i
      obtain ⟨d, hd⟩ : ∃ d, difN a b i = d := ⟨_, rfl⟩
      rw [hd] at HN hl1 hl2 ⊢
      obtain ⟨f, l⟩ := d
      clear hd
      dsimp only at HN hl1 hl2 ⊢
      obtain ⟨p, hp⟩ : ∃ p, a.getD i 0 = p := ⟨_, rfl⟩
      obtain ⟨q, hq⟩ : ∃ q, b.getD i 0 = q := ⟨_, rfl⟩
      rw [hp] at d1 HN
      rw [hq] at d2 HN
      have HST : Hid (wr.drew.cell? ⟨w.heap.size, i, none⟩ = some (.int .u8 p) ∧ wr.drew.cell? ⟨w.heap.size + 1, i, none⟩ = some (.int .u8 q)) := Lib.hid ⟨cell_keep (Below.refl _ wr).drew d1, cell_keep (Below.refl _ wr).drew d2⟩
      clear d1 d2 hp hq
      by_cases he : p = q
      · have heq : (p == q) = true := by simpa using he
        have HD : Hid (difN a b (i + 1) = (f, l)) := Lib.hid (by rw [HN.out, if_pos he])
        clear he
        go_wp2_with fail
        refine wp_region_held_drew (S := (fun w' => w'.cell? ⟨w.heap.size, i, none⟩ = some (.int .u8 p) ∧ w'.cell? ⟨w.heap.size + 1, i, none⟩ = some (.int .u8 q))) (by kernel_rfl) HST.out (fun hS => ?_)
        refine wpAnyH_take (i := 0) (oi := ({ dst := some 12, op := Op.move (Operand.tmp 8), type := 3, pos := "tear.go:27", after := #[], guard := none } : Oper)) (v := ?_) rfl (by kernel_rfl) (by kernel_rfl) (by kernel_rfl) (fun _ _ _ h => h) (Or.inl ⟨by rfl, ?_⟩) hS ?_
        rotate_left
        · (intro w hSw; (try dsimp only at hSw); go_simp; try with_reducible rfl)
        (try simp only [Act.put, List.setIfInBounds_toArray, List.set_cons_zero, List.set_cons_succ])
        refine wpAnyH_take (i := 1) (oi := ({ dst := some 13, op := Op.indexAddr 28 (Operand.tmp 2) (Operand.tmp 12), type := 0, pos := "tear.go:27", after := #[{ on := 0, ground := Ground.data }], guard := none } : Oper)) (v := ?_) rfl (by kernel_rfl) (by kernel_rfl) (by kernel_rfl) (fun _ _ _ h => h) (Or.inl ⟨by rfl, ?_⟩) hS ?_
        rotate_left
        · (intro w hSw; (try dsimp only at hSw); go_simp; try with_reducible rfl)
        (try simp only [Act.put, List.setIfInBounds_toArray, List.set_cons_zero, List.set_cons_succ])
        refine wpAnyH_take (i := 2) (oi := ({ dst := some 14, op := Op.load 5 (Operand.tmp 13), type := 5, pos := "tear.go:27", after := #[{ on := 1, ground := Ground.data }], guard := none } : Oper)) (v := ?_) rfl (by kernel_rfl) (by kernel_rfl) (by kernel_rfl) (fun _ _ _ h => h) (Or.inl ⟨by rfl, ?_⟩) hS ?_
        rotate_left
        · (intro w hSw; (try dsimp only at hSw); go_simp; try with_reducible rfl)
        (try simp only [Act.put, List.setIfInBounds_toArray, List.set_cons_zero, List.set_cons_succ])
        refine wpAnyH_take (i := 3) (oi := ({ dst := some 15, op := Op.move (Operand.tmp 8), type := 3, pos := "tear.go:27", after := #[], guard := none } : Oper)) (v := ?_) rfl (by kernel_rfl) (by kernel_rfl) (by kernel_rfl) (fun _ _ _ h => h) (Or.inl ⟨by rfl, ?_⟩) hS ?_
        rotate_left
        · (intro w hSw; (try dsimp only at hSw); go_simp; try with_reducible rfl)
        (try simp only [Act.put, List.setIfInBounds_toArray, List.set_cons_zero, List.set_cons_succ])
        refine wpAnyH_take (i := 4) (oi := ({ dst := some 16, op := Op.indexAddr 28 (Operand.tmp 3) (Operand.tmp 15), type := 0, pos := "tear.go:27", after := #[{ on := 3, ground := Ground.data }], guard := none } : Oper)) (v := ?_) rfl (by kernel_rfl) (by kernel_rfl) (by kernel_rfl) (fun _ _ _ h => h) (Or.inl ⟨by rfl, ?_⟩) hS ?_
        rotate_left
        · (intro w hSw; (try dsimp only at hSw); go_simp; try with_reducible rfl)
        (try simp only [Act.put, List.setIfInBounds_toArray, List.set_cons_zero, List.set_cons_succ])
        refine wpAnyH_take (i := 5) (oi := ({ dst := some 17, op := Op.load 5 (Operand.tmp 16), type := 5, pos := "tear.go:27", after := #[{ on := 4, ground := Ground.data }], guard := none } : Oper)) (v := ?_) rfl (by kernel_rfl) (by kernel_rfl) (by kernel_rfl) (fun _ _ _ h => h) (Or.inl ⟨by rfl, ?_⟩) hS ?_
        rotate_left
        · (intro w hSw; (try dsimp only at hSw); go_simp; try with_reducible rfl)
        (try simp only [Act.put, List.setIfInBounds_toArray, List.set_cons_zero, List.set_cons_succ])
        refine wpAnyH_take (i := 6) (oi := ({ dst := some 18, op := Op.binOp BinOp.eql 5 (Operand.tmp 14) (Operand.tmp 17) 5, type := 4, pos := "tear.go:27", after := #[{ on := 2, ground := Ground.data }, { on := 5, ground := Ground.data }], guard := none } : Oper)) (v := ?_) rfl (by kernel_rfl) (by kernel_rfl) (by kernel_rfl) (fun _ _ _ h => h) (Or.inl ⟨by rfl, ?_⟩) hS ?_
        rotate_left
        · (intro w hSw; (try dsimp only at hSw); go_simp; try with_reducible rfl)
        (try simp only [Act.put, List.setIfInBounds_toArray, List.set_cons_zero, List.set_cons_succ])
        refine wpAnyH_done (by kernel_rfl) ?_ _
        clear hS
        go_wp2
        go_roundw
        case rel => exact ⟨i + 1, by go_num, by omega, by rw [HD.out], by rw [HD.out], Lib.hid HB.out.drew⟩
        case measure => simp [intOf]; omega
      · have heq : (p == q) = false := by simpa using he
        have HD : Hid (difN a b (i + 1) = (if l = 0 then i else f, i + 1)) := Lib.hid (by rw [HN.out, if_neg he])
        clear he
        by_cases h0 : l = 0
        · subst h0
          rw [if_pos rfl] at HD
          go_wp2_with fail
          refine wp_region_held_drew (S := (fun w' => w'.cell? ⟨w.heap.size, i, none⟩ = some (.int .u8 p) ∧ w'.cell? ⟨w.heap.size + 1, i, none⟩ = some (.int .u8 q))) (by kernel_rfl) HST.out (fun hS => ?_)
          refine wpAnyH_take (i := 0) (oi := ({ dst := some 12, op := Op.move (Operand.tmp 8), type := 3, pos := "tear.go:27", after := #[], guard := none } : Oper)) (v := ?_) rfl (by kernel_rfl) (by kernel_rfl) (by kernel_rfl) (fun _ _ _ h => h) (Or.inl ⟨by rfl, ?_⟩) hS ?_
          rotate_left
          · (intro w hSw; (try dsimp only at hSw); go_simp; try with_reducible rfl)
          (try simp only [Act.put, List.setIfInBounds_toArray, List.set_cons_zero, List.set_cons_succ])
          refine wpAnyH_take (i := 1) (oi := ({ dst := some 13, op := Op.indexAddr 28 (Operand.tmp 2) (Operand.tmp 12), type := 0, pos := "tear.go:27", after := #[{ on := 0, ground := Ground.data }], guard := none } : Oper)) (v := ?_) rfl (by kernel_rfl) (by kernel_rfl) (by kernel_rfl) (fun _ _ _ h => h) (Or.inl ⟨by rfl, ?_⟩) hS ?_
          rotate_left
          · (intro w hSw; (try dsimp only at hSw); go_simp; try with_reducible rfl)
          (try simp only [Act.put, List.setIfInBounds_toArray, List.set_cons_zero, List.set_cons_succ])
          refine wpAnyH_take (i := 2) (oi := ({ dst := some 14, op := Op.load 5 (Operand.tmp 13), type := 5, pos := "tear.go:27", after := #[{ on := 1, ground := Ground.data }], guard := none } : Oper)) (v := ?_) rfl (by kernel_rfl) (by kernel_rfl) (by kernel_rfl) (fun _ _ _ h => h) (Or.inl ⟨by rfl, ?_⟩) hS ?_
          rotate_left
          · (intro w hSw; (try dsimp only at hSw); go_simp; try with_reducible rfl)
          (try simp only [Act.put, List.setIfInBounds_toArray, List.set_cons_zero, List.set_cons_succ])
          refine wpAnyH_take (i := 3) (oi := ({ dst := some 15, op := Op.move (Operand.tmp 8), type := 3, pos := "tear.go:27", after := #[], guard := none } : Oper)) (v := ?_) rfl (by kernel_rfl) (by kernel_rfl) (by kernel_rfl) (fun _ _ _ h => h) (Or.inl ⟨by rfl, ?_⟩) hS ?_
          rotate_left
          · (intro w hSw; (try dsimp only at hSw); go_simp; try with_reducible rfl)
          (try simp only [Act.put, List.setIfInBounds_toArray, List.set_cons_zero, List.set_cons_succ])
          refine wpAnyH_take (i := 4) (oi := ({ dst := some 16, op := Op.indexAddr 28 (Operand.tmp 3) (Operand.tmp 15), type := 0, pos := "tear.go:27", after := #[{ on := 3, ground := Ground.data }], guard := none } : Oper)) (v := ?_) rfl (by kernel_rfl) (by kernel_rfl) (by kernel_rfl) (fun _ _ _ h => h) (Or.inl ⟨by rfl, ?_⟩) hS ?_
          rotate_left
          · (intro w hSw; (try dsimp only at hSw); go_simp; try with_reducible rfl)
          (try simp only [Act.put, List.setIfInBounds_toArray, List.set_cons_zero, List.set_cons_succ])
          refine wpAnyH_take (i := 5) (oi := ({ dst := some 17, op := Op.load 5 (Operand.tmp 16), type := 5, pos := "tear.go:27", after := #[{ on := 4, ground := Ground.data }], guard := none } : Oper)) (v := ?_) rfl (by kernel_rfl) (by kernel_rfl) (by kernel_rfl) (fun _ _ _ h => h) (Or.inl ⟨by rfl, ?_⟩) hS ?_
          rotate_left
          · (intro w hSw; (try dsimp only at hSw); go_simp; try with_reducible rfl)
          (try simp only [Act.put, List.setIfInBounds_toArray, List.set_cons_zero, List.set_cons_succ])
          refine wpAnyH_take (i := 6) (oi := ({ dst := some 18, op := Op.binOp BinOp.eql 5 (Operand.tmp 14) (Operand.tmp 17) 5, type := 4, pos := "tear.go:27", after := #[{ on := 2, ground := Ground.data }, { on := 5, ground := Ground.data }], guard := none } : Oper)) (v := ?_) rfl (by kernel_rfl) (by kernel_rfl) (by kernel_rfl) (fun _ _ _ h => h) (Or.inl ⟨by rfl, ?_⟩) hS ?_
          rotate_left
          · (intro w hSw; (try dsimp only at hSw); go_simp; try with_reducible rfl)
          (try simp only [Act.put, List.setIfInBounds_toArray, List.set_cons_zero, List.set_cons_succ])
          refine wpAnyH_done (by kernel_rfl) ?_ _
          clear hS
          go_wp2
          go_roundw
          case rel => exact ⟨i + 1, by go_num, by omega, by rw [HD.out], by rw [HD.out]; go_num, Lib.hid HB.out.drew⟩
          case measure => simp [intOf]; omega
        · rw [if_neg h0] at HD
          have hl0 : ((l : Int) == 0) = false := by simpa using h0
          go_wp2_with fail
          refine wp_region_held_drew (S := (fun w' => w'.cell? ⟨w.heap.size, i, none⟩ = some (.int .u8 p) ∧ w'.cell? ⟨w.heap.size + 1, i, none⟩ = some (.int .u8 q))) (by kernel_rfl) HST.out (fun hS => ?_)
          refine wpAnyH_take (i := 0) (oi := ({ dst := some 12, op := Op.move (Operand.tmp 8), type := 3, pos := "tear.go:27", after := #[], guard := none } : Oper)) (v := ?_) rfl (by kernel_rfl) (by kernel_rfl) (by kernel_rfl) (fun _ _ _ h => h) (Or.inl ⟨by rfl, ?_⟩) hS ?_
          rotate_left
          · (intro w hSw; (try dsimp only at hSw); go_simp; try with_reducible rfl)
          (try simp only [Act.put, List.setIfInBounds_toArray, List.set_cons_zero, List.set_cons_succ])
          refine wpAnyH_take (i := 1) (oi := ({ dst := some 13, op := Op.indexAddr 28 (Operand.tmp 2) (Operand.tmp 12), type := 0, pos := "tear.go:27", after := #[{ on := 0, ground := Ground.data }], guard := none } : Oper)) (v := ?_) rfl (by kernel_rfl) (by kernel_rfl) (by kernel_rfl) (fun _ _ _ h => h) (Or.inl ⟨by rfl, ?_⟩) hS ?_
          rotate_left
          · (intro w hSw; (try dsimp only at hSw); go_simp; try with_reducible rfl)
          (try simp only [Act.put, List.setIfInBounds_toArray, List.set_cons_zero, List.set_cons_succ])
          refine wpAnyH_take (i := 2) (oi := ({ dst := some 14, op := Op.load 5 (Operand.tmp 13), type := 5, pos := "tear.go:27", after := #[{ on := 1, ground := Ground.data }], guard := none } : Oper)) (v := ?_) rfl (by kernel_rfl) (by kernel_rfl) (by kernel_rfl) (fun _ _ _ h => h) (Or.inl ⟨by rfl, ?_⟩) hS ?_
          rotate_left
          · (intro w hSw; (try dsimp only at hSw); go_simp; try with_reducible rfl)
          (try simp only [Act.put, List.setIfInBounds_toArray, List.set_cons_zero, List.set_cons_succ])
          refine wpAnyH_take (i := 3) (oi := ({ dst := some 15, op := Op.move (Operand.tmp 8), type := 3, pos := "tear.go:27", after := #[], guard := none } : Oper)) (v := ?_) rfl (by kernel_rfl) (by kernel_rfl) (by kernel_rfl) (fun _ _ _ h => h) (Or.inl ⟨by rfl, ?_⟩) hS ?_
          rotate_left
          · (intro w hSw; (try dsimp only at hSw); go_simp; try with_reducible rfl)
          (try simp only [Act.put, List.setIfInBounds_toArray, List.set_cons_zero, List.set_cons_succ])
          refine wpAnyH_take (i := 4) (oi := ({ dst := some 16, op := Op.indexAddr 28 (Operand.tmp 3) (Operand.tmp 15), type := 0, pos := "tear.go:27", after := #[{ on := 3, ground := Ground.data }], guard := none } : Oper)) (v := ?_) rfl (by kernel_rfl) (by kernel_rfl) (by kernel_rfl) (fun _ _ _ h => h) (Or.inl ⟨by rfl, ?_⟩) hS ?_
          rotate_left
          · (intro w hSw; (try dsimp only at hSw); go_simp; try with_reducible rfl)
          (try simp only [Act.put, List.setIfInBounds_toArray, List.set_cons_zero, List.set_cons_succ])
          refine wpAnyH_take (i := 5) (oi := ({ dst := some 17, op := Op.load 5 (Operand.tmp 16), type := 5, pos := "tear.go:27", after := #[{ on := 4, ground := Ground.data }], guard := none } : Oper)) (v := ?_) rfl (by kernel_rfl) (by kernel_rfl) (by kernel_rfl) (fun _ _ _ h => h) (Or.inl ⟨by rfl, ?_⟩) hS ?_
          rotate_left
          · (intro w hSw; (try dsimp only at hSw); go_simp; try with_reducible rfl)
          (try simp only [Act.put, List.setIfInBounds_toArray, List.set_cons_zero, List.set_cons_succ])
          refine wpAnyH_take (i := 6) (oi := ({ dst := some 18, op := Op.binOp BinOp.eql 5 (Operand.tmp 14) (Operand.tmp 17) 5, type := 4, pos := "tear.go:27", after := #[{ on := 2, ground := Ground.data }, { on := 5, ground := Ground.data }], guard := none } : Oper)) (v := ?_) rfl (by kernel_rfl) (by kernel_rfl) (by kernel_rfl) (fun _ _ _ h => h) (Or.inl ⟨by rfl, ?_⟩) hS ?_
          rotate_left
          · (intro w hSw; (try dsimp only at hSw); go_simp; try with_reducible rfl)
          (try simp only [Act.put, List.setIfInBounds_toArray, List.set_cons_zero, List.set_cons_succ])
          refine wpAnyH_done (by kernel_rfl) ?_ _
          clear hS
          go_wp2
          go_roundw
          case rel => exact ⟨i + 1, by go_num, by omega, by rw [HD.out], by rw [HD.out]; go_num, Lib.hid HB.out.drew⟩
          case measure => simp [intOf]; omega
    · obtain rfl : i = 64 := by omega
      go_wp2
      go_ret2
      exact ⟨rfl, (HB1.out.trans (HB.out.mono HB1.out.size))⟩
end Go.Proofs.YtepaghohojomeaaDoor
/-
  LAYER 20 (tear), the reference's Clashes: of any records that lie somewhere, of any sectors. No condition of ours.
-/
namespace Go.Proofs.YtepaghohojomeaaDoor
open Go.RowKit
theorem gt_exec {a : Act} {o : Oper} {w : World} (x : Operand) (z : Int) (ho : o.op = .binOp .gtr 3 x (.const (.int .i64 0)) 3) (hx : a.eval x = .int .i64 z) (h : 0 < z) : (execOp a.eval o).run Tryd.prog w = .ok (.value (.bool true)) w := by
  have := Tryd.underlying3
  unfold execOp
  simp only [ho, hx]
  go_simp
set_option maxRecDepth 8000 in
set_option maxHeartbeats 8000000 in
theorem rclashes_any (x : Int) (hx : U64 x) (lv : Value) (N : Nat) (ls : List (List Int)) (hN : N ≤ 1000000) (hlb : ∀ l ∈ ls, isB l) (v : Value) (n : Nat) (fs : List Int) (hbf : isB fs) (w : World) (hrl : RL .u8 w lv N ls) (h : FS w v n fs) :
    Calls Tryd.prog 8 #[.int .u64 x, lv, v] w fun r w' => ∃ a nn c, r = .returned (.tuple #[.slice a nn c, .bool (fitsF ls)]) ∧ RI .i64 w' (.slice a nn c) nn (tclF x n fs ls) ∧ Below w.heap.size w w' := by
  have hll := hrl.length
  have HLY := rlay_any x hx lv N ls (by omega) hlb w hrl
  have hB : (flatB x n fs 16).length = 832 := flatB_length x n fs h.length 16
  have hBb : isB (flatB x n fs 16) := flatB_isB x n hbf 16
  have HFL : Hid (∀ w', Below w.heap.size w w' → Calls Tryd.prog 19 #[.int .u64 x, v] w' fun e w'' => ∃ v1 v2, e = .returned (.tuple #[v1, v2]) ∧ RI .u8 w'' v1 832 (flatB x n fs 16) ∧ BS w'' v2 16 (flatK x n fs 16) ∧ Below w'.heap.size w' w'') := Lib.hid fun w' hb => rflat_any x hx v n fs w' (h.keep hb)
  obtain ⟨va, vc, rfl⟩ : ∃ a c, v = .slice a n c := by obtain ⟨a, c, q, _⟩ := h; exact ⟨a, c, q⟩
  obtain ⟨la, lc, rfl, _⟩ := hrl.form
  have HRL := Lib.hid hrl
  have HLL := Lib.hid hll
  have HLB := Lib.hid hlb
  cases hf : fitsF ls with
  | false =>
    have HT0 : Hid (tclF x n fs ls = []) := Lib.hid (by unfold tclF; rw [hf, if_neg (by decide)])
    have HL0 := Lib.hid (lay_not HLY hf)
    rw [HT0.out]
    clear HLY hf hx hlb hrl h hbf hB hBb HFL hll
    go_enter Tryd.func8, Tryd.ntmps8
    go_wp2_with (first
      | (go_at_call 18; (refine HL0.out.mono ?_); rintro r w1 ⟨rfl, hb⟩; have HB1 := Lib.hid hb; clear hb))
    go_ret2
    exact ⟨none, 0, 0, rfl, RI.nil _ _, HB1.out⟩
  | true =>
    have hgd := (fitsF_iff ls).1 hf
    have HTC : Hid (tclF x n fs ls = clF (x % 4294967296) (flatB x n fs 16) (flatK x n fs 16) ls ls.length) := Lib.hid (by unfold tclF; rw [hf, if_pos rfl])
    have HL0 : Hid (Calls Tryd.prog 18 #[.int .u64 x, .slice la N lc] w fun r w' => ∃ g pa pc e, r = .returned (.tuple #[.slice (some ⟨g, 0, none⟩) 832 832, .slice pa N pc, .int .i64 e, .bool true]) ∧ RI .i64 w' (.slice pa N pc) N (placesF ls) ∧ Below w.heap.size w w') := Lib.hid ((lay_yes HLY hf).mono fun r w' ⟨g, pa, pc, h1, _, h2, h3⟩ => ⟨g, pa, pc, _, h1, RI.own h2, h3⟩)
    have HPG : Hid (∀ i, i < N → (placesF ls).getD i 0 = ((beginN (endF (ls.take i)) : Nat) : Int)) := Lib.hid fun i hi => by
      have hil : i < ls.length := by rw [HLL.out]; exact hi
      simp [placesF, List.getD, hil]
    have HCF : Hid (∀ (i : Nat) (n : Nat), pcsI ((beginN (endF (ls.take i)) : Nat) : Int) (n : Int) = pcsI ((endF (ls.take i) : Nat) : Int) (n : Int)) := Lib.hid fun i n => by
      have := (pcs_begin ((endF (ls.take i) : Nat) : Int) (n : Int)).2
      rwa [nr_nat _ (endF_le _)] at this
    rw [HTC.out]
    have hfb : ∀ a : Nat, a ≤ 832 → isB (scF (x % 4294967296) (flatB x n fs 16) (flatK x n fs 16) a).1.data := fun a ha => by
      by_cases h0 : (scF (x % 4294967296) (flatB x n fs 16) (flatK x n fs 16) a).2 = 0
      · rw [scF_none h0 hB ha]; exact isB.nil
      · obtain ⟨_, _, _, _, h5⟩ := scF_some h0
        rw [h5]; exact scD_isB hBb
    have HFB := Lib.hid hfb
    have HBL := Lib.hid hB
    have HAC : Hid (∀ (w : World) (bv kv : Value) (a : Nat), RI .u8 w bv 832 (flatB x n fs 16) → BS w kv 16 (flatK x n fs 16) → a + 11 ≤ 832 → Calls Tryd.prog 21 #[.int .u64 x, bv, kv, .int .i64 a] w (AccF (scF (x % 4294967296) (flatB x n fs 16) (flatK x n fs 16) a) w)) := Lib.hid fun w bv kv a h1 h2 h3 => racc_any x hx bv kv _ _ w hB hBb h1 h2 a (.inr h3)
    have hx2 : 0 ≤ x ∧ x ≤ 18446744073709551615 := hx
    generalize flatB x n fs 16 = B at *
    generalize flatK x n fs 16 = K at *
    obtain ⟨ep, hep⟩ : ∃ e, x % 4294967296 = e := ⟨_, rfl⟩
    have HTM : Hid (x.tmod 4294967296 = ep) := Lib.hid (by rw [Int.tmod_eq_emod_of_nonneg hx2.1]; exact hep)
    have hepb : 0 ≤ ep ∧ ep ≤ 4294967295 := by omega
    have HW32 : Hid (IntKind.u32.wrap ep = ep) := Lib.hid (by rw [wrap_u32']; omega)
    have HWU : Hid (IntKind.u64.wrap ep = ep) := Lib.hid (IntWalk.u64_in _ (by omega))
    rw [hep] at HAC HFB ⊢
    clear HLY hf hx hlb hrl h hbf hB hBb hll hx2 hep hepb hgd hfb HTC
    go_enter Tryd.func8, Tryd.ntmps8
    go_wp2_with (first
      | (go_at_call 18; (refine HL0.out.mono ?_); rintro r w1 ⟨g1, pa, pc, e1, rfl, hp, hb⟩; have HB1 := Lib.hid hb; have HP1 := Lib.hid hp; clear hb hp)
      | (go_at_call 19; (refine (HFL.out _ HB1.out).mono ?_); rintro r wf ⟨bv, kv, rfl, hbv, hkv, hb⟩; have HBF := Lib.hid (bch HB1.out hb); have HPF := Lib.hid (HP1.out.keep hb); have HBV := Lib.hid hbv; have HKV := Lib.hid hkv; clear hb hbv hkv))
    go_loopw [14, 15] (fun ov iv wr => ∃ (i on : Nat) (oa : Option Addr) (oc : Nat), iv = .int .i64 (i : Int) ∧ ov = .slice oa on oc ∧ i ≤ N ∧ on ≤ 75 * i ∧ Hid (wr.ownsRow wf.heap.size 3 1 (.slice oa on oc) on (il .i64 (clF ep B K ls i))) ∧ Hid (Below wf.heap.size wf wr)) (fun _ iv _ => N - (intOf iv).toNat)
    case atStart => exact ⟨0, 0, none, 0, rfl, rfl, by omega, by omega, Lib.hid (by rw [clF_zero]; exact World.ownsRow_nil _ _ _ _), Lib.hid (Below.refl _ _)⟩
    case round =>
      obtain ⟨i, on, oa, oc, rfl, rfl, hi, hon, HO, HB⟩ := hrel
      rename World => wo
      by_cases hlt : (i : Int) < (N : Int)
      · obtain ⟨pb, po, rfl, hcell⟩ := HPF.out.at_ (by omega)
        have d1 := hcell i (by omega)
        rw [HPG.out i (by omega)] at d1
        obtain ⟨lb, lo, rfl, hat⟩ := (HRL.out.keep HBF.out).at_ (by omega)
        obtain ⟨xa, c, hc, hr⟩ := hat i (by omega)
        obtain ⟨zs, hzs⟩ : ∃ zs, ls.getD i [] = zs := ⟨_, rfl⟩
        rw [hzs] at hc hr
        obtain ⟨q, hq⟩ : ∃ q, zs.length = q := ⟨_, rfl⟩
        rw [hq] at hc hr
        have hq63 := hr.le
        have HZB : Hid (isB zs) := Lib.hid (HLB.out zs (by rw [← hzs]; simp [List.getD, show i < ls.length by rw [HLL.out]; omega]))
        have HCN : Hid (clF ep B K ls (i + 1) = clF ep B K ls i ++ clR ep B K zs (pcsI ((endF (ls.take i) : Nat) : Int) (q : Int))) := Lib.hid (by rw [clF, hzs, hq])
        have HQE := Lib.hid hq
        have hbe := HCF.out i q
        have hb8 : beginN (endF (ls.take i)) ≤ 832 := begin_le _ (endF_le _)
        obtain ⟨bg, hbg⟩ : ∃ bg, beginN (endF (ls.take i)) = bg := ⟨_, rfl⟩
        rw [hbg] at d1 hbe hb8
        have HPT : Hid (∀ (j : Nat) (c : PC), (pcsI ((endF (ls.take i) : Nat) : Int) (q : Int))[j]? = some c → ∃ (p l k : Nat), PcFit (nr ((endF (ls.take i) : Nat) : Int)) q c p l k) := Lib.hid fun j c h => by
          obtain ⟨m, p, l, k, hm, hf⟩ := pc_fit h
          obtain rfl : q = m := by omega
          exact ⟨p, l, k, hf⟩
        have h75 := pcs_len ((endF (ls.take i) : Nat) : Int) (q : Int)
        generalize pcsI ((endF (ls.take i) : Nat) : Int) (q : Int) = ps at *
        have HCT : Hid (∀ w, Calls Tryd.prog 20 #[.int .i64 (bg : Int), .int .i64 (q : Int)] w fun r w' => ∃ v e f, r = .returned (.tuple #[v, .int .i64 e, .bool f]) ∧ w'.ownsRow w.heap.size 67 4 v ps.length (pF ps) ∧ Below w.heap.size w w') := Lib.hid fun w => (rcut_any (bg : Int) (q : Int) (by unfold I63; omega) (by unfold I63; omega) w).mono fun r w' ⟨v, h1, h2, h3⟩ => by
          rw [hbe] at h2
          exact ⟨v, _, _, h1, h2, h3⟩
        obtain ⟨m, hm⟩ : ∃ m, ps.length = m := ⟨_, rfl⟩
        rw [hm] at HCT h75
        have HM := Lib.hid hm
        have HR := Lib.hid hr
        have HD := Lib.hid (And.intro d1 hc)
        have HST : Hid (wo.drew.cell? ⟨pb, po + i, none⟩ = some (.int .i64 (bg : Int)) ∧ wo.drew.cell? ⟨lb, lo + i, none⟩ = some (.slice xa q c)) := Lib.hid ⟨cell_keep HB.out.drew d1, cell_keep HB.out.drew hc⟩
        clear hcell hat hzs hq hbe hr hm hbg hb8 HPG HCF HFL HL0 d1 hc hq63
        go_wp2_with fail
        refine wp_region_held_drew (S := (fun w' => w'.cell? ⟨pb, po + i, none⟩ = some (.int .i64 (bg : Int)) ∧ w'.cell? ⟨lb, lo + i, none⟩ = some (.slice xa q c))) (by kernel_rfl) HST.out (fun hS => ?_)
        refine wpAnyH_take (i := 0) (oi := ({ dst := some 46, op := Op.move (Operand.tmp 9), type := 32, pos := "ref.go:22", after := #[], guard := none } : Oper)) (v := ?_) rfl (by kernel_rfl) (by kernel_rfl) (by kernel_rfl) (fun _ _ _ h => h) (Or.inl ⟨by rfl, ?_⟩) hS ?_
        rotate_left
        · (intro w hSw; (try dsimp only at hSw); go_simp; try with_reducible rfl)
        (try simp only [Act.put, List.setIfInBounds_toArray, List.set_cons_zero, List.set_cons_succ])
        refine wpAnyH_take (i := 1) (oi := ({ dst := some 47, op := Op.move (Operand.tmp 15), type := 3, pos := "ref.go:22", after := #[], guard := none } : Oper)) (v := ?_) rfl (by kernel_rfl) (by kernel_rfl) (by kernel_rfl) (fun _ _ _ h => h) (Or.inl ⟨by rfl, ?_⟩) hS ?_
        rotate_left
        · (intro w hSw; (try dsimp only at hSw); go_simp; try with_reducible rfl)
        (try simp only [Act.put, List.setIfInBounds_toArray, List.set_cons_zero, List.set_cons_succ])
        refine wpAnyH_take (i := 2) (oi := ({ dst := some 48, op := Op.indexAddr 32 (Operand.tmp 46) (Operand.tmp 47), type := 0, pos := "ref.go:22", after := #[{ on := 0, ground := Ground.data }, { on := 1, ground := Ground.data }], guard := none } : Oper)) (v := ?_) rfl (by kernel_rfl) (by kernel_rfl) (by kernel_rfl) (fun _ _ _ h => h) (Or.inl ⟨by rfl, ?_⟩) hS ?_
        rotate_left
        · (intro w hSw; (try dsimp only at hSw); go_simp; try with_reducible rfl)
        (try simp only [Act.put, List.setIfInBounds_toArray, List.set_cons_zero, List.set_cons_succ])
        refine wpAnyH_take (i := 3) (oi := ({ dst := some 49, op := Op.load 3 (Operand.tmp 48), type := 3, pos := "ref.go:22", after := #[{ on := 2, ground := Ground.data }], guard := none } : Oper)) (v := ?_) rfl (by kernel_rfl) (by kernel_rfl) (by kernel_rfl) (fun _ _ _ h => h) (Or.inl ⟨by rfl, ?_⟩) hS ?_
        rotate_left
        · (intro w hSw; (try dsimp only at hSw); go_simp; try with_reducible rfl)
        (try simp only [Act.put, List.setIfInBounds_toArray, List.set_cons_zero, List.set_cons_succ])
        refine wpAnyH_take (i := 4) (oi := ({ dst := some 50, op := Op.move (Operand.tmp 1), type := 23, pos := "ref.go:22", after := #[], guard := none } : Oper)) (v := ?_) rfl (by kernel_rfl) (by kernel_rfl) (by kernel_rfl) (fun _ _ _ h => h) (Or.inl ⟨by rfl, ?_⟩) hS ?_
        rotate_left
        · (intro w hSw; (try dsimp only at hSw); go_simp; try with_reducible rfl)
        (try simp only [Act.put, List.setIfInBounds_toArray, List.set_cons_zero, List.set_cons_succ])
        refine wpAnyH_take (i := 5) (oi := ({ dst := some 51, op := Op.move (Operand.tmp 15), type := 3, pos := "ref.go:22", after := #[], guard := none } : Oper)) (v := ?_) rfl (by kernel_rfl) (by kernel_rfl) (by kernel_rfl) (fun _ _ _ h => h) (Or.inl ⟨by rfl, ?_⟩) hS ?_
        rotate_left
        · (intro w hSw; (try dsimp only at hSw); go_simp; try with_reducible rfl)
        (try simp only [Act.put, List.setIfInBounds_toArray, List.set_cons_zero, List.set_cons_succ])
        refine wpAnyH_take (i := 6) (oi := ({ dst := some 52, op := Op.indexAddr 23 (Operand.tmp 50) (Operand.tmp 51), type := 0, pos := "ref.go:22", after := #[{ on := 4, ground := Ground.data }, { on := 5, ground := Ground.data }], guard := none } : Oper)) (v := ?_) rfl (by kernel_rfl) (by kernel_rfl) (by kernel_rfl) (fun _ _ _ h => h) (Or.inl ⟨by rfl, ?_⟩) hS ?_
        rotate_left
        · (intro w hSw; (try dsimp only at hSw); go_simp; try with_reducible rfl)
        (try simp only [Act.put, List.setIfInBounds_toArray, List.set_cons_zero, List.set_cons_succ])
        refine wpAnyH_take (i := 7) (oi := ({ dst := some 53, op := Op.load 43 (Operand.tmp 52), type := 43, pos := "ref.go:22", after := #[{ on := 6, ground := Ground.data }], guard := none } : Oper)) (v := ?_) rfl (by kernel_rfl) (by kernel_rfl) (by kernel_rfl) (fun _ _ _ h => h) (Or.inl ⟨by rfl, ?_⟩) hS ?_
        rotate_left
        · (intro w hSw; (try dsimp only at hSw); go_simp; try with_reducible rfl)
        (try simp only [Act.put, List.setIfInBounds_toArray, List.set_cons_zero, List.set_cons_succ])
        refine wpAnyH_take (i := 8) (oi := ({ dst := some 54, op := Op.call { callee := Callee.builtin Builtin.len, args := #[Operand.tmp 53], argTypes := #[43] }, type := 3, pos := "ref.go:22", after := #[{ on := 7, ground := Ground.data }], guard := none } : Oper)) (v := ?_) rfl (by kernel_rfl) (by kernel_rfl) (by kernel_rfl) (fun _ _ _ h => h) (Or.inl ⟨by rfl, ?_⟩) hS ?_
        rotate_left
        · (intro w hSw; (try dsimp only at hSw); go_simp; try with_reducible rfl)
        (try simp only [Act.put, List.setIfInBounds_toArray, List.set_cons_zero, List.set_cons_succ])
        refine rg_one 9 ({ dst := some 55, op := Op.call { callee := Callee.value (Operand.func 20), args := #[Operand.tmp 49, Operand.tmp 54], argTypes := #[3, 3] }, type := 64, pos := "ref.go:22", after := #[{ on := 3, ground := Ground.data }, { on := 8, ground := Ground.data }], guard := none } : Oper) (by kernel_rfl) rfl (fun K hK => ?_)
        go_simp
        (go_at_call 20; (refine (HCT.out _).mono ?_); rintro r w2 ⟨v2, e2, f2, rfl, ho, hb⟩; have hN := (show w2.cell? ⟨pb, po + i, none⟩ = some (.int .i64 (bg : Int)) ∧ w2.cell? ⟨lb, lo + i, none⟩ = some (.slice xa q c) from ⟨cell_keep hb HST.out.1, cell_keep hb HST.out.2⟩); have HP2 := Lib.hid ho; have HB2 := Lib.hid (bch (Below.refl wo.heap.size wo).drew hb); clear hb ho)
        refine hK.out _ _ ?_ (fun hS1 => ?_)
        · (first | exact hN | exact hS)
        clear hK K hS; have hS := hS1; clear hS1
        (try simp only [Act.put, List.setIfInBounds_toArray, List.set_cons_zero, List.set_cons_succ])
        refine wpAnyH_take (i := 10) (oi := ({ dst := some 45, op := Op.move (Operand.tmp 55), type := 64, pos := "ref.go:22", after := #[{ on := 9, ground := Ground.data }], guard := none } : Oper)) (v := ?_) rfl (by kernel_rfl) (by kernel_rfl) (by kernel_rfl) (fun _ _ _ h => h) (Or.inl ⟨by rfl, ?_⟩) hS ?_
        rotate_left
        · (intro w hSw; (try dsimp only at hSw); go_simp; try with_reducible rfl)
        (try simp only [Act.put, List.setIfInBounds_toArray, List.set_cons_zero, List.set_cons_succ])
        refine wpAnyH_take (i := 11) (oi := ({ dst := some 56, op := Op.extract (Operand.tmp 45) 0, type := 63, pos := "ref.go:22", after := #[{ on := 10, ground := Ground.data }], guard := none } : Oper)) (v := ?_) rfl (by kernel_rfl) (by kernel_rfl) (by kernel_rfl) (fun _ _ _ h => h) (Or.inl ⟨by rfl, ?_⟩) hS ?_
        rotate_left
        · (intro w hSw; (try dsimp only at hSw); go_simp; try with_reducible rfl)
        (try simp only [Act.put, List.setIfInBounds_toArray, List.set_cons_zero, List.set_cons_succ])
        refine wpAnyH_take (i := 12) (oi := ({ dst := some 57, op := Op.extract (Operand.tmp 45) 1, type := 3, pos := "ref.go:22", after := #[{ on := 10, ground := Ground.data }, { on := 14, ground := Ground.gcOnly Departure.lateStores }], guard := none } : Oper)) (v := ?_) rfl (by kernel_rfl) (by kernel_rfl) (by kernel_rfl) (fun _ _ _ h => h) (Or.inl ⟨by rfl, ?_⟩) hS ?_
        rotate_left
        · (intro w hSw; (try dsimp only at hSw); go_simp; try with_reducible rfl)
        (try simp only [Act.put, List.setIfInBounds_toArray, List.set_cons_zero, List.set_cons_succ])
        refine wpAnyH_take (i := 13) (oi := ({ dst := some 58, op := Op.extract (Operand.tmp 45) 2, type := 4, pos := "ref.go:22", after := #[{ on := 10, ground := Ground.data }, { on := 15, ground := Ground.gcOnly Departure.lateStores }], guard := none } : Oper)) (v := ?_) rfl (by kernel_rfl) (by kernel_rfl) (by kernel_rfl) (fun _ _ _ h => h) (Or.inl ⟨by rfl, ?_⟩) hS ?_
        rotate_left
        · (intro w hSw; (try dsimp only at hSw); go_simp; try with_reducible rfl)
        (try simp only [Act.put, List.setIfInBounds_toArray, List.set_cons_zero, List.set_cons_succ])
        refine wpAnyH_take (i := 14) (oi := ({ dst := some 16, op := Op.assign (Operand.tmp 56), type := 63, pos := "ref.go:22", after := #[{ on := 11, ground := Ground.data }, { on := 9, ground := Ground.chain }, { on := 0, ground := Ground.phase }, { on := 1, ground := Ground.phase }, { on := 2, ground := Ground.phase }, { on := 3, ground := Ground.phase }, { on := 4, ground := Ground.phase }, { on := 5, ground := Ground.phase }, { on := 6, ground := Ground.phase }, { on := 7, ground := Ground.phase }, { on := 8, ground := Ground.phase }, { on := 9, ground := Ground.phase }, { on := 10, ground := Ground.phase }, { on := 11, ground := Ground.phase }, { on := 12, ground := Ground.textOnly Departure.lateStores }, { on := 13, ground := Ground.textOnly Departure.lateStores }], guard := none } : Oper)) (v := ?_) rfl (by kernel_rfl) (by kernel_rfl) (by kernel_rfl) (fun _ _ _ h => h) (Or.inl ⟨by rfl, ?_⟩) hS ?_
        rotate_left
        · (intro w hSw; (try dsimp only at hSw); go_simp; try with_reducible rfl)
        (try simp only [Act.put, List.setIfInBounds_toArray, List.set_cons_zero, List.set_cons_succ])
        refine wpAnyH_take (i := 15) (oi := ({ dst := some 17, op := Op.assign (Operand.tmp 57), type := 3, pos := "ref.go:22", after := #[{ on := 12, ground := Ground.data }, { on := 14, ground := Ground.chain }, { on := 0, ground := Ground.phase }, { on := 1, ground := Ground.phase }, { on := 2, ground := Ground.phase }, { on := 3, ground := Ground.phase }, { on := 4, ground := Ground.phase }, { on := 5, ground := Ground.phase }, { on := 6, ground := Ground.phase }, { on := 7, ground := Ground.phase }, { on := 8, ground := Ground.phase }, { on := 9, ground := Ground.phase }, { on := 10, ground := Ground.phase }, { on := 11, ground := Ground.phase }, { on := 12, ground := Ground.phase }, { on := 13, ground := Ground.textOnly Departure.lateStores }, { on := 14, ground := Ground.phase }], guard := none } : Oper)) (v := ?_) rfl (by kernel_rfl) (by kernel_rfl) (by kernel_rfl) (fun _ _ _ h => h) (Or.inl ⟨by rfl, ?_⟩) hS ?_
        rotate_left
        · (intro w hSw; (try dsimp only at hSw); go_simp; try with_reducible rfl)
        (try simp only [Act.put, List.setIfInBounds_toArray, List.set_cons_zero, List.set_cons_succ])
        refine wpAnyH_take (i := 16) (oi := ({ dst := some 18, op := Op.assign (Operand.tmp 58), type := 4, pos := "ref.go:22", after := #[{ on := 13, ground := Ground.data }, { on := 15, ground := Ground.chain }, { on := 0, ground := Ground.phase }, { on := 1, ground := Ground.phase }, { on := 2, ground := Ground.phase }, { on := 3, ground := Ground.phase }, { on := 4, ground := Ground.phase }, { on := 5, ground := Ground.phase }, { on := 6, ground := Ground.phase }, { on := 7, ground := Ground.phase }, { on := 8, ground := Ground.phase }, { on := 9, ground := Ground.phase }, { on := 10, ground := Ground.phase }, { on := 11, ground := Ground.phase }, { on := 12, ground := Ground.phase }, { on := 13, ground := Ground.phase }, { on := 14, ground := Ground.phase }, { on := 15, ground := Ground.phase }], guard := none } : Oper)) (v := ?_) rfl (by kernel_rfl) (by kernel_rfl) (by kernel_rfl) (fun _ _ _ h => h) (Or.inl ⟨by rfl, ?_⟩) hS ?_
        rotate_left
        · (intro w hSw; (try dsimp only at hSw); go_simp; try with_reducible rfl)
        (try simp only [Act.put, List.setIfInBounds_toArray, List.set_cons_zero, List.set_cons_succ])
        refine wpAnyH_done (by kernel_rfl) ?_ _
        clear hN hS
        obtain ⟨a2, c2, rfl⟩ := own_form HP2.out
        obtain ⟨C1, hC1⟩ : ∃ C1, clF ep B K ls (i + 1) = C1 := ⟨_, rfl⟩
        rw [hC1] at HCN
        have HCE := Lib.hid hC1
        obtain ⟨C0, hC0⟩ : ∃ C0, clF ep B K ls i = C0 := ⟨_, rfl⟩
        rw [hC0] at HCN HO
        clear hC1 hC0 HST
        have HO2 := Lib.hid (own_keep HO.out HB2.out)
        have HP3 := Lib.hid (own_mono HP2.out HB.out.size)
        have HW2 := Lib.hid (bch HB.out HB2.out)
        clear HP2 HB2
        go_wp2
        go_loopw [14, 19] (fun ov kv wr => ∃ (k n' : Nat) (oa : Option Addr) (oc : Nat), kv = .int .i64 (k : Int) ∧ ov = .slice oa n' oc ∧ k ≤ m ∧ n' ≤ on + k ∧ Hid (wr.ownsRow wf.heap.size 3 1 (.slice oa n' oc) n' (il .i64 (C0 ++ clR ep B K zs (ps.take k)))) ∧ Hid (wr.ownsRow wf.heap.size 67 4 (.slice a2 m c2) m (pF ps)) ∧ Hid (Below wf.heap.size wf wr)) (fun _ kv _ => m - (intOf kv).toNat)
        case atStart => exact ⟨0, on, oa, oc, rfl, rfl, by omega, by omega, Lib.hid (by rw [List.take_zero, clR_nil, List.append_nil]; exact HO2.out), HP3, HW2⟩
        case round =>
          obtain ⟨k, n', oa', oc', rfl, rfl, hk, hn', HOi, HPi, HBi⟩ := hrel
          rename World => wi
          clear HO2 HP3 HW2
          by_cases hkm : (k : Int) < (m : Int)
          · have hci : ps[k]? = some (ps[k]'(by have := HM.out; omega)) := List.getElem?_eq_getElem _
            obtain ⟨pcc, hpc⟩ : ∃ c, ps[k]'(by have := HM.out; omega) = c := ⟨_, rfl⟩
            rw [hpc] at hci
            obtain ⟨p, l, kk, hft⟩ := HPT.out k pcc hci
            have HPS : Hid (PS wi (.slice a2 m c2) ps) := Lib.hid (PS.own (by rw [HM.out]; exact HPi.out))
            obtain ⟨b1, o1, rfl, r1⟩ := HPS.out.at_ k pcc hci
            have HCI := Lib.hid hci
            have HCB : Hid (clB ep B K zs pcc = (decide ((scF ep B K p).2 ≠ 0) && !decide ((scF ep B K p).1 = frOf ep zs pcc))) := Lib.hid (by unfold clB; rw [hft.at_, Int.toNat_natCast])
            have HFD := Lib.hid (frOf_data (ep := ep) (zs := zs) hft.from_ hft.to)
            have HPB : Hid (p + 11 ≤ 832 ∧ l + kk ≤ q ∧ kk ≤ 197) := Lib.hid ⟨by have := hft.room; omega, hft.upto, hft.most⟩
            obtain ⟨ca, kd, cf, ct⟩ := pcc
            obtain rfl : ca = (p : Int) := hft.at_
            obtain rfl : cf = (l : Int) := hft.from_
            obtain ⟨h, hh⟩ : ∃ h, l + kk = h := ⟨_, rfl⟩
            have HH := Lib.hid hh
            obtain rfl : ct = (h : Int) := by rw [← hh]; exact hft.to
            obtain ⟨z0, z1, z2, z3⟩ := pc_cells r1
            have hlh : (l : Int) ≤ (h : Int) := by omega
            have hl63 : (h : Int) ≤ 9223372036854775807 := by have := HR.out.le; have := HPB.out.2.1; omega
            have hqc : q ≤ c := by obtain ⟨_, _, e, _, h1, _⟩ := HR.out; cases e; exact h1
            obtain ⟨sa, sc, hsl⟩ := sliced_form xa l kk c 1
            have HRC := Lib.hid (HR.out.cut l kk c (by have := HPB.out.2.1; omega) (by have := HPB.out.2.1; omega) (Nat.le_refl _))
            rw [hsl] at HRC
            have HSL := Lib.hid hsl
            have HDC : Hid (l + kk ≤ c) := Lib.hid (by have := HPB.out.2.1; omega)
            have HST : Hid (Below wf.heap.size wf wi.drew ∧ wi.drew.cell? ⟨b1, o1 + k * 4 + 1, none⟩ = some (.int .i64 kd) ∧ wi.drew.cell? ⟨b1, o1 + k * 4 + 2, none⟩ = some (.int .i64 (l : Int)) ∧ wi.drew.cell? ⟨b1, o1 + k * 4 + 3, none⟩ = some (.int .i64 (h : Int)) ∧ wi.drew.cell? ⟨lb, lo + i, none⟩ = some (.slice xa q c)) := Lib.hid ⟨HBi.out.drew, z1, z2, z3, cell_keep HBi.out.drew HD.out.2⟩
            have HOd := Lib.hid (own_keep HOi.out (Below.refl _ wi).drew)
            have HPd := Lib.hid (own_keep HPi.out (Below.refl _ wi).drew)
            clear hci hpc HPS r1 hh hft hsl z0 z1 z2 z3
            go_wp2_with fail
            refine wp_region_held_drew (S := (fun w' => Below wf.heap.size wf w' ∧ w'.cell? ⟨b1, o1 + k * 4 + 1, none⟩ = some (.int .i64 kd) ∧ w'.cell? ⟨b1, o1 + k * 4 + 2, none⟩ = some (.int .i64 (l : Int)) ∧ w'.cell? ⟨b1, o1 + k * 4 + 3, none⟩ = some (.int .i64 (h : Int)) ∧ w'.cell? ⟨lb, lo + i, none⟩ = some (.slice xa q c))) (by kernel_rfl) HST.out (fun hS => ?_)
            refine wpAnyH_take (i := 0) (oi := ({ dst := some 65, op := Op.move (Operand.tmp 16), type := 63, pos := "ref.go:24", after := #[], guard := none } : Oper)) (v := ?_) rfl (by kernel_rfl) (by kernel_rfl) (by kernel_rfl) (fun _ _ _ h => h) (Or.inl ⟨by rfl, ?_⟩) hS ?_
            rotate_left
            · (intro w hSw; (try dsimp only at hSw); go_simp; try with_reducible rfl)
            (try simp only [Act.put, List.setIfInBounds_toArray, List.set_cons_zero, List.set_cons_succ])
            refine wpAnyH_take (i := 1) (oi := ({ dst := some 66, op := Op.move (Operand.tmp 19), type := 3, pos := "ref.go:24", after := #[], guard := none } : Oper)) (v := ?_) rfl (by kernel_rfl) (by kernel_rfl) (by kernel_rfl) (fun _ _ _ h => h) (Or.inl ⟨by rfl, ?_⟩) hS ?_
            rotate_left
            · (intro w hSw; (try dsimp only at hSw); go_simp; try with_reducible rfl)
            (try simp only [Act.put, List.setIfInBounds_toArray, List.set_cons_zero, List.set_cons_succ])
            refine wpAnyH_take (i := 2) (oi := ({ dst := some 67, op := Op.indexAddr 63 (Operand.tmp 65) (Operand.tmp 66), type := 0, pos := "ref.go:24", after := #[{ on := 0, ground := Ground.data }, { on := 1, ground := Ground.data }], guard := none } : Oper)) (v := ?_) rfl (by kernel_rfl) (by kernel_rfl) (by kernel_rfl) (fun _ _ _ h => h) (Or.inl ⟨by rfl, ?_⟩) hS ?_
            rotate_left
            · (intro w hSw; (try dsimp only at hSw); go_simp; try with_reducible rfl)
            (try simp only [Act.put, List.setIfInBounds_toArray, List.set_cons_zero, List.set_cons_succ])
            refine wpAnyH_take (i := 3) (oi := ({ dst := some 68, op := Op.fieldAddr 67 (Operand.tmp 67) 1, type := 0, pos := "ref.go:24", after := #[{ on := 2, ground := Ground.data }], guard := none } : Oper)) (v := ?_) rfl (by kernel_rfl) (by kernel_rfl) (by kernel_rfl) (fun _ _ _ h => h) (Or.inl ⟨by rfl, ?_⟩) hS ?_
            rotate_left
            · (intro w hSw; (try dsimp only at hSw); go_simp; try with_reducible rfl)
            (try simp only [Act.put, List.setIfInBounds_toArray, List.set_cons_zero, List.set_cons_succ])
            refine wpAnyH_take (i := 4) (oi := ({ dst := some 69, op := Op.load 3 (Operand.tmp 68), type := 3, pos := "ref.go:24", after := #[{ on := 3, ground := Ground.data }], guard := none } : Oper)) (v := ?_) rfl (by kernel_rfl) (by kernel_rfl) (by kernel_rfl) (fun _ _ _ h => h) (Or.inl ⟨by rfl, ?_⟩) hS ?_
            rotate_left
            · (intro w hSw; (try dsimp only at hSw); go_simp; try with_reducible rfl)
            (try simp only [Act.put, List.setIfInBounds_toArray, List.set_cons_zero, List.set_cons_succ])
            refine wpAnyH_take (i := 5) (oi := ({ dst := some 70, op := Op.move (Operand.tmp 0), type := 22, pos := "ref.go:24", after := #[], guard := none } : Oper)) (v := ?_) rfl (by kernel_rfl) (by kernel_rfl) (by kernel_rfl) (fun _ _ _ h => h) (Or.inl ⟨by rfl, ?_⟩) hS ?_
            rotate_left
            · (intro w hSw; (try dsimp only at hSw); go_simp; try with_reducible rfl)
            (try simp only [Act.put, List.setIfInBounds_toArray, List.set_cons_zero, List.set_cons_succ])
            refine wpAnyH_take (i := 6) (oi := ({ dst := some 71, op := Op.binOp BinOp.rem 22 (Operand.tmp 70) (Operand.const (Value.int IntKind.u64 4294967296)) 22, type := 22, pos := "ref.go:24", after := #[{ on := 5, ground := Ground.data }], guard := none } : Oper)) (v := .int .u64 ep) rfl (by kernel_rfl) (by kernel_rfl) (by kernel_rfl) (fun _ _ _ h => h) (Or.inl ⟨by rfl, ?_⟩) hS ?_
            · (intro w hSw; (try dsimp only at hSw); have z := HTM.out; have z2 := HWU.out; go_simp; (try simp [z, z2]))
            (try simp only [Act.put, List.setIfInBounds_toArray, List.set_cons_zero, List.set_cons_succ])
            refine wpAnyH_take (i := 7) (oi := ({ dst := some 72, op := Op.convert 22 68 (Operand.tmp 71), type := 68, pos := "ref.go:24", after := #[{ on := 6, ground := Ground.data }], guard := none } : Oper)) (v := .int .u32 ep) rfl (by kernel_rfl) (by kernel_rfl) (by kernel_rfl) (fun _ _ _ h => h) (Or.inl ⟨by rfl, ?_⟩) hS ?_
            · (intro w hSw; (try dsimp only at hSw); have z := HW32.out; go_simp; (try exact z))
            (try simp only [Act.put, List.setIfInBounds_toArray, List.set_cons_zero, List.set_cons_succ])
            refine wpAnyH_take (i := 8) (oi := ({ dst := some 73, op := Op.move (Operand.tmp 1), type := 23, pos := "ref.go:24", after := #[], guard := none } : Oper)) (v := ?_) rfl (by kernel_rfl) (by kernel_rfl) (by kernel_rfl) (fun _ _ _ h => h) (Or.inl ⟨by rfl, ?_⟩) hS ?_
            rotate_left
            · (intro w hSw; (try dsimp only at hSw); go_simp; try with_reducible rfl)
            (try simp only [Act.put, List.setIfInBounds_toArray, List.set_cons_zero, List.set_cons_succ])
            refine wpAnyH_take (i := 9) (oi := ({ dst := some 74, op := Op.move (Operand.tmp 15), type := 3, pos := "ref.go:24", after := #[], guard := none } : Oper)) (v := ?_) rfl (by kernel_rfl) (by kernel_rfl) (by kernel_rfl) (fun _ _ _ h => h) (Or.inl ⟨by rfl, ?_⟩) hS ?_
            rotate_left
            · (intro w hSw; (try dsimp only at hSw); go_simp; try with_reducible rfl)
            (try simp only [Act.put, List.setIfInBounds_toArray, List.set_cons_zero, List.set_cons_succ])
            refine wpAnyH_take (i := 10) (oi := ({ dst := some 75, op := Op.indexAddr 23 (Operand.tmp 73) (Operand.tmp 74), type := 0, pos := "ref.go:24", after := #[{ on := 8, ground := Ground.data }, { on := 9, ground := Ground.data }], guard := none } : Oper)) (v := ?_) rfl (by kernel_rfl) (by kernel_rfl) (by kernel_rfl) (fun _ _ _ h => h) (Or.inl ⟨by rfl, ?_⟩) hS ?_
            rotate_left
            · (intro w hSw; (try dsimp only at hSw); go_simp; try with_reducible rfl)
            (try simp only [Act.put, List.setIfInBounds_toArray, List.set_cons_zero, List.set_cons_succ])
            refine wpAnyH_take (i := 11) (oi := ({ dst := some 76, op := Op.load 43 (Operand.tmp 75), type := 43, pos := "ref.go:24", after := #[{ on := 10, ground := Ground.data }], guard := none } : Oper)) (v := ?_) rfl (by kernel_rfl) (by kernel_rfl) (by kernel_rfl) (fun _ _ _ h => h) (Or.inl ⟨by rfl, ?_⟩) hS ?_
            rotate_left
            · (intro w hSw; (try dsimp only at hSw); go_simp; try with_reducible rfl)
            (try simp only [Act.put, List.setIfInBounds_toArray, List.set_cons_zero, List.set_cons_succ])
            refine wpAnyH_take (i := 12) (oi := ({ dst := some 77, op := Op.move (Operand.tmp 16), type := 63, pos := "ref.go:24", after := #[], guard := none } : Oper)) (v := ?_) rfl (by kernel_rfl) (by kernel_rfl) (by kernel_rfl) (fun _ _ _ h => h) (Or.inl ⟨by rfl, ?_⟩) hS ?_
            rotate_left
            · (intro w hSw; (try dsimp only at hSw); go_simp; try with_reducible rfl)
            (try simp only [Act.put, List.setIfInBounds_toArray, List.set_cons_zero, List.set_cons_succ])
            refine wpAnyH_take (i := 13) (oi := ({ dst := some 78, op := Op.move (Operand.tmp 19), type := 3, pos := "ref.go:24", after := #[], guard := none } : Oper)) (v := ?_) rfl (by kernel_rfl) (by kernel_rfl) (by kernel_rfl) (fun _ _ _ h => h) (Or.inl ⟨by rfl, ?_⟩) hS ?_
            rotate_left
            · (intro w hSw; (try dsimp only at hSw); go_simp; try with_reducible rfl)
            (try simp only [Act.put, List.setIfInBounds_toArray, List.set_cons_zero, List.set_cons_succ])
            refine wpAnyH_take (i := 14) (oi := ({ dst := some 79, op := Op.indexAddr 63 (Operand.tmp 77) (Operand.tmp 78), type := 0, pos := "ref.go:24", after := #[{ on := 12, ground := Ground.data }, { on := 13, ground := Ground.data }], guard := none } : Oper)) (v := ?_) rfl (by kernel_rfl) (by kernel_rfl) (by kernel_rfl) (fun _ _ _ h => h) (Or.inl ⟨by rfl, ?_⟩) hS ?_
            rotate_left
            · (intro w hSw; (try dsimp only at hSw); go_simp; try with_reducible rfl)
            (try simp only [Act.put, List.setIfInBounds_toArray, List.set_cons_zero, List.set_cons_succ])
            refine wpAnyH_take (i := 15) (oi := ({ dst := some 80, op := Op.fieldAddr 67 (Operand.tmp 79) 2, type := 0, pos := "ref.go:24", after := #[{ on := 14, ground := Ground.data }], guard := none } : Oper)) (v := ?_) rfl (by kernel_rfl) (by kernel_rfl) (by kernel_rfl) (fun _ _ _ h => h) (Or.inl ⟨by rfl, ?_⟩) hS ?_
            rotate_left
            · (intro w hSw; (try dsimp only at hSw); go_simp; try with_reducible rfl)
            (try simp only [Act.put, List.setIfInBounds_toArray, List.set_cons_zero, List.set_cons_succ])
            refine wpAnyH_take (i := 16) (oi := ({ dst := some 81, op := Op.load 3 (Operand.tmp 80), type := 3, pos := "ref.go:24", after := #[{ on := 15, ground := Ground.data }], guard := none } : Oper)) (v := ?_) rfl (by kernel_rfl) (by kernel_rfl) (by kernel_rfl) (fun _ _ _ h => h) (Or.inl ⟨by rfl, ?_⟩) hS ?_
            rotate_left
            · (intro w hSw; (try dsimp only at hSw); go_simp; try with_reducible rfl)
            (try simp only [Act.put, List.setIfInBounds_toArray, List.set_cons_zero, List.set_cons_succ])
            refine wpAnyH_take (i := 17) (oi := ({ dst := some 82, op := Op.move (Operand.tmp 16), type := 63, pos := "ref.go:24", after := #[], guard := none } : Oper)) (v := ?_) rfl (by kernel_rfl) (by kernel_rfl) (by kernel_rfl) (fun _ _ _ h => h) (Or.inl ⟨by rfl, ?_⟩) hS ?_
            rotate_left
            · (intro w hSw; (try dsimp only at hSw); go_simp; try with_reducible rfl)
            (try simp only [Act.put, List.setIfInBounds_toArray, List.set_cons_zero, List.set_cons_succ])
            refine wpAnyH_take (i := 18) (oi := ({ dst := some 83, op := Op.move (Operand.tmp 19), type := 3, pos := "ref.go:24", after := #[], guard := none } : Oper)) (v := ?_) rfl (by kernel_rfl) (by kernel_rfl) (by kernel_rfl) (fun _ _ _ h => h) (Or.inl ⟨by rfl, ?_⟩) hS ?_
            rotate_left
            · (intro w hSw; (try dsimp only at hSw); go_simp; try with_reducible rfl)
            (try simp only [Act.put, List.setIfInBounds_toArray, List.set_cons_zero, List.set_cons_succ])
            refine wpAnyH_take (i := 19) (oi := ({ dst := some 84, op := Op.indexAddr 63 (Operand.tmp 82) (Operand.tmp 83), type := 0, pos := "ref.go:24", after := #[{ on := 17, ground := Ground.data }, { on := 18, ground := Ground.data }], guard := none } : Oper)) (v := ?_) rfl (by kernel_rfl) (by kernel_rfl) (by kernel_rfl) (fun _ _ _ h => h) (Or.inl ⟨by rfl, ?_⟩) hS ?_
            rotate_left
            · (intro w hSw; (try dsimp only at hSw); go_simp; try with_reducible rfl)
            (try simp only [Act.put, List.setIfInBounds_toArray, List.set_cons_zero, List.set_cons_succ])
            refine wpAnyH_take (i := 20) (oi := ({ dst := some 85, op := Op.fieldAddr 67 (Operand.tmp 84) 3, type := 0, pos := "ref.go:24", after := #[{ on := 19, ground := Ground.data }], guard := none } : Oper)) (v := ?_) rfl (by kernel_rfl) (by kernel_rfl) (by kernel_rfl) (fun _ _ _ h => h) (Or.inl ⟨by rfl, ?_⟩) hS ?_
            rotate_left
            · (intro w hSw; (try dsimp only at hSw); go_simp; try with_reducible rfl)
            (try simp only [Act.put, List.setIfInBounds_toArray, List.set_cons_zero, List.set_cons_succ])
            refine wpAnyH_take (i := 21) (oi := ({ dst := some 86, op := Op.load 3 (Operand.tmp 85), type := 3, pos := "ref.go:24", after := #[{ on := 20, ground := Ground.data }], guard := none } : Oper)) (v := ?_) rfl (by kernel_rfl) (by kernel_rfl) (by kernel_rfl) (fun _ _ _ h => h) (Or.inl ⟨by rfl, ?_⟩) hS ?_
            rotate_left
            · (intro w hSw; (try dsimp only at hSw); go_simp; try with_reducible rfl)
            (try simp only [Act.put, List.setIfInBounds_toArray, List.set_cons_zero, List.set_cons_succ])
            refine wpAnyH_take (i := 22) (oi := ({ dst := some 87, op := Op.slice 43 (Operand.tmp 76) (some (Operand.tmp 81)) (some (Operand.tmp 86)) none, type := 43, pos := "ref.go:24", after := #[{ on := 11, ground := Ground.data }, { on := 16, ground := Ground.data }, { on := 21, ground := Ground.data }], guard := none } : Oper)) (v := .slice sa kk sc) rfl (by kernel_rfl) (by kernel_rfl) (by kernel_rfl) (fun _ _ _ h => h) (Or.inl ⟨by rfl, ?_⟩) hS ?_
            · (intro w hSw; (try dsimp only at hSw); exact (exec_cut_lh (.tmp 76) (.tmp 81) (.tmp 86) rfl xa q c l kk rfl rfl (by rw [HH.out]; rfl) HDC.out).trans (by rw [HSL.out]))
            (try simp only [Act.put, List.setIfInBounds_toArray, List.set_cons_zero, List.set_cons_succ])
            refine wpAnyH_take (i := 23) (oi := ({ dst := some 88, op := Op.build 70 #[(0, Operand.tmp 69), (1, Operand.tmp 72), (2, Operand.tmp 87)], type := 70, pos := "ref.go:24", after := #[{ on := 4, ground := Ground.data }, { on := 7, ground := Ground.data }, { on := 22, ground := Ground.data }], guard := none } : Oper)) (v := .agg #[.int .i64 kd, .int .u32 ep, .slice sa kk sc]) rfl (by kernel_rfl) (by kernel_rfl) (by kernel_rfl) (fun _ _ _ h => h) (Or.inl ⟨by rfl, ?_⟩) hS ?_
            · (intro w hSw; (try dsimp only at hSw); go_simp)
            (try simp only [Act.put, List.setIfInBounds_toArray, List.set_cons_zero, List.set_cons_succ])
            refine rg_one 24 ({ dst := some 20, op := Op.alloc 70, type := 0, pos := "ref.go:24", after := #[], guard := none } : Oper) (by kernel_rfl) rfl (fun K hK => ?_)
            rw [if_pos (by rfl)]; refine wp_new_fr rfl ?_; intro g w5 HG hgl hb; have hN := (show Below wf.heap.size wf w5 ∧ w5.cell? ⟨b1, o1 + k * 4 + 1, none⟩ = some (.int .i64 kd) ∧ w5.cell? ⟨b1, o1 + k * 4 + 2, none⟩ = some (.int .i64 (l : Int)) ∧ w5.cell? ⟨b1, o1 + k * 4 + 3, none⟩ = some (.int .i64 (h : Int)) ∧ w5.cell? ⟨lb, lo + i, none⟩ = some (.slice xa q c) from ⟨bch hS.1 hb.out, cell_keep hb.out hS.2.1, cell_keep hb.out hS.2.2.1, cell_keep hb.out hS.2.2.2.1, cell_keep hb.out hS.2.2.2.2⟩); have HO5 := Lib.hid (own_keep HOd.out hb.out); have HP5 := Lib.hid (own_keep HPd.out hb.out); have HGL := Lib.hid (Nat.le_trans hS.1.size hgl.out); have HGD : Hid (wi.drew.heap.size ≤ g) := hgl; have HGB : Hid (b1 < g ∧ lb < g) := Lib.hid ⟨Nat.lt_of_lt_of_le (World.block_lt_of_cell? _ _ HST.out.2.1) hgl.out, Nat.lt_of_lt_of_le (World.block_lt_of_cell? _ _ HST.out.2.2.2.2) hgl.out⟩; clear hgl hb
            refine hK.out _ _ ?_ (fun hS1 => ?_)
            · (first | exact hN | exact hS)
            clear hK K hS; have hS := hS1; clear hS1
            (try simp only [Act.put, List.setIfInBounds_toArray, List.set_cons_zero, List.set_cons_succ])
            refine rg_one 25 ({ dst := none, op := Op.store 70 (Operand.tmp 20) (Operand.tmp 88), type := 0, pos := "ref.go:24", after := #[{ on := 24, ground := Ground.data }, { on := 23, ground := Ground.data }, { on := 0, ground := Ground.phase }, { on := 1, ground := Ground.phase }, { on := 2, ground := Ground.phase }, { on := 3, ground := Ground.phase }, { on := 4, ground := Ground.phase }, { on := 5, ground := Ground.phase }, { on := 6, ground := Ground.phase }, { on := 7, ground := Ground.phase }, { on := 8, ground := Ground.phase }, { on := 9, ground := Ground.phase }, { on := 10, ground := Ground.phase }, { on := 11, ground := Ground.phase }, { on := 12, ground := Ground.phase }, { on := 13, ground := Ground.phase }, { on := 14, ground := Ground.phase }, { on := 15, ground := Ground.phase }, { on := 16, ground := Ground.phase }, { on := 17, ground := Ground.phase }, { on := 18, ground := Ground.phase }, { on := 19, ground := Ground.phase }, { on := 20, ground := Ground.phase }, { on := 21, ground := Ground.phase }, { on := 22, ground := Ground.phase }, { on := 23, ground := Ground.phase }, { on := 24, ground := Ground.phase }], guard := none } : Oper) (by kernel_rfl) rfl (fun K hK => ?_)
            rw [if_pos (by rfl)]; refine wp_put_fr (.tmp 20) (.tmp 88) rfl g HG.out kd ep sa kk sc rfl rfl ?_; intro w6 HF6 HG6; have hb6 : Below wf.heap.size wf w6 := below_over hS.1 HG6.out HGL.out hS.1.size; have HO6 := Lib.hid (own_over HO5.out HG6.out (fun q hq e => by have h1 := (HOd.out.lt q hq).2; have h2 := HGD.out; have h3 := Option.some.inj e; omega)); have HP6 := Lib.hid (own_over HP5.out HG6.out (fun q hq e => by have h1 := (HPd.out.lt q hq).2; have h2 := HGD.out; have h3 := Option.some.inj e; omega)); have hN := (show Below wf.heap.size wf w6 ∧ w6.cell? ⟨b1, o1 + k * 4 + 1, none⟩ = some (.int .i64 kd) ∧ w6.cell? ⟨b1, o1 + k * 4 + 2, none⟩ = some (.int .i64 (l : Int)) ∧ w6.cell? ⟨b1, o1 + k * 4 + 3, none⟩ = some (.int .i64 (h : Int)) ∧ w6.cell? ⟨lb, lo + i, none⟩ = some (.slice xa q c) from ⟨hb6, HG6.out.cell hS.2.1 (fun e => by have h2 := HGB.out; have h3 := Option.some.inj e; simp at h3; omega), HG6.out.cell hS.2.2.1 (fun e => by have h2 := HGB.out; have h3 := Option.some.inj e; simp at h3; omega), HG6.out.cell hS.2.2.2.1 (fun e => by have h2 := HGB.out; have h3 := Option.some.inj e; simp at h3; omega), HG6.out.cell hS.2.2.2.2 (fun e => by have h2 := HGB.out; have h3 := Option.some.inj e; simp at h3; omega)⟩)
            refine hK.out _ _ ?_ (fun hS1 => ?_)
            · (first | exact hN | exact hS)
            clear hK K hS; have hS := hS1; clear hS1
            (try simp only [Act.put])
            refine wpAnyH_done (by kernel_rfl) ?_ _
            have HW6 := Lib.hid hS.1
            clear hS hN HG HO5 HP5 HOd HPd HG6 HOi HPi
            have HPS6 : Hid (PS w6 (.slice (some ⟨b1, o1, none⟩) m c2) ps) := Lib.hid (PS.own (by rw [HM.out]; exact HP6.out))
            have z0 := (pc_cells (PS.at2 HPS6.out k _ HCI.out)).1
            have HBV6 := Lib.hid (HBV.out.keep HW6.out)
            have HKV6 := Lib.hid (HKV.out.kin (Kin.below HW6.out))
            have HAC6 := Lib.hid (HAC.out w6 bv kv p HBV6.out HKV6.out HPB.out.1)
            have HFB6 := Lib.hid (HFB.out p (by have := HPB.out.1; omega))
            have HRC6 := Lib.hid (HRC.out.keep HW6.out)
            have HDB : Hid (isB ((zs.drop l).take kk)) := Lib.hid ((HZB.out.drop _).take _)
            by_cases h0 : (scF ep B K p).2 = 0
            · have HNO : Hid (clB ep B K zs ⟨p, kd, l, h⟩ = false) := Lib.hid (clB_none (by show (scF ep B K (p : Int).toNat).2 = 0; rw [Int.toNat_natCast]; exact h0))
              have HCN2 := Lib.hid (clR_no HCI.out HNO.out)
              have HA7 : Hid (Calls Tryd.prog 21 #[.int .u64 x, bv, kv, .int .i64 p] w6 fun r w' => ∃ k7 e7 p7 n7 c7, r = .returned (.tuple #[.agg (fA k7 e7 (.slice p7 n7 c7)), .int .i64 0]) ∧ Below w6.heap.size w6 w') := Lib.hid (HAC6.out.mono fun r w' ⟨pp, cc, h1, _, h3⟩ => ⟨_, _, pp, _, cc, by rw [h0] at h1; exact h1, h3⟩)
              clear h0 HAC6 HFB6 HAC HCB
              go_wp2_with (first
                | (go_at_call 21; (refine HA7.out.mono ?_); rintro r w7 ⟨k7, e7, p7, n7, c7, rfl, hb⟩;  have HB7 := Lib.hid (bch HW6.out hb); have HO7 := Lib.hid (own_keep HO6.out hb); have HP7 := Lib.hid (own_keep HP6.out hb); have HF7 := Lib.hid (HF6.out.keep hb); clear hb)
                | (refine wpl_put_fr rfl (.tmp 21) (.tmp 99) rfl w7.heap.size (FO.alloc w7) k7 e7 p7 n7 c7 rfl rfl ?_; intro w8 HF8 HG8; have hb8 : Below w7.heap.size w7 w8 := below_over (balloc w7 _) HG8.out (Nat.le_refl _) (balloc w7 _).size; have HB8 := Lib.hid (bch HB7.out hb8); have HO8 := Lib.hid (own_keep HO7.out hb8); have HP8 := Lib.hid (own_keep HP7.out hb8); have HT8 := Lib.hid (HF7.out.keep hb8);  clear hb8)
                | (refine wpl_load_fr (by rfl) (.tmp 21) rfl rfl HF8.out ?_)
                | (refine wpl_load_fr (by rfl) (.tmp 20) rfl rfl HT8.out ?_))
              go_roundw
              case rel => exact ⟨k + 1, n', oa', oc', by go_num, rfl, by omega, by omega, by rw [HCN2.out]; exact HO8, HP8, HB8⟩
              case measure => simp [intOf]; omega
            · obtain ⟨z, hz⟩ : ∃ z : Nat, (scF ep B K p).2 = z := ⟨_, rfl⟩
              have HZG : Hid ((0 : Int) < (z : Int)) := Lib.hid (by omega)
              have HZ : Hid ((scF ep B K p).2 ≠ 0) := Lib.hid h0

              have hz8 : (z : Int) ≤ 832 := by
                have h9 := scF_some h0
                obtain ⟨_, _, q3, _, q5⟩ := h9
                have q6 := scD_parts HBL.out (by have := HPB.out.1; omega) q3
                rw [q5] at hz
                have : (scD ep B p).2.1 = z := hz
                omega
              have HA7 : Hid (Calls Tryd.prog 21 #[.int .u64 x, bv, kv, .int .i64 p] w6 fun r w' => ∃ p7 n7 c7, r = .returned (.tuple #[.agg (fA (scF ep B K p).1.kind (scF ep B K p).1.epoch (.slice p7 n7 c7)), .int .i64 (z : Nat)]) ∧ RI .u8 w' (.slice p7 n7 c7) n7 (scF ep B K p).1.data ∧ Below w6.heap.size w6 w') := Lib.hid (HAC6.out.mono fun r w' ⟨pp, cc, h1, h2, h3⟩ => ⟨pp, _, cc, by rw [hz] at h1; exact h1, RI.own h2, h3⟩)
              rw [decide_eq_true h0, Bool.true_and, HFD.out] at HCB
              clear h0 hz HAC6 HAC HZ
              generalize (scF ep B K p).1 = F at *
              obtain ⟨k7, e7, d7⟩ := F
              dsimp only at HA7 HFB6 HCB
              obtain ⟨y, hy⟩ : ∃ y, decide ((⟨k7, e7, d7⟩ : FR) = ⟨kd, ep, (zs.drop l).take kk⟩) = y := ⟨_, rfl⟩
              have HSM : Hid (∀ (w : World) (pa : Option Addr) (n c : Nat), RI .u8 w (.slice pa n c) n d7 → RI .u8 w (.slice sa kk sc) kk ((zs.drop l).take kk) → Calls Tryd.prog 22 #[.agg (fA k7 e7 (.slice pa n c)), .agg (fA kd ep (.slice sa kk sc))] w fun r w' => r = .returned (.bool y) ∧ Below w.heap.size w w') := Lib.hid fun w pa n c q1 q2 => by
                rw [← hy]; exact rfsame_any k7 e7 _ n d7 kd ep _ kk _ w q1 q2 HFB6.out HDB.out
              rw [hy] at HCB
              clear hy HFB6
              cases y with
              | true =>
                have HCN2 := Lib.hid (clR_no HCI.out HCB.out)
                go_wp2_with (first
                  | (go_at_call 21; (refine HA7.out.mono ?_); rintro r w7 ⟨p7, n7, c7, rfl, hr, hb⟩; have HR7 := Lib.hid hr; have HW7 := Lib.hid (HRC6.out.keep hb); clear hr; have HB7 := Lib.hid (bch HW6.out hb); have HO7 := Lib.hid (own_keep HO6.out hb); have HP7 := Lib.hid (own_keep HP6.out hb); have HF7 := Lib.hid (HF6.out.keep hb); clear hb)
                  | (refine wpl_put_fr rfl (.tmp 21) (.tmp 99) rfl w7.heap.size (FO.alloc w7) k7 e7 p7 n7 c7 rfl rfl ?_; intro w8 HF8 HG8; have hb8 : Below w7.heap.size w7 w8 := below_over (balloc w7 _) HG8.out (Nat.le_refl _) (balloc w7 _).size; have HB8 := Lib.hid (bch HB7.out hb8); have HO8 := Lib.hid (own_keep HO7.out hb8); have HP8 := Lib.hid (own_keep HP7.out hb8); have HT8 := Lib.hid (HF7.out.keep hb8); have HR8 := Lib.hid (HR7.out.keep hb8); have HW8 := Lib.hid (HW7.out.keep hb8); clear hb8)
                  | (refine wpl_load_fr (by rfl) (.tmp 21) rfl rfl HF8.out ?_)
                  | (refine wpl_load_fr (by rfl) (.tmp 20) rfl rfl HT8.out ?_)
                  | (refine wpl_val (v := .bool true) rfl (gt_exec (.tmp 101) (z : Int) rfl rfl HZG.out) ?_)
                  | (go_at_call 22; (refine (HSM.out _ _ _ _ HR8.out HW8.out).mono ?_); rintro r w9 ⟨rfl, hb⟩; have HB9 := Lib.hid (bch HB8.out hb); have HO9 := Lib.hid (own_keep HO8.out hb); have HP9 := Lib.hid (own_keep HP8.out hb);  clear hb))
                go_roundw
                case rel => exact ⟨k + 1, n', oa', oc', by go_num, rfl, by omega, by omega, by rw [HCN2.out]; exact HO9, HP9, HB9⟩
                case measure => simp [intOf]; omega
              | false =>
                have HCN2 := Lib.hid (clR_yes HCI.out HCB.out)
                go_wp2_with (first
                  | (go_at_call 21; (refine HA7.out.mono ?_); rintro r w7 ⟨p7, n7, c7, rfl, hr, hb⟩; have HR7 := Lib.hid hr; have HW7 := Lib.hid (HRC6.out.keep hb); clear hr; have HB7 := Lib.hid (bch HW6.out hb); have HO7 := Lib.hid (own_keep HO6.out hb); have HP7 := Lib.hid (own_keep HP6.out hb); have HF7 := Lib.hid (HF6.out.keep hb); clear hb)
                  | (refine wpl_put_fr rfl (.tmp 21) (.tmp 99) rfl w7.heap.size (FO.alloc w7) k7 e7 p7 n7 c7 rfl rfl ?_; intro w8 HF8 HG8; have hb8 : Below w7.heap.size w7 w8 := below_over (balloc w7 _) HG8.out (Nat.le_refl _) (balloc w7 _).size; have HB8 := Lib.hid (bch HB7.out hb8); have HO8 := Lib.hid (own_keep HO7.out hb8); have HP8 := Lib.hid (own_keep HP7.out hb8); have HT8 := Lib.hid (HF7.out.keep hb8); have HR8 := Lib.hid (HR7.out.keep hb8); have HW8 := Lib.hid (HW7.out.keep hb8); clear hb8)
                  | (refine wpl_load_fr (by rfl) (.tmp 21) rfl rfl HF8.out ?_)
                  | (refine wpl_load_fr (by rfl) (.tmp 20) rfl rfl HT8.out ?_)
                  | (refine wpl_val (v := .bool true) rfl (gt_exec (.tmp 101) (z : Int) rfl rfl HZG.out) ?_)
                  | (go_at_call 22; (refine (HSM.out _ _ _ _ HR8.out HW8.out).mono ?_); rintro r w9 ⟨rfl, hb⟩; have HB9 := Lib.hid (bch HB8.out hb); have HO9 := Lib.hid (own_keep HO8.out hb); have HP9 := Lib.hid (own_keep HP8.out hb); have y0 := (pc_cells (PS.at2 (PS.own (by rw [HM.out]; exact HP9.out)) k _ HCI.out)).1; clear hb)
                  | (at_builtin; refine wpl_appw rfl (.tmp 109) (.tmp 115) 32 rfl 3 .i64 8 Tryd.underlying32 Tryd.info_i64 wf.heap.size _ n' _ rfl (HO9.out.alloc (.cells #[.int .i64 (p : Int)] 3)) _ 1 [(p : Int)] rfl (ri_new1 w9 p) (by omega) (by omega) (by have := HB9.out.size; simp; omega) ?_; intro v10 w10 HO10 HG10 _; obtain ⟨a10, c10, rfl⟩ := own_form HO10.out; have HP10 := Lib.hid (own_over (own_keep HP9.out (balloc w9 (.cells #[.int .i64 (p : Int)] 3))) HG10.out (own_types (own_keep HP9.out (balloc w9 (.cells #[.int .i64 (p : Int)] 3))) (HO9.out.alloc (.cells #[.int .i64 (p : Int)] 3)) (by decide))); have HB10 : Hid (Below wf.heap.size wf w10) := Lib.hid ((HB9.out.alloc HB9.out.size (.cells #[.int .i64 (p : Int)] 3)).grown HG10.out (by have := HB9.out.size; simp; omega) (fun q hq => (HO9.out.lt q hq).1))))
                go_roundw
                case rel => exact ⟨k + 1, n' + 1, a10, c10, by go_num, rfl, by omega, by omega, by rw [HCN2.out, ← List.append_assoc]; exact HO10, HP10, HB10⟩
                case measure => simp [intOf]; omega
          · obtain rfl : k = m := by omega
            have HCL : Hid (C0 ++ clR ep B K zs (ps.take k) = C1) := Lib.hid (by rw [HCN.out, List.take_of_length_le (by rw [HM.out]; omega)])
            rw [HCL.out] at HOi
            have hm75 : n' ≤ 75 * (i + 1) := by omega
            rw [← HCE.out] at HOi
            go_wp2
            go_roundw
            case rel => exact ⟨i + 1, n', oa', oc', by go_num, rfl, by omega, hm75, HOi, HBi⟩
            case measure => simp [intOf]; omega
      · obtain rfl : i = N := by omega
        go_wp2
        go_ret2
        exact ⟨oa, on, oc, rfl, by rw [HLL.out]; exact RI.own HO.out, bch HBF.out HB.out⟩
end Go.Proofs.YtepaghohojomeaaDoor
