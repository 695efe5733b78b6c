/-
  TEXTS JOINED: FragBlk, ScanFr, Put, FragRef, CrcCode, FragHead, PutGet. Each one's own words stand at its head.
-/
import Derived.Test.YtepaghohojomeaaDoorJ4
import Derived.Test.YtepaghohojomeaaDoorJ1
import Derived.Test.YtepaghohojomeaaDoorJ3
import Derived.Lib.SlBytesConst
import Derived.Test.YtepaghohojomeaaDoorJ5
import Derived.Deep.MidRow
import Derived.Deep.WholeRow
import Derived.Lib.SmallJoins
import Derived.ChangeKeysEq
import Derived.DeepKeys
import Derived.Laws.StructEq
/-
  A FRAGMENT IN A BLOCK: its cells, what stays and what changes, loads. Nothing here speaks of the program's functions. No condition.
-/
namespace Go.Proofs.YtepaghohojomeaaDoor
open Go.RowKit
abbrev fA (k e : Int) (v : Value) : Array Value := #[.int .i64 k, .int .u32 e, v]
theorem fr_info (c : Array Value) (h : c.size = 3) : (Tryd.prog.info? 70).map (·.size) = some c.size := by rw [h]; kernel_rfl
theorem fr_one (k e : Int) (a : Option Addr) (n m : Nat) : (fA k e (.slice a n m)).all (·.oneCell') = true := by simp [fA, Value.oneCell']
/-- the block b holds a fragment, its data's slice is v -/
def FO (w : World) (b : Nat) (k e : Int) (v : Value) : Prop := w.heap[b]? = some (.cells (fA k e v) 70 (0, 0))
section
variable {w w' : World} {b b' : Nat} {k e : Int} {v : Value}
theorem FO.lt (h : FO w b k e v) : b < w.heap.size := (Array.getElem?_eq_some_iff.1 h).1
theorem FO.keep (h : FO w b k e v) (hb : Below w.heap.size w w') : FO w' b k e v := (hb.block b h.lt).trans h
theorem FO.keepB {g : Nat} (h : FO w b k e v) (hb : Below g w w') (hlt : b < g) : FO w' b k e v := (hb.block b hlt).trans h
theorem FO.load (h : FO w b k e v) : (loadVar 70 ⟨b, 0, none⟩).run Tryd.prog w = .ok (.agg (fA k e v)) w :=
  run_loadVar_row w b _ 70 (fA k e v) (0, 0) _ h Tryd.underlying70 rfl (fr_info _ rfl)
theorem FO.row (h : FO w b k e v) (k' e' : Int) (v' : Value) : FO (w.setRow b (fA k' e' v')) b k' e' v' := setRow_heap w b _ _ _ _ h
theorem FO.apart (h : FO w b k e v) (hne : b ≠ b') (x : Array Value) : FO (w.setRow b' x) b k e v := (setRow_other w b' b x hne).trans h
theorem FO.set2 (h : FO w b k e v) (v' : Value) : FO (w.setCell ⟨b, 2, none⟩ v') b k e v' := Joins.block_setCell h _
theorem FO.set_apart (h : FO w b k e v) (hne : b ≠ b') (j : Nat) (x : Value) : FO (w.setCell ⟨b', j, none⟩ x) b k e v := (heap_setCell_other w ⟨b', j, none⟩ b x hne).trans h
theorem FO.frozen (h : FO w b k e v) (j : Nat) : w.frozen? ⟨b, j, none⟩ = false := Joins.unfrozen_of_block h j
theorem FO.cells (h : FO w b k e v) : w.cell? ⟨b, 0, none⟩ = some (.int .i64 k) ∧ w.cell? ⟨b, 1, none⟩ = some (.int .u32 e) ∧ w.cell? ⟨b, 2, none⟩ = some v :=
  ⟨cell_of_row w b 0 _ _ _ h, cell_of_row w b 1 _ _ _ h, cell_of_row w b 2 _ _ _ h⟩
theorem FO.alloc (w : World) : FO (w.alloc (.cells (fA k e v) 70)) w.heap.size k e v := heap_alloc_last w _
theorem FO.new (x : Array Value) : FO ((w.alloc (.cells x 70)).setRow w.heap.size (fA k e v)) w.heap.size k e v := setRow_heap _ _ _ _ _ _ (heap_alloc_last w _)
/-- a row of bytes is not the block of a fragment -/
theorem FO.ne_own (h : FO w b k e v) {base n : Nat} {u : Value} {xs : List Value} (ho : w.ownsRow base 5 1 u n xs) : ∀ q, u.ownBlock = some q → q ≠ b := by
  intro q hq e
  subst e
  rcases ho.2 with ⟨rfl, _⟩ | ⟨q', cap, cur, rfl, _, hcur, _⟩
  · simp [Value.ownBlock] at hq
  · simp only [Value.ownBlock, Option.some.injEq] at hq
    subst hq
    rw [h] at hcur
    simp only [Option.some.injEq, Obj.cells.injEq] at hcur
    exact absurd hcur.2.1 (by decide)
theorem FO.grown (h : FO w b k e v) {base n : Nat} {u : Value} {xs : List Value} (ho : w.ownsRow base 5 1 u n xs) (hg : w.grownBy w' u.ownBlock) : FO w' b k e v :=
  (hg.block b h.lt (fun e => h.ne_own ho b e.symm rfl)).trans h
theorem FO.row_own (h : FO w b k e v) (x : Array Value) {base n : Nat} {u : Value} {xs : List Value} (ho : w.ownsRow base 5 1 u n xs) : (w.setRow b x).ownsRow base 5 1 u n xs :=
  own_over ho ⟨rfl, rfl, rfl, by simp, fun i _ hne => setRow_other w b i x (fun e => hne (by rw [e]))⟩ (fun g hg e => h.ne_own ho g hg (Option.some.inj e))
theorem FO.set_own (h : FO w b k e v) (j : Nat) (x : Value) {base n : Nat} {u : Value} {xs : List Value} (ho : w.ownsRow base 5 1 u n xs) : (w.setCell ⟨b, j, none⟩ x).ownsRow base 5 1 u n xs :=
  own_over ho ⟨rfl, rfl, rfl, by simp, fun i _ hne => heap_setCell_other w ⟨b, j, none⟩ i x (fun e => hne (by rw [e]))⟩ (fun g hg e => h.ne_own ho g hg (Option.some.inj e))
theorem exec_load_fr {o : Oper} {a : Act} (x : Operand) (ho : o.op = .load 70 x) (hx : a.eval x = .pointer (some ⟨b, 0, none⟩)) (h : FO w b k e v) :
    (execOp a.eval o).run Tryd.prog w = .ok (.value (.agg (fA k e v))) w := by
  unfold execOp
  simp only [ho, hx, Instr.loadAt, Instr.sureAddr, Sem.run_bind, Sem.run_pure, Result.andThen_ok, h.load]
/-- .. guarded or not -/
theorem wpl_load_fr {ops : Array Oper} {rest : List Oper} {o : Oper} {a : Act} {Q : Exit → Act → World → Prop} (hw : Region.wanted o (yielded ops a.tmps) = true) (x : Operand) (ho : o.op = .load 70 x) (hx : a.eval x = .pointer (some ⟨b, 0, none⟩)) (h : FO w b k e v)
    (hk : wpList Tryd.prog ops Q rest (a.put o.dst (.agg (fA k e v))) w) : wpList Tryd.prog ops Q (o :: rest) a w := by
  unfold wpList
  rw [if_pos hw]
  exact Or.inl (wp_load_row 70 x ho b hx _ (fA k e v) (0, 0) _ h Tryd.underlying70 rfl (fr_info _ rfl) hk)
end
theorem fbelow2 (w : World) (x y : Obj) : Below w.heap.size w ((w.alloc x).alloc y) := bch (balloc w x) (balloc _ y)
theorem own_fin {w : World} {base : Nat} {e : TypeId} {v : Value} {n m : Nat} {xs ys : List Int} (h : w.ownsRow base e 1 v n (il .u8 xs)) (hx : xs = ys) (hm : ys.length = m) : w.ownsRow base e 1 v m (il .u8 ys) := by
  subst hx
  have h1 := h.1
  rw [il_length] at h1
  rw [show m = n from by omega]
  exact h
end Go.Proofs.YtepaghohojomeaaDoor
/-
  FRAGMENTS THAT ARE MADE AND STORED: the block bears a name. Nothing here speaks of the program's functions. No condition.
-/
namespace Go.Proofs.YtepaghohojomeaaDoor
open Go.RowKit
theorem wrap_u32' (x : Int) : IntKind.u32.wrap x = x % 4294967296 := by simp [IntKind.wrap, IntKind.signed, IntKind.bits]
section
variable {o : Oper} {a : Act} {w : World} {K : Act → World → Prop} {Q : Exit → Act → World → Prop} {ops : Array Oper} {rest : List Oper}
/-- room for a fragment -/
theorem wp_new_fr (ho : o.op = .alloc 70) (h : ∀ g w', Hid (FO w' g 0 0 (.slice none 0 0)) → Hid (w.heap.size ≤ g) → Hid (Below w.heap.size w w') → K (a.put o.dst (.pointer (some ⟨g, 0, none⟩))) w') : Oper.wp Tryd.prog o a w K Q := by
  have h1 := h w.heap.size (w.alloc (.cells (fA 0 0 (.slice none 0 0)) 70)) (FO.alloc w) (Nat.le_refl _) (balloc w _)
  unfold Oper.wp execOp
  simp [ho, go_sem]
  exact h1
/-- a fragment is stored -/
theorem wp_put_fr (x y : Operand) (ho : o.op = .store 70 x y) (g : Nat) {k0 e0 : Int} {p0 : Option Addr} {n0 c0 : Nat} (hk : FO w g k0 e0 (.slice p0 n0 c0)) (k e : Int) (p : Option Addr) (n c : Nat) (hx : a.eval x = .pointer (some ⟨g, 0, none⟩)) (hy : a.eval y = .agg (fA k e (.slice p n c)))
    (h : ∀ w', Hid (FO w' g k e (.slice p n c)) → Hid (w.grownBy w' (some g)) → K (a.put o.dst undef) w') : Oper.wp Tryd.prog o a w K Q :=
  wp_store_row 70 x y ho g (fA k e (.slice p n c)) hx hy _ _ hk (fr_info _ rfl) rfl (fr_one _ _ _ _ _) (h _ (Lib.hid (hk.row k e (.slice p n c))) (Lib.hid ⟨rfl, rfl, rfl, by simp, fun i _ hne => setRow_other w g i _ (fun e => hne (by rw [e]))⟩))
theorem wpl_put_fr (hg : o.guard = none) (x y : Operand) (ho : o.op = .store 70 x y) (g : Nat) {k0 e0 : Int} {p0 : Option Addr} {n0 c0 : Nat} (hk : FO w g k0 e0 (.slice p0 n0 c0)) (k e : Int) (p : Option Addr) (n c : Nat) (hx : a.eval x = .pointer (some ⟨g, 0, none⟩)) (hy : a.eval y = .agg (fA k e (.slice p n c)))
    (h : ∀ w', Hid (FO w' g k e (.slice p n c)) → Hid (w.grownBy w' (some g)) → wpList Tryd.prog ops Q rest (a.put o.dst undef) w') : wpList Tryd.prog ops Q (o :: rest) a w :=
  wpList_plain hg fun _ hK => wp_put_fr x y ho g hk k e p n c hx hy fun w' h2 h3 => hK _ _ (h w' h2 h3)
end
theorem below_over {B : Nat} {w0 w w' : World} {g : Nat} (h : Below B w0 w) (hg : w.grownBy w' (some g)) (hB : B ≤ g) (h0 : B ≤ w.heap.size) : Below B w0 w' := h.grown hg h0 (fun q hq => by cases hq; exact hB)
theorem FO.over {w w' : World} {b g : Nat} {k e : Int} {v : Value} (h : FO w b k e v) (hg : w.grownBy w' (some g)) (hne : b ≠ g) : FO w' b k e v := (hg.block b h.lt (fun x => hne (Option.some.inj x))).trans h
end Go.Proofs.YtepaghohojomeaaDoor
/-
  WHAT word.Put, word.Get (layer 1) AND THE REFERENCE's Put ANSWER, over XBase (of stage 1's XWord). Bytes must lie where the slices say.
-/
namespace Go.Proofs.YtepaghohojomeaaDoor
open Go.RowKit
set_option maxHeartbeats 400000 in
theorem btw_any (n m : Int) (h : I63 n) (h2 : I63 m) (w : World) : Calls Tryd.prog 106 #[.int .i64 n, .int .i64 m] w fun e w' => e = .returned (.int .i64 (clampI n m)) ∧ w = w' := by
  unfold I63 at h h2
  go_enter Tryd.func106, Tryd.ntmps106
  go_wp2
  all_goals (go_ret; refine ⟨ret_int ?_, rfl⟩; unfold clampI; omega)
theorem btw_nat (n m : Int) (k : Nat) (h : I63 n) (h2 : I63 m) (hk : clampI n m = k) (w : World) : Calls Tryd.prog 106 #[.int .i64 n, .int .i64 m] w fun e w' => e = .returned (.int .i64 k) ∧ w = w' :=
  (btw_any n m h h2 w).mono fun _ _ ⟨he, hw⟩ => ⟨by rw [he, hk], hw⟩
/-- numbers as the cells of bytes -/
def bl (l : List Int) : List Value := l.map (Value.int .u8)
theorem bl_set (l : List Int) (j : Nat) (x : Int) : (bl l).set j (.int .u8 x) = bl (l.set j x) := by simp [bl, List.map_set]
theorem bl_length (l : List Int) : (bl l).length = l.length := by simp [bl]
theorem bl_get (l : List Int) (j : Nat) (h : j < l.length) : (bl l)[j]? = some (.int .u8 (l.getD j 0)) := by simp [bl, List.getD, h]
theorem bl_append (a b : List Int) : bl (a ++ b) = bl a ++ bl b := by simp [bl]
set_option maxHeartbeats 800000 in
theorem put_any (n m : Int) (k : Nat) (h2 : I63 m) (hk : clampI m 8 = k) (w : World) :
    Calls Tryd.prog 102 #[.int .u64 n, .int .i64 m] w fun e w' => e = .returned (.slice (some ⟨w.heap.size, 0, none⟩) k k) ∧
      w'.ownsRow w.heap.size 5 1 (.slice (some ⟨w.heap.size, 0, none⟩) k k) k (bl (putL n k)) ∧ Below w.heap.size w w' := by
  obtain ⟨i0, hi, hz0, hz1, hz2⟩ := info_parts Tryd.info_u8
  have hk8 : k ≤ 8 := by unfold clampI at hk; omega
  have HC := Lib.hid hk; clear hk
  have hB2 : i0.bytes * k ≤ 281474976710656 := by rw [hz2]; omega
  have HI := Lib.hid hi; clear hi
  have HZ0 := Lib.hid hz0; clear hz0
  have HZ1 := Lib.hid hz1; clear hz1
  clear hz2
  go_enter Tryd.func102, Tryd.ntmps102
  go_wp2_with (first
    | (go_at_call 106; refine (btw_nat _ _ k h2 (by unfold I63; omega) HC.out _).mono ?_; rintro e w' ⟨rfl, rfl⟩)
    | (at_make; refine wpList_make_full _ rfl (.tmp 9) (.tmp 9) 43 rfl w.heap.size 5 i0 (.int .u8 0) 1 Tryd.underlying43 HI.out HZ0.out HZ1.out .i64 .i64 k k k rfl rfl rfl rfl hB2 (by unfold maxLen; omega) (Nat.le_refl _) ?_; intro w1 hown hgrow))
  have HO := Lib.hid hown; clear hown
  have HB := Lib.hid ((Below.refl w.heap.size w).grown hgrow (Nat.le_refl _) (by simp)); clear hgrow
  go_wp2
  go_loopw [12] (fun i wr => ∃ j : Nat, j ≤ k ∧ i = .int .i64 j ∧ wr.ownsRow w.heap.size 5 1 (.slice (some ⟨w.heap.size, 0, none⟩) k k) k (bl (putP n j k)) ∧ Below w.heap.size w wr) (fun i _ => k - (intOf i).toNat)
  case atStart => exact ⟨0, by omega, rfl, by have := HO.out; rw [Nat.mul_one, show (Value.int IntKind.u8 0).cells = #[.int .u8 0] from rfl, toList_madeCells_one] at this; rw [putP_zero]; simpa [bl] using this, HB.out⟩
  case round =>
    obtain ⟨j, hj, rfl, ho, hb⟩ := hrel
    by_cases hlt : j < k
    · have hcell : wr.cell? ⟨w.heap.size, j, none⟩ = some (.int .u8 ((putP n j k).getD j 0)) := by
        rw [ho.cellAt j (by omega), bl_get _ _ (by simp [putP]; omega)]
      have hfr : wr.frozen? ⟨w.heap.size, j, none⟩ = false := ho.frozenAt j
      have HO := Lib.hid ho; clear ho
      have HB := Lib.hid hb; clear hb
      go_wp2
      go_roundw
      case rel => exact ⟨j + 1, by omega, by go_num, by rw [← putP_succ, ← bl_set]; exact (HO.out.stored j _).1, HB.out.setCell (Nat.le_refl _) _⟩
      case measure => simp [intOf]; omega
    · go_wp2
      go_ret
      have e : j = k := by omega
      subst e
      exact ⟨rfl, by rw [← putP_full]; exact ho, hb⟩
theorem div_step (n : Int) (j : Nat) : n / 2 ^ (8 * j) / 256 = n / 2 ^ (8 * (j + 1)) := by
  rw [Int.ediv_ediv_of_nonneg (Int.le_of_lt (pow_pos' _)), show 8 * (j + 1) = 8 * j + 8 from by omega, Int.pow_add]; rfl
set_option maxRecDepth 20000 in
set_option maxHeartbeats 800000 in
theorem rput_any (n m : Int) (k : Nat) (h : U64 n) (h2 : I63 m) (hk : clampI m 8 = k) (w : World) :
    Calls Tryd.prog 75 #[.int .u64 n, .int .i64 m] w fun e w' => ∃ v, e = .returned v ∧
      w'.ownsRow w.heap.size 5 1 v k (bl (putL n k)) ∧ Below w.heap.size w w' := by
  unfold U64 at h
  unfold I63 at h2
  obtain ⟨i0, hi, hz0, hz1, hz2⟩ := info_parts Tryd.info_u8
  have hk1 : k ≤ 8 := by unfold clampI at hk; omega
  have hk2 : ∀ j : Nat, j < k → (j : Int) < m ∧ (j : Int) < 8 := by unfold clampI at hk; omega
  have hk3 : ∀ j : Nat, k ≤ j → m ≤ (j : Int) ∨ ((j : Int) < m ∧ 8 ≤ (j : Int)) := by unfold clampI at hk; omega
  clear hk
  have HI := Lib.hid hi; clear hi
  have HZ0 := Lib.hid hz0; clear hz0
  have HZ1 := Lib.hid hz1; clear hz1
  have HZ2 := Lib.hid hz2; clear hz2
  go_enter Tryd.func75, Tryd.ntmps75
  go_wp2
  go_loopw [0, 5, 6] (fun nn v i wr => ∃ j : Nat, j ≤ k ∧ i = .int .i64 j ∧ nn = .int .u64 (n / 2 ^ (8 * j)) ∧ wr.ownsRow w.heap.size 5 1 v j (bl (putL n j)) ∧ Below w.heap.size w wr) (fun _ _ i _ => k - (intOf i).toNat)
  case atStart => exact ⟨0, by omega, rfl, by simp, World.ownsRow_nil _ _ _ _, Below.refl _ _⟩
  case round =>
    obtain ⟨j, hj, rfl, rfl, ho, hb⟩ := hrel
    have hx : 0 ≤ n / 2 ^ (8 * j) := Int.ediv_nonneg h.1 (Int.le_of_lt (pow_pos' _))
    have hx2 : n / 2 ^ (8 * j) ≤ n := Int.ediv_le_self _ h.1
    have HO := Lib.hid ho; clear ho
    have HB := Lib.hid hb; clear hb
    by_cases hlt : j < k
    · obtain ⟨g1, g2⟩ := hk2 j hlt
      clear hk2 hk3
      go_wp2_with (first
        | (at_builtin; refine wpList_append_own _ rfl (.tmp 16) (.tmp 20) 43 rfl w.heap.size 5 i0 (.int .u8 0) 1 1 Tryd.underlying43 HI.out HZ0.out HZ1.out HZ2.out rfl (by decide) _ _ _ rfl (HO.out.alloc _) ⟨wr.heap.size, 0, none⟩ 1 1 (bl [n / 2 ^ (8 * j) % 256]) rfl rfl ?c1 ?c2 ?c3 ?c4 ?c5 ?_))
      case c1 =>
        intro i u hi
        match i, hi with
        | 0, hi => simp [bl] at hi; subst hi; simp [Addr.add]
      case c2 => intro u hu; simp [bl] at hu; subst hu; rfl
      case c3 => unfold maxLen; omega
      case c4 => omega
      case c5 => have := HB.out.size; simp; omega
      intro v' w1 hown' hgrow _
      have HO1 := Lib.hid (show w1.ownsRow w.heap.size 5 1 v' (j + 1) (bl (putL n (j + 1))) by rw [putL_succ, bl_append]; exact hown')
      have HB1 := Lib.hid ((HB.out.alloc HB.out.size _).grown hgrow (by have := HB.out.size; simp; omega) (fun q hq => (HO.out.lt q hq).1))
      clear hown' hgrow
      go_wp2
      go_roundw
      case rel => exact ⟨j + 1, by omega, by go_num, by rw [div_step], HO1.out, HB1.out⟩
      case measure => simp [intOf]; omega
    · rcases hk3 j (by omega) with g1 | ⟨g1, g2⟩
      all_goals
        clear hk2 hk3
        go_wp2
        go_ret
        have e : j = k := by omega
        subst e
        exact ⟨_, rfl, HO.out, HB.out⟩
end Go.Proofs.YtepaghohojomeaaDoor
/-
  WHAT THE DOCUMENT'S ANSWERS OF LAYER 13 (frag) ANSWER: the reference's Bytes. No condition of ours but bounds that the statements themselves have.
-/
namespace Go.Proofs.YtepaghohojomeaaDoor
open Go.RowKit
/-- the reference's Put, as a row of the call's own -/
theorem rput_own (x : Int) (n : Nat) (hx : U64 x) (hn : n ≤ 8) (w : World) :
    Calls Tryd.prog 75 #[.int .u64 x, .int .i64 n] w fun e w' => ∃ a c, e = .returned (.slice a n c) ∧ w'.ownsRow w.heap.size 5 1 (.slice a n c) n (il .u8 (putL x n)) ∧ Below w.heap.size w w' :=
  (rput_any x n n hx (by unfold I63; omega) (by unfold clampI; omega) w).mono fun _ _ ⟨v, he, ho, hb⟩ => by
    obtain ⟨a, c, rfl⟩ := own_form ho
    exact ⟨a, c, he, ho, hb⟩
theorem u8_fit {k : Int} (h0 : 0 ≤ k) (h1 : k ≤ 255) : IntKind.u8.wrap k = k := by simp [IntKind.wrap, IntKind.signed, IntKind.bits]; omega
set_option maxRecDepth 8000 in
set_option maxHeartbeats 2000000 in
theorem rfbytes_any (k e : Int) (v : Value) (n : Nat) (d : List Int) (w : World) (hr : fragOk k n = true) (he : 0 ≤ e ∧ e ≤ 4294967295) (hri : RI .u8 w v n d) (hbd : isB d) :
    Calls Tryd.prog 58 #[.agg (fA k e v)] w fun r w' => ∃ a c, r = .returned (.slice a (11 + n) c) ∧ w'.ownsRow w.heap.size 5 1 (.slice a (11 + n) c) (11 + n) (il .u8 (fragB k e d)) ∧ Below w.heap.size w w' := by
  have hp := fok_parts hr
  have hd := hri.length
  obtain ⟨he0, he1⟩ := he
  have hwk := u8_fit (k := k) (by omega) (by omega)
  obtain ⟨o, ho⟩ : ∃ o, ofS (fragT k e d) = o := ⟨_, rfl⟩
  obtain ⟨m, hm⟩ : ∃ m, maskS o = m := ⟨_, rfl⟩
  have hm9 : m < 4294967296 := by rw [← hm]; exact maskS_lt o
  have HO := Lib.hid ho
  have HOL : Hid (o < 4294967296) := Lib.hid (by rw [← ho]; exact ofS_lt _)
  have HM := Lib.hid hm
  have HFB : Hid (putL m 4 ++ fragT k e d = fragB k e d ∧ (fragB k e d).length = 11 + n) := Lib.hid ⟨by unfold fragB fragS; rw [ho, hm], by rw [fragB_length, hd]⟩
  have HT : Hid (putL n 2 ++ [k] ++ putL e 4 ++ d = fragT k e d ∧ (fragT k e d).length = 7 + n) := Lib.hid ⟨by unfold fragT fragK; rw [hd], by rw [fragT_length, hd]⟩
  have HTB : Hid (∀ x ∈ fragT k e d, 0 ≤ x ∧ x ≤ 255) := Lib.hid (fragT_bytes (by omega) e hbd)
  have HP1 : Hid (∀ w, Calls Tryd.prog 75 #[.int .u64 n, .int .i64 2] w fun e w' => ∃ a c, e = .returned (.slice a 2 c) ∧ w'.ownsRow w.heap.size 5 1 (.slice a 2 c) 2 (il .u8 (putL n 2)) ∧ Below w.heap.size w w') := Lib.hid (rput_own n 2 (by unfold U64; omega) (by omega))
  have HP2 : Hid (∀ w, Calls Tryd.prog 75 #[.int .u64 e, .int .i64 4] w fun e' w' => ∃ a c, e' = .returned (.slice a 4 c) ∧ w'.ownsRow w.heap.size 5 1 (.slice a 4 c) 4 (il .u8 (putL e 4)) ∧ Below w.heap.size w w') := Lib.hid (rput_own e 4 (by unfold U64; omega) (by omega))
  have HP3 : Hid (∀ w, Calls Tryd.prog 75 #[.int .u64 m, .int .i64 4] w fun e' w' => ∃ a c, e' = .returned (.slice a 4 c) ∧ w'.ownsRow w.heap.size 5 1 (.slice a 4 c) 4 (il .u8 (putL m 4)) ∧ Below w.heap.size w w') := Lib.hid (rput_own m 4 (by unfold U64; omega) (by omega))
  obtain ⟨w0, hw0⟩ : ∃ q, w.alloc (.cells (fA k e v) 70) = q := ⟨_, rfl⟩
  have HA : Hid (FO w0 w.heap.size k e v) := Lib.hid (by rw [← hw0]; exact FO.alloc w)
  have HB : Hid (Below w.heap.size w w0) := Lib.hid (by rw [← hw0]; exact balloc w _)
  have HR := Lib.hid (hri.keep HB.out)
  have HN : Hid (n ≤ 197) := Lib.hid hp.2.2
  obtain ⟨a, cap, rfl⟩ : ∃ a cap, v = .slice a n cap := by obtain ⟨a, c, e, _⟩ := hri; exact ⟨a, c, e⟩
  obtain ⟨z0, z1, z2⟩ := HA.out.cells
  have hn9 : (n : Int) ≤ 197 := by omega
  have hm8 : (m : Int) ≤ 4294967295 := by omega
  clear hr hri hp hd ho hm hm9 hbd
  go_enter Tryd.func58, Tryd.ntmps58
  go_wp2_with (first
    | (go_at_call 75; (with_reducible refine (HP1.out _).mono ?_); rintro r w1 ⟨a1, c1, rfl, ho1, hb1⟩; have HO1 := Lib.hid ho1; have HB1 := Lib.hid hb1; obtain ⟨x0, x1, x2⟩ := (HA.out.keep hb1).cells; clear ho1 hb1)
    | (at_builtin; refine wpl_appn rfl (.tmp 29) (.tmp 30) 43 rfl 5 .u8 1 Tryd.underlying43 Tryd.info_u8 w5.heap.size _ 4 (putL m 4) rfl HO6 _ (7 + n) (fragT k e d) rfl ((RI.own HO5F.out).keep HB6.out) (by have := HN.out; omega) (by have := HN.out; omega) w5.heap.size w5 HB6 (Nat.le_refl _) HB6.out.size ?_; intro v7 w7 HO7 HB7)
    | (at_builtin; refine wpl_appn rfl (.tmp 21) (.tmp 23) 43 rfl 5 .u8 1 Tryd.underlying43 Tryd.info_u8 w0.heap.size _ (2 + 1 + 4) (putL n 2 ++ [k] ++ putL e 4) rfl HO4 _ n d rfl (HR.out.keep HB4.out) (by have := HN.out; omega) (by have := HN.out; omega) w0.heap.size w0 HB4 (Nat.le_refl _) HB4.out.size ?_; intro v5 w5 HO5 HB5; have HO5F := Lib.hid (own_fin HO5.out HT.out.1 HT.out.2))
    | (at_builtin; refine wpl_appn rfl (.tmp 15) (.tmp 19) 43 rfl 5 .u8 1 Tryd.underlying43 Tryd.info_u8 w0.heap.size _ (2 + 1) (putL n 2 ++ [k]) rfl HO2K _ 4 (putL e 4) rfl (RI.own HO3.out) (by omega) (by omega) w0.heap.size w0 HB3 (Nat.le_refl _) HB3.out.size ?_; intro v4 w4 HO4 HB4; obtain ⟨q0, q1, q2⟩ := (HA.out.keep HB4.out).cells)
    | (at_builtin; refine wpl_app1 rfl (.tmp 9) (.tmp 13) 43 rfl 5 .u8 1 Tryd.underlying43 Tryd.info_u8 w0.heap.size _ 2 (putL n 2) rfl (Lib.hid (HO1.out.alloc _)) ⟨w1.heap.size, 0, none⟩ k rfl (alloc_cell w1 _ _) (by omega) (by omega) w0.heap.size w0 (Lib.hid (bch HB1.out (balloc _ _))) (Nat.le_refl _) (by have := HB1.out.size; simp; omega) ?_; intro v2 w2 HO2 HB2; obtain ⟨y0, y1, y2⟩ := (HA.out.keep HB2.out).cells)
    | (go_at_call 75; (with_reducible refine (HP2.out _).mono ?_); rintro r w3 ⟨a3, c3, rfl, ho3, hb3⟩; have HO2K := Lib.hid (own_keep HO2.out hb3); have HO3 := Lib.hid ho3; have HB3 := Lib.hid (bch HB2.out hb3); clear ho3 hb3)
    | (go_at_call 77; (with_reducible refine (rof_any (RI.own HO5F.out) HTB.out HO.out).mono ?_); rintro e w' ⟨rfl, rfl⟩)
    | (go_at_call 76; (with_reducible refine (rmask_at o m HOL.out HM.out _).mono ?_); rintro e w' ⟨rfl, rfl⟩)
    | (go_at_call 75; (with_reducible refine (HP3.out _).mono ?_); rintro r w6 ⟨a6, c6, rfl, ho6, hb6⟩; have HO6 := Lib.hid ho6; have HB6 := Lib.hid hb6; clear ho6 hb6))
  go_ret
  have h7 := own_fin HO7.out HFB.out.1 HFB.out.2
  obtain ⟨a7, c7, rfl⟩ := own_form h7
  have hb5 := bch HB.out HB5.out
  exact ⟨a7, c7, rfl, own_mono h7 hb5.size, bch hb5 HB7.out⟩
end Go.Proofs.YtepaghohojomeaaDoor
/-
  WHAT THE FUNCTIONS OF crc ANSWER (but Shift, Join and Unmask): four, eight, More, Of, Mask, math/bits' RotateLeft32 at 15 and at -15. For every input that its types allow; the table of half a byte's steps must lie in its block as start-up lays it.
-/
namespace Go.Proofs.YtepaghohojomeaaDoor
open Go.RowKit
/-- the table of half a byte's steps lies in block 0 -/
def Tab (w : World) : Prop := ∀ j : Nat, j < 16 → w.cell? ⟨0, j, none⟩ = some (.int .u32 ((stn 4 j : Nat) : Int))
theorem half_list : ∀ j : Nat, j < 16 → ([0, 274646895, 549293790, 820201905, 1098587580, 1361435347, 1640403810, 1905808397, 2197175160, 2460548119, 2722870694, 2987750089, 3280807620, 3553878443, 3811616794, 4084100981] : List Int).getD j 0 = ((stn 4 j : Nat) : Int) := by decide
theorem tab_of {w : World} (h : ∀ j : Nat, j < 16 → w.cell? ⟨0, j, none⟩ = some (.int .u32 (([0, 274646895, 549293790, 820201905, 1098587580, 1361435347, 1640403810, 1905808397, 2197175160, 2460548119, 2722870694, 2987750089, 3280807620, 3553878443, 3811616794, 4084100981] : List Int).getD j 0))) : Tab w :=
  fun j hj => by rw [h j hj, half_list j hj]
theorem Tab.keep {w w' : World} (h : Tab w) (hb : Below w.heap.size w w') : Tab w' := fun j hj => cell_keep hb (h j hj)
theorem flip32 (s : Nat) (h : s < 4294967296) : bits .xor .u32 IntKind.u32.max (s : Int) = ((4294967295 - s : Nat) : Int) := by
  rw [show IntKind.u32.max = ((4294967295 : Nat) : Int) from by decide, u32_xor_nat _ _ (by omega) h, not32 s h, Nat.xor_comm]
/-- half a byte's steps, in the walk's spelling -/
theorem half_bits (r : Nat) (h : r < 4294967296) : bits .xor .u32 ((r : Int) / 16) ((stn 4 (r % 16) : Nat) : Int) = ((stn 4 r : Nat) : Int) := by
  have := u32_xor_nat (r / 16) (stn 4 (r % 16)) (by omega) (stn_lt 4 _ (by omega))
  rw [← half_step] at this
  rw [← this]; congr 1
theorem four_any (r : Nat) (h : r < 4294967296) {w : World} (ht : Tab w) {m : Nat} (hm : stn 4 r = m) : Calls Tryd.prog 107 #[.int .u32 r] w fun e w' => e = .returned (.int .u32 m) ∧ w = w' := by
  have hc := ht (r % 16) (by omega)
  have hy := half_bits r h
  rw [hm] at hy
  have hr : (r : Int) ≤ 4294967295 := by omega
  clear ht hm h
  go_enter Tryd.func107, Tryd.ntmps107
  go_wp2
  go_ret
  exact ⟨rfl, rfl⟩
theorem eight_any (r : Nat) (h : r < 4294967296) {w : World} (ht : Tab w) {m : Nat} (hm : stn 8 r = m) : Calls Tryd.prog 104 #[.int .u32 r] w fun e w' => e = .returned (.int .u32 m) ∧ w = w' := by
  obtain ⟨r1, hr1⟩ : ∃ r1, stn 4 r = r1 := ⟨_, rfl⟩
  have H1 := Lib.hid hr1
  have H2 := Lib.hid (show stn 4 r1 = m from by rw [← hr1, ← hm, show (8 : Nat) = 4 + 4 from rfl, stn_add])
  have HL := Lib.hid (show r1 < 4294967296 from by rw [← hr1]; exact stn_lt 4 r h)
  have HR := Lib.hid h
  have HT := Lib.hid ht
  clear hr1 hm h ht
  go_enter Tryd.func104, Tryd.ntmps104
  go_wp2_with (first | (go_at_call 107; first | ((with_reducible refine (four_any r HR.out HT.out H1.out).mono ?_); rintro e w' ⟨rfl, rfl⟩) | ((with_reducible refine (four_any r1 HL.out HT.out H2.out).mono ?_); rintro e w' ⟨rfl, rfl⟩)))
  go_ret
  exact ⟨rfl, rfl⟩
set_option maxRecDepth 8000 in
set_option maxHeartbeats 800000 in
theorem more_some (s : Nat) (h : s < 4294967296) (b off len cap : Nat) (zs : List Int) (w : World) (ht : Tab w) (hz : zs.length = len) (hb : ∀ x ∈ zs, 0 ≤ x ∧ x ≤ 255) (hl : (len : Int) ≤ 9223372036854775807)
    (hc : ∀ j, j < len → w.cell? ⟨b, off + j, none⟩ = some (.int .u8 (zs.getD j 0))) :
    Calls Tryd.prog 98 #[.int .u32 s, .slice (some ⟨b, off, none⟩) len cap] w fun e w' => e = .returned (.int .u32 (moreS s zs)) ∧ w = w' := by
  have hs : (s : Int) ≤ 4294967295 := by omega
  obtain ⟨m, hm⟩ : ∃ m, moreS s zs = m := ⟨_, rfl⟩
  rw [hm]
  have HM := Lib.hid hm
  have HC := Lib.hid hc
  have HZ := Lib.hid hz
  have HB := Lib.hid hb
  have HS := Lib.hid h
  have HT := Lib.hid ht
  have hf := flip32 s h
  obtain ⟨f, hfe⟩ : ∃ f, 4294967295 - s = f := ⟨_, rfl⟩
  rw [hfe] at hf
  have HF := Lib.hid hfe
  clear hm hc hz hb h ht hfe
  go_enter Tryd.func98, Tryd.ntmps98
  go_wp2
  go_loop [5, 12] (fun x i => ∃ (k r : Nat), i = .int .i64 k ∧ x = .int .u32 r ∧ k ≤ len ∧ Hid (r < 4294967296) ∧ Hid (reg r (zs.drop k) = reg f zs)) (fun _ i => len - (intOf i).toNat)
  case atStart => exact ⟨0, f, rfl, rfl, by omega, Lib.hid (by have := HF.out; omega), rfl⟩
  case round =>
    obtain ⟨k, r, rfl, rfl, hk, HR, HG⟩ := hrel
    by_cases hlt : k < len
    · obtain ⟨x, hx⟩ : ∃ x, zs.getD k 0 = x := ⟨_, rfl⟩
      have hcell : w.cell? ⟨b, off + k, none⟩ = some (.int .u8 x) := by rw [← hx]; exact HC.out k hlt
      have hxb : 0 ≤ x ∧ x ≤ 255 := by
        rw [← hx]; exact (bytes_of_mem HB.out) k
      have HD := Lib.hid (show reg r (x :: zs.drop (k + 1)) = reg f zs from by rw [← hx, ← drop_getD zs k (by rw [HZ.out]; exact hlt)]; exact HG.out)
      obtain ⟨y, rfl⟩ : ∃ y : Nat, x = (y : Int) := ⟨x.toNat, by omega⟩
      have hxx := u32_xor_nat r y HR.out (by omega)
      obtain ⟨r0, hr0⟩ : ∃ r0, r ^^^ y = r0 := ⟨_, rfl⟩
      have h0 : r0 < 4294967296 := by rw [← hr0]; exact xor_lt r y HR.out (by omega)
      rw [hr0] at hxx
      have H0 := Lib.hid h0
      obtain ⟨r2, hr2⟩ : ∃ r2, stn 8 r0 = r2 := ⟨_, rfl⟩
      have H2 := Lib.hid (show r2 < 4294967296 from by rw [← hr2]; exact stn_lt 8 r0 h0)
      have HE := Lib.hid (show stn 8 (r ^^^ y) = r2 from by rw [hr0, hr2])
      have HF8 := Lib.hid hr2
      clear hr0 hr2 hx HG h0
      go_wp2_with (first | (go_at_call 104; (with_reducible refine (eight_any r0 H0.out HT.out HF8.out).mono ?_); rintro e w' ⟨rfl, rfl⟩))
      go_round
      case rel =>
        refine ⟨k + 1, r2, by go_num, rfl, by omega, H2, ?_⟩
        have h3 := HD.out
        rw [reg_cons, Int.toNat_natCast, HE.out] at h3
        exact h3
      case measure => simp [intOf]; omega
    · have hg := HG.out
      rw [show zs.drop k = [] from List.drop_eq_nil_of_le (by rw [HZ.out]; omega), reg_nil] at hg
      have hm := HM.out
      unfold moreS at hm
      rw [HF.out, ← hg] at hm
      have hfr := flip32 r HR.out
      rw [hm] at hfr
      clear hg hm
      go_wp2
      go_ret
      exact ⟨rfl, rfl⟩

set_option maxRecDepth 8000 in
set_option maxHeartbeats 400000 in
theorem more_zero (s : Nat) (h : s < 4294967296) (a : Option Addr) (cap : Nat) (w : World) :
    Calls Tryd.prog 98 #[.int .u32 s, .slice a 0 cap] w fun e w' => e = .returned (.int .u32 (moreS s [])) ∧ w = w' := by
  have hf := flip32 s h
  obtain ⟨f, hfe⟩ : ∃ f, 4294967295 - s = f := ⟨_, rfl⟩
  rw [hfe] at hf
  have hg := flip32 f (by omega)
  obtain ⟨m, hm⟩ : ∃ m, moreS s [] = m := ⟨_, rfl⟩
  rw [hm]
  unfold moreS at hm
  rw [reg_nil, hfe] at hm
  rw [hm] at hg
  have hs : (s : Int) ≤ 4294967295 := by omega
  clear hm hfe h
  go_enter Tryd.func98, Tryd.ntmps98
  go_wp2
  refine wp_loop_rounds 1 ?_
  rw [rounds_succ]
  go_wp2
  go_ret
  exact ⟨rfl, rfl⟩
theorem more_any {s len : Nat} (h : s < 4294967296) {v : Value} {zs : List Int} {w : World} (ht : Tab w) (hri : RI .u8 w v len zs) (hb : ∀ x ∈ zs, 0 ≤ x ∧ x ≤ 255) {m : Nat} (hm : moreS s zs = m) :
    Calls Tryd.prog 98 #[.int .u32 s, v] w fun e w' => e = .returned (.int .u32 m) ∧ w = w' := by
  subst hm
  obtain ⟨a, cap, rfl, hl, h1, h2, _, hc⟩ := hri
  by_cases h0 : 0 < len
  · obtain ⟨b, off, rfl, hcell⟩ := hc h0
    exact more_some s h b off len cap zs w ht hl hb (by omega) hcell
  · obtain rfl : len = 0 := by omega
    obtain rfl : zs = [] := List.length_eq_zero_iff.1 hl
    exact more_zero s h a cap w
theorem more_0 {len : Nat} {v : Value} {zs : List Int} {w : World} (ht : Tab w) (hri : RI .u8 w v len zs) (hb : ∀ x ∈ zs, 0 ≤ x ∧ x ≤ 255) {m : Nat} (hm : moreS 0 zs = m) :
    Calls Tryd.prog 98 #[.int .u32 0, v] w fun e w' => e = .returned (.int .u32 m) ∧ w = w' := more_any (s := 0) (by omega) ht hri hb hm
theorem of_any {len : Nat} {v : Value} {zs : List Int} {w : World} (ht : Tab w) (hri : RI .u8 w v len zs) (hb : ∀ x ∈ zs, 0 ≤ x ∧ x ≤ 255) {m : Nat} (hm : ofS zs = m) :
    Calls Tryd.prog 99 #[v] w fun e w' => e = .returned (.int .u32 m) ∧ w = w' := by
  have HR := Lib.hid hri
  have HB := Lib.hid hb
  have HT := Lib.hid ht
  have HM := Lib.hid (show moreS 0 zs = m from hm)
  clear hri hb hm ht
  go_enter Tryd.func99, Tryd.ntmps99
  go_wp2_with (first | (go_at_call 98; (with_reducible refine (more_0 HT.out HR.out HB.out HM.out).mono ?_); rintro e w' ⟨rfl, rfl⟩))
  go_ret
  exact ⟨rfl, rfl⟩
theorem or17 (n : Nat) (h : n < 4294967296) : bits .or .u32 ((n : Int) * 131072 % 4294967296) ((n : Int) / 32768) = ((n / 32768 + n % 32768 * 131072 : Nat) : Int) := by
  have h1 := u32_or_nat (2 ^ 17 * (n % 32768)) (n / 32768) (by omega) (by omega)
  rw [← Nat.two_pow_add_eq_or_of_lt (show n / 32768 < 2 ^ 17 by omega)] at h1
  rw [show (n : Int) / 32768 = ((n / 32768 : Nat) : Int) from by omega, show (n : Int) * 131072 % 4294967296 = ((2 ^ 17 * (n % 32768) : Nat) : Int) from by omega, h1]
  omega
theorem or15 (t : Nat) (h : t < 4294967296) : bits .or .u32 ((t : Int) * 32768 % 4294967296) ((t : Int) / 131072) = ((t / 131072 + t % 131072 * 32768 : Nat) : Int) := by
  have h1 := u32_or_nat (2 ^ 15 * (t % 131072)) (t / 131072) (by omega) (by omega)
  rw [← Nat.two_pow_add_eq_or_of_lt (show t / 131072 < 2 ^ 15 by omega)] at h1
  rw [show (t : Int) / 131072 = ((t / 131072 : Nat) : Int) from by omega, show (t : Int) * 32768 % 4294967296 = ((2 ^ 15 * (t % 131072) : Nat) : Int) from by omega, h1]
  omega
set_option maxRecDepth 8000 in
theorem rot_right (n : Nat) (h : n < 4294967296) (w : World) : Calls Tryd.prog 105 #[.int .u32 n, .int .i64 (-15)] w fun e w' => e = .returned (.int .u32 ((n / 32768 + n % 32768 * 131072 : Nat) : Int)) ∧ w = w' := by
  have hn : (n : Int) ≤ 4294967295 := by omega
  have hw : bits .and .u64 (IntKind.u64.wrap (-15)) 31 = 17 := by decide
  have HO := Lib.hid (or17 n h)
  go_enter Tryd.func105, Tryd.ntmps105
  go_wp2
  go_ret
  refine ⟨ret_int ?_, rfl⟩
  rw [← HO.out]
set_option maxRecDepth 8000 in
theorem rot_left (n : Nat) (h : n < 4294967296) (w : World) : Calls Tryd.prog 105 #[.int .u32 n, .int .i64 15] w fun e w' => e = .returned (.int .u32 ((n / 131072 + n % 131072 * 32768 : Nat) : Int)) ∧ w = w' := by
  have hn : (n : Int) ≤ 4294967295 := by omega
  have hw : bits .and .u64 (IntKind.u64.wrap 15) 31 = 15 := by decide
  have hw' : bits .and .u64 15 31 = 15 := by decide
  have HO := Lib.hid (or15 n h)
  go_enter Tryd.func105, Tryd.ntmps105
  go_wp2
  go_ret
  refine ⟨ret_int ?_, rfl⟩
  rw [← HO.out]
set_option maxRecDepth 8000 in
theorem mask_any (n m : Nat) (h : n < 4294967296) (hm : maskS n = m) (w : World) : Calls Tryd.prog 100 #[.int .u32 n] w fun e w' => e = .returned (.int .u32 m) ∧ w = w' := by
  have HN := Lib.hid h
  clear h
  go_enter Tryd.func100, Tryd.ntmps100
  go_wp2_with (first | (go_at_call 105; (with_reducible refine (rot_right n HN.out _).mono ?_); rintro e w' ⟨rfl, rfl⟩))
  go_ret
  refine ⟨ret_int ?_, rfl⟩
  rw [← hm]
  unfold maskS
  omega
/-- a constant text's bytes, as the translation lays them -/
theorem RI.const (w : World) (e : TypeId) (k : IntKind) (zs : List Int) (fr : Nat × Nat) (n : Nat) (hn : zs.length = n) (h63 : n ≤ 9223372036854775807) :
    RI k (w.alloc (.cells (il k zs).toArray e fr)) (.slice (some ⟨w.heap.size, 0, none⟩) n n) n zs := by
  refine ⟨_, n, rfl, hn, Nat.le_refl _, h63, fun h => by simp at h, fun _ => ⟨w.heap.size, 0, rfl, fun j hj => ?_⟩⟩
  have hg : (w.alloc (.cells (il k zs).toArray e fr)).heap[w.heap.size]? = some (.cells (il k zs).toArray e fr) := by
    show (w.heap.push _)[w.heap.size]? = _
    simp
  rw [Nat.zero_add, cell_of_row _ w.heap.size j _ e fr hg]
  simpa using il_get k zs j (by omega)
end Go.Proofs.YtepaghohojomeaaDoor
/-
  A FRAGMENT'S HEAD, an array of eleven bytes in a block of its own, and WHAT THE PROGRAM'S METHODS ON IT ANSWER (cut, get, put, sumWith). The table of half a byte's steps must lie in its block as start-up lays it.
-/
namespace Go.Proofs.YtepaghohojomeaaDoor
open Go.RowKit
/-- bytes as an array's value -/
def av (zs : List Int) : Array Value := (il .u8 zs).toArray
theorem av_size (zs : List Int) : (av zs).size = zs.length := by simp [av, il_length]
theorem av_one (zs : List Int) : (av zs).all (·.oneCell') = true := all_oneCell_toArray (il_one _ _)
theorem av_get (zs : List Int) (j : Nat) (h : j < zs.length) : (av zs)[j]? = some (.int .u8 (zs.getD j 0)) := by
  have := il_get .u8 zs j h
  simpa [av] using this
def z11 : List Int := List.replicate 11 0
theorem z11_length : z11.length = 11 := by simp [z11]
theorem z11_cells : av z11 = #[.int .u8 0, .int .u8 0, .int .u8 0, .int .u8 0, .int .u8 0, .int .u8 0, .int .u8 0, .int .u8 0, .int .u8 0, .int .u8 0, .int .u8 0] := rfl
theorem hd_info (c : Array Value) (h : c.size = 11) : (Tryd.prog.info? 145).map (·.size) = some c.size := by rw [h]; kernel_rfl
theorem av_info (zs : List Int) (h : zs.length = 11) : (Tryd.prog.info? 145).map (·.size) = some (av zs).size := hd_info _ (by rw [av_size, h])
/-- a block that holds a head -/
def HD (w : World) (b : Nat) (zs : List Int) : Prop := w.heap[b]? = some (.cells (av zs) 145 (0, 0)) ∧ zs.length = 11
theorem HD.lt {w : World} {b : Nat} {c : List Int} (h : HD w b c) : b < w.heap.size := (Array.getElem?_eq_some_iff.1 h.1).1
theorem HD.keep {w w' : World} {b : Nat} {c : List Int} (h : HD w b c) (hb : Below w.heap.size w w') : HD w' b c := ⟨by rw [hb.block b h.lt]; exact h.1, h.2⟩
theorem HD.cell {w : World} {b : Nat} {c : List Int} (h : HD w b c) (j : Nat) (hj : j < 11) : w.cell? ⟨b, j, none⟩ = some (.int .u8 (c.getD j 0)) := by
  rw [Joins.cell_of_block h.1 j, av_get _ _ (by rw [h.2]; exact hj)]
theorem HD.row {w : World} {b : Nat} {c c' : List Int} (h : HD w b c) (hc : c'.length = 11) : HD (w.setRow b (av c')) b c' := ⟨setRow_heap w b (av c) (av c') _ _ h.1, hc⟩
theorem HD.new (w : World) (zs : List Int) (h : zs.length = 11) : HD (w.alloc (.cells (av zs) 145)) w.heap.size zs := ⟨heap_alloc_last w _, h⟩
/-- a part of a head, as a slice of bytes -/
theorem HD.ri {w : World} {g : Nat} {l : List Int} (h : HD w g l) (m d : Nat) (hm : m + d ≤ 11) : RI .u8 w (.slice (some ⟨g, m, none⟩) d d) d ((l.drop m).take d) := by
  refine ⟨_, d, rfl, by simp [h.2]; omega, Nat.le_refl _, by omega, fun h => by simp at h, fun _ => ⟨g, m, rfl, fun j hj => ?_⟩⟩
  rw [h.cell (m + j) (by omega)]
  simp only [List.getD, List.getElem?_take, hj, if_true, List.getElem?_drop]
theorem run_items11 {w : World} (a b : List Int) (ha : a.length = 11) (hb : b.length = 11) : ∀ is : List Nat, (∀ i ∈ is, i < 11) →
    (Op.eqItems 9999 5 1 (av a) (av b) is).run Tryd.prog w = .ok (is.all fun i => a.getD i 0 == b.getD i 0) w
  | [], _ => by simp [Op.eqItems]
  | i :: is, h => by
    have hi : i < 11 := h i (by simp)
    have p1 := run_part_plain (P := Tryd.prog) (w := w) (e := 5) (by kernel_rfl) (xs := av a) (off := i * 1) (v := .int .u8 (a.getD i 0)) (by rw [Nat.mul_one]; exact av_get a i (by omega))
    have p2 := run_part_plain (P := Tryd.prog) (w := w) (e := 5) (by kernel_rfl) (xs := av b) (off := i * 1) (v := .int .u8 (b.getD i 0)) (by rw [Nat.mul_one]; exact av_get b i (by omega))
    have p3 := run_equalIn_int (P := Tryd.prog) w 9998 5 .u8 .u8 (a.getD i 0) (b.getD i 0) Tryd.underlying5
    have p4 := run_items11 (w := w) a b ha hb is (fun j hj => h j (List.mem_cons_of_mem _ hj))
    simp only [Op.eqItems, Sem.run_bind, p1, p2, Result.andThen_ok, List.all_cons]
    rw [p3]
    simp only [Result.andThen_ok]
    cases hc : (a.getD i 0 == b.getD i 0)
    · simp
    · simpa using p4
theorem run_eq_head (a b : List Int) (ha : a.length = 11) (hb : b.length = 11) (w : World) : (Op.equalIn 10000 145 (.agg (av a)) (.agg (av b))).run Tryd.prog w = .ok (decide (a = b)) w := by
  obtain ⟨i, hi⟩ : ∃ i, Tryd.prog.info? 5 = some i := info_of_underlying Tryd.underlying5
  have hc : Tryd.prog.cellsOf 5 = 1 := by kernel_rfl
  have h1 := run_equalIn_array w (P := Tryd.prog) 9999 (av a) (av b) Tryd.underlying145 hi
  rw [hc, run_items11 a b ha hb _ (fun i hi => List.mem_range.1 hi)] at h1
  rw [h1]
  refine congrArg (fun x => Result.ok x w) ?_
  rw [Bool.eq_iff_iff, List.all_eq_true, decide_eq_true_eq]
  constructor
  · intro h
    refine List.ext_getElem (by omega) fun j h1 h2 => ?_
    have := h j (List.mem_range.2 (by omega))
    simpa [List.getD, h1, h2] using this
  · rintro rfl j _
    simp
set_option maxRecDepth 20000 in
theorem und_head : Tryd.prog.underlying 145 = some (.array (Tryd.prog.arrayLen 145) (Tryd.prog.elem 145)) := by rw [Tryd.underlying145]; rfl
set_option maxRecDepth 20000 in
theorem hd_cell1 {w : World} : (sizeOf (Tryd.prog.elem 145)).run Tryd.prog w = .ok 1 w := by
  have he : Tryd.prog.elem 145 = 5 := rfl
  obtain ⟨i, hi, _, hz1, _⟩ := info_parts Tryd.info_u8
  simp [sizeOf, typeInfo, he, hi, hz1]
set_option maxRecDepth 8000 in
set_option maxHeartbeats 1000000 in
theorem hcut_any (b f n t : Nat) (ht : f + n = t) (h1 : t ≤ 11) (h0 : 0 < n) (w : World) :
    Calls Tryd.prog 97 #[.pointer (some ⟨b, 0, none⟩), .int .i64 f, .int .i64 t] w fun e w' => e = .returned (.slice (some ⟨b, f, none⟩) n n) ∧ w = w' := by
  have hf : (f : Int) ≤ (t : Int) := by omega
  have ht1 : (t : Int) ≤ 11 := by omega
  have hne : ¬ t = f := by omega
  have hs : t - f = n := by omega
  clear ht h1 h0
  go_enter Tryd.func97, Tryd.ntmps97
  go_wp2
  go_ret
  exact ⟨by rfl, rfl⟩
theorem hd_size1 : (Tryd.prog.info? 5).map (·.size) = some 1 := by kernel_rfl
theorem hd_splice (k : IntKind) (l cs : List Int) (off : Nat) : splice (il k l) off (il k cs) = il k (splice l off cs) := by simp [splice, il]
/-- copy into a head -/
theorem wpl_copy_head {ops : Array Oper} {rest : List Oper} {o : Oper} {a : Act} {w : World} {Q : Exit → Act → World → Prop} (hgd : o.guard = none) (d s : Operand)
    (ho : o.op = .call { callee := .builtin .copy, args := #[d, s], argTypes := #[43, 43] }) (g off m : Nat) (l : List Int) (hblk : HD w g l)
    (hd : a.eval d = .slice (some ⟨g, off, none⟩) m m) (v : Value) (zs : List Int) (hs : a.eval s = v) (hri : RI .u8 w v m zs) (hfit : off + m ≤ 11)
    (h : ∀ w', Hid (HD w' g (splice l off zs)) → Hid (Below g w w') → wpList Tryd.prog ops Q rest (a.put o.dst (goInt (m : Int))) w') : wpList Tryd.prog ops Q (o :: rest) a w := by
  refine wpList_plain hgd fun K hK => ?_
  obtain ⟨sp, sCap, rfl, hl, _, _, _, hc⟩ := hri
  have hcl : (il .u8 zs).length = min m m := by rw [il_length, Nat.min_self]; exact hl
  have h1 := step_copy_splice (ops := ops) (K := K) (Q := Q) (E := True) hgd d s 43 43 ho 5 Tryd.underlying43 hd_size1 (some ⟨g, off, none⟩) sp m m m sCap hd hs g off (il .u8 l) 145 hblk.1 (il .u8 zs) hcl ?_ (by rw [hcl, il_length, hblk.2]; omega) (il_one _ _) g w (Below.refl _ _) (Nat.le_refl _) ?_
  · rwa [if_pos (by simp [Region.wanted, hgd])] at h1
  · intro hp
    rw [hcl] at hp
    obtain ⟨b, of2, rfl, hcell⟩ := hc (by omega)
    refine ⟨rfl, _, rfl, fun j u hj => ?_⟩
    have hjl : j < zs.length := by have := (List.getElem?_eq_some_iff.1 hj).1; rwa [il_length] at this
    rw [il_get _ _ _ hjl] at hj
    have h2 := hcell j (by omega)
    rw [← hj]
    by_cases h0 : j = 0
    · subst h0; simpa [Addr.add] using h2
    · simpa [Addr.add, h0] using h2
  · intro w' hg hb
    have e : goInt (il .u8 zs).length = goInt (m : Int) := by rw [hcl, Nat.min_self]
    rw [e]
    refine hK _ _ (h w' ⟨?_, by rw [length_splice _ _ _ (by rw [hblk.2]; omega)]; exact hblk.2⟩ hb)
    have := hg.out
    rwa [hd_splice] at this
theorem more_of (a b : List Int) (ha : isB a) : moreS (ofS a) b = ofS (a ++ b) := by
  have h := reg_lt a ha 4294967295 (by omega)
  unfold ofS moreS
  rw [reg_append, show 4294967295 - (4294967295 - reg (4294967295 - 0) a) = reg (4294967295 - 0) a from by simp only [Nat.sub_zero]; omega]
theorem hsum_any (b : Nat) {w : World} {zs : List Int} (hT : Tab w) (hh : HD w b zs) (hb : isB zs) {v : Value} {n : Nat} {d : List Int} (hr : RI .u8 w v n d) (hd : isB d) {m : Nat} (hm : maskS (ofS (zs.drop 4 ++ d)) = m) :
    Calls Tryd.prog 86 #[.pointer (some ⟨b, 0, none⟩), v] w fun e w' => e = .returned (.int .u64 m) ∧ w = w' := by
  have hh4 := hh.ri 4 7 (by omega)
  rw [List.take_of_length_le (by simp [hh.2])] at hh4
  obtain ⟨o, ho⟩ : ∃ o, ofS (zs.drop 4) = o := ⟨_, rfl⟩
  obtain ⟨q, hq⟩ : ∃ q, moreS o d = q := ⟨_, rfl⟩
  have hq2 : ofS (zs.drop 4 ++ d) = q := by rw [← more_of _ _ (hb.drop 4), ho, hq]
  rw [hq2] at hm
  have HC : Hid (∀ w, Calls Tryd.prog 97 #[.pointer (some ⟨b, 0, none⟩), .int .i64 4, .int .i64 11] w fun e w' => e = .returned (.slice (some ⟨b, 4, none⟩) 7 7) ∧ w = w') := Lib.hid (hcut_any b 4 7 11 rfl (by omega) (by omega))
  have HO : Hid (Calls Tryd.prog 99 #[.slice (some ⟨b, 4, none⟩) 7 7] w fun e w' => e = .returned (.int .u32 o) ∧ w = w') := Lib.hid (of_any hT hh4 (hb.drop 4) ho)
  have HM : Hid (Calls Tryd.prog 98 #[.int .u32 o, v] w fun e w' => e = .returned (.int .u32 q) ∧ w = w') := Lib.hid (more_any (by rw [← ho]; exact ofS_lt _) hT hr hd hq)
  have HK : Hid (∀ w, Calls Tryd.prog 100 #[.int .u32 q] w fun e w' => e = .returned (.int .u32 m) ∧ w = w') := Lib.hid fun w => mask_any q m (by rw [← hq]; exact moreS_lt _ _) hm w
  have hm9 : (m : Int) ≤ 4294967295 := by have := maskS_lt q; omega
  clear hT hh hb hr hd hm hh4 ho hq hq2
  go_enter Tryd.func86, Tryd.ntmps86
  go_wp2_with (first
    | (go_at_call 97; (with_reducible refine (HC.out _).mono ?_); rintro e w' ⟨rfl, rfl⟩)
    | (go_at_call 99; (with_reducible refine (HO.out).mono ?_); rintro e w' ⟨rfl, rfl⟩)
    | (go_at_call 98; (with_reducible refine (HM.out).mono ?_); rintro e w' ⟨rfl, rfl⟩)
    | (go_at_call 100; (with_reducible refine (HK.out _).mono ?_); rintro e w' ⟨rfl, rfl⟩))
  go_ret
  exact ⟨rfl, rfl⟩/-- a head's bytes lie there -/
def HAt (w : World) (b off : Nat) (zs : List Int) : Prop := zs.length = 11 ∧ ∀ k, k < 11 → w.cell? ⟨b, off + k, none⟩ = some (.int .u8 (zs.getD k 0))
theorem run_load_hat {w : World} {b off : Nat} {zs : List Int} (h : HAt w b off zs) : (loadVar 145 ⟨b, off, none⟩).run Tryd.prog w = .ok (.agg (av zs)) w := by
  have hl : (loadCells ⟨b, off, none⟩ (il .u8 zs).length).run Tryd.prog w = .ok (il .u8 zs).toArray w :=
    run_loadCells_list (P := Tryd.prog) w ⟨b, off, none⟩ (il .u8 zs) (fun j v hv => by
      have hadd : (⟨b, off, none⟩ : Addr).add j = ⟨b, off + j, none⟩ := by unfold Addr.add; split <;> simp_all
      have hj : j < zs.length := by have := (List.getElem?_eq_some_iff.1 hv).1; rwa [il_length] at this
      rw [il_get _ _ _ hj] at hv
      rw [hadd, h.2 j (by rw [← h.1]; exact hj)]
      exact hv)
  have hi := av_info zs h.1
  cases hq : Tryd.prog.info? 145 with
  | none => simp [hq] at hi
  | some i =>
    have hs : i.size = 11 := by simpa [hq, av_size, h.1] using hi
    have hagg : (isAgg 145).run Tryd.prog w = .ok true w := by
      unfold isAgg
      rw [Sem.run_bind, run_underlying Tryd.underlying145 w]
      rfl
    rw [il_length, h.1] at hl
    simp [loadVar, Sem.run_bind, hagg, sizeOf, typeInfo, hq, hs, hl, av]
/-- a head is loaded out of bytes -/
theorem exec_load_hat {a : Act} {o : Oper} {w : World} {b off : Nat} {zs : List Int} (x : Operand) (ho : o.op = .load 145 x) (hx : a.eval x = .pointer (some ⟨b, off, none⟩)) (h : HAt w b off zs) :
    (execOp a.eval o).run Tryd.prog w = .ok (.value (.agg (av zs))) w := by
  unfold execOp
  simp only [ho, hx, Instr.loadAt, Instr.sureAddr, Sem.run_bind, Sem.run_pure, Result.andThen_ok, run_load_hat h]
/-- bytes as an array: where they lie -/
theorem exec_arrptr {a : Act} {o : Oper} {w : World} (x : Operand) (ho : o.op = .sliceToArrayPointer 145 x) (p : Option Addr) (n c : Nat) (hx : a.eval x = .slice p n c) (h : 11 ≤ n) :
    (execOp a.eval o).run Tryd.prog w = .ok (.value (.pointer p)) w := by
  have hn : ¬ n < 11 := by omega
  unfold execOp
  simp only [ho, hx, Instr.arrayAt, Sem.run_bind, run_underlying Tryd.underlying145, Result.andThen_ok]
  simp [hn, Result.andThen]
end Go.Proofs.YtepaghohojomeaaDoor
/-
  WHAT word.Get (layer 1) ANSWERS. Bytes must lie where the slices say.
-/
namespace Go.Proofs.YtepaghohojomeaaDoor
open Go.RowKit
set_option maxHeartbeats 400000 in
theorem get_some (b off len cap : Nat) (zs : List Int) (w : World) (hz : Bytes zs) (hlen : 0 < len) (hmax : len ≤ 9223372036854775807)
    (hc : ∀ j, j < len → w.cell? ⟨b, off + j, none⟩ = some (.int .u8 (zs.getD j 0))) :
    Calls Tryd.prog 96 #[.slice (some ⟨b, off, none⟩) len cap] w fun e w' => e = .returned (.int .u64 (getI zs (min len 8))) ∧ w = w' := by
  obtain ⟨m, hm, hm1, hm2, hm3⟩ : ∃ m : Nat, min len 8 = m ∧ m ≤ len ∧ m ≤ 8 ∧ (m = len ∨ m = 8) := ⟨_, rfl, by omega, by omega, by omega⟩
  rw [hm]
  have HM := Lib.hid hm; clear hm
  go_enter Tryd.func96, Tryd.ntmps96
  rcases (by have := HM.out; omega : (len : Int) ≤ 8 ∧ len ≤ m ∨ 8 < (len : Int) ∧ 8 ≤ m) with ⟨h8, hl⟩ | ⟨h8, hl⟩
  all_goals
    go_wp2
    go_loop [3, 8] (fun n i => ∃ k : Nat, k ≤ m ∧ i = .int .i64 k ∧ n = .int .u64 (getI zs k)) (fun _ i => m - (intOf i).toNat)
    case atStart => exact ⟨0, by omega, rfl, rfl⟩
    case round =>
      obtain ⟨k, hk, rfl, rfl⟩ := hrel
      have hb : 0 ≤ zs[k]?.getD 0 ∧ zs[k]?.getD 0 ≤ 255 := hz k
      by_cases hlt : k < m
      · have hcell : w.cell? ⟨b, off + k, none⟩ = some (.int .u8 (zs.getD k 0)) := hc k (by omega)
        have HG := Lib.hid (getI_or zs hz k (by omega))
        go_wp2
        go_round
        case rel => exact ⟨k + 1, by omega, by go_num, by rw [← HG.out]; rfl⟩
        case measure => simp [intOf]; omega
      · go_wp2
        go_ret
        exact ⟨ret_int (by congr 1; omega), rfl⟩
end Go.Proofs.YtepaghohojomeaaDoor
