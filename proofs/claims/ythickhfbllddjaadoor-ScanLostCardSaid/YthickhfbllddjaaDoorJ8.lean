/-
  TEXTS JOINED: StampEmpty, SecsA, SecsB, Fill, ScanRest. Each one's own words stand at its head.
-/
import Derived.Test.YthickhfbllddjaaDoorSecs
import Derived.Test.YthickhfbllddjaaDoorSlices
import Derived.Test.YthickhfbllddjaaDoorBelow
import Derived.Great.BuildSlice
import Derived.Test.YthickhfbllddjaaDoorInfo
import Derived.Deep.MidRow
import Derived.Test.YthickhfbllddjaaDoorJ4
import Derived.Test.YthickhfbllddjaaDoorJ2
import Derived.Lib.SliceRun
/-
  WHAT stamp.Empty ANSWERS (layer 6). No condition.
-/
namespace Go.Proofs.YthickhfbllddjaaDoor
open Go.RowKit
set_option maxRecDepth 8000 in
theorem empty_any (l : List Int) (hl : l.length = 64) (w : World) :
    Calls Tryd.prog 24 #[.agg (sv l)] w fun e w' => e = .returned (.bool (decide (l = z64))) ∧ Below w.heap.size w w' := by
  obtain ⟨z, hz⟩ : ∃ z, decide (l = z64) = z := ⟨_, rfl⟩
  have HQ := Lib.hid (run_eq_sec l z64 hl z64_length)
  rw [hz] at HQ
  rw [hz]
  have HK0 := Lib.hid (Blk.new w l hl)
  have HZ := Lib.hid z64_cells
  have hq := HQ.out (w.alloc (.cells (sv l) 74))
  rw [HZ.out] at hq
  clear hl hz
  go_enter Tryd.func24, Tryd.ntmps24
  go_wp2_with (first
    | (refine wpl_load_sec (by rfl) _ rfl w.heap.size rfl l HK0.out ?_))
  go_ret
  exact ⟨rfl, below_alloc _ _⟩
end Go.Proofs.YthickhfbllddjaaDoor
/-
  APPEND OF ONE SECTOR to a row of sectors that a call makes. Nothing here speaks of the program's functions. No condition.
-/
namespace Go.Proofs.YthickhfbllddjaaDoor
open Go.RowKit
/-- append of one sector to a row of sectors that the call made; the sector lies in a block of its own -/
theorem wpl_app_sec {w : World} {ops : Array Oper} {rest : List Oper} {o : Oper} {a : Act} {Q : Exit → Act → World → Prop} (hgd : o.guard = none) (s x : Operand)
    (ho : o.op = .call { callee := .builtin .append, args := #[s, x], argTypes := #[23, 23] })
    (base : Nat) (v : Value) (n : Nat) (fs : List Int) (hs : a.eval s = v) (hown : Hid (w.ownsRow base 74 64 v n (il .u8 fs)))
    (g : Nat) (ss : List Int) (hx : a.eval x = .slice (some ⟨g, 0, none⟩) 1 1) (hblk : Blk w g ss) (hn : n ≤ 1000000000000)
    (B : Nat) (W : World) (hb : Hid (Below B W w)) (hB : B ≤ base) (hbase : base ≤ w.heap.size)
    (h : ∀ v' w', Hid (w'.ownsRow base 74 64 v' (n + 1) (il .u8 (fs ++ ss))) → Hid (Below B W w') → wpList Tryd.prog ops Q rest (a.put o.dst v') w') : wpList Tryd.prog ops Q (o :: rest) a w := by
  obtain ⟨i, hi, hz0, hz1, hz2⟩ := info_parts sec_parts
  refine wpList_append_own_wide w hgd s x 23 ho base 74 i (.agg (sv z64)) 64 64 Tryd.underlying23 hi hz0 hz1 hz2 rfl (by omega) v n (il .u8 fs) hs hown.out ⟨g, 0, none⟩ 1 1 (il .u8 ss) hx (by rw [il_length, hblk.2]) ?_ (il_one _ _) (by unfold maxLen; omega) (by omega) hbase ?_
  · intro j u hj
    have hjl : j < ss.length := by have := (List.getElem?_eq_some_iff.1 hj).1; rwa [il_length] at this
    rw [il_get _ _ _ hjl] at hj
    have := hblk.cell j (by rw [← hblk.2]; exact hjl)
    by_cases h0 : j = 0
    · subst h0; rw [← hj]; simpa [Addr.add] using this
    · rw [← hj]; simpa [Addr.add, h0] using this
  · intro v' w' h1 h2 _
    exact h v' w' (by rw [il_append]; exact h1) (hb.out.grown h2 (by omega) (fun q hq => by have := (hown.out.lt q hq).1; omega))
end Go.Proofs.YthickhfbllddjaaDoor
/-
  ROWS OF SECTORS that a call makes, side by side with others; cuts of slices of sectors; literals of one sector. Nothing here speaks of the program's functions. No condition.
-/
namespace Go.Proofs.YthickhfbllddjaaDoor
open Go.RowKit
section
variable {w : World} {ops : Array Oper} {rest : List Oper} {o : Oper} {a : Act} {Q : Exit → Act → World → Prop}
/-- append of a slice of sectors to a row of sectors that the call made -/
theorem wpl_app_fs (hgd : o.guard = none) (s x : Operand)
    (ho : o.op = .call { callee := .builtin .append, args := #[s, x], argTypes := #[23, 23] })
    (base : Nat) (v : Value) (n : Nat) (fs : List Int) (hs : a.eval s = v) (hown : Hid (w.ownsRow base 74 64 v n (il .u8 fs)))
    (v2 : Value) (m : Nat) (gs : List Int) (hx : a.eval x = v2) (hfs : Hid (FS w v2 m gs)) (hn : n + m ≤ 1000000000000)
    (B : Nat) (W : World) (hb : Hid (Below B W w)) (hB : B ≤ base) (hbase : base ≤ w.heap.size)
    (h : ∀ v' w', Hid (w'.ownsRow base 74 64 v' (n + m) (il .u8 (fs ++ gs))) → Hid (Below B W w') → Hid (w.grownBy w' v.ownBlock) → wpList Tryd.prog ops Q rest (a.put o.dst v') w') : wpList Tryd.prog ops Q (o :: rest) a w := by
  obtain ⟨i, hi, hz0, hz1, hz2⟩ := info_parts sec_parts
  obtain ⟨ad, cap, rfl, hl, hlc, hc63, hnil, hc⟩ := hfs.out
  cases ad with
  | none =>
    obtain rfl : cap = 0 := hnil rfl
    obtain rfl : m = 0 := by omega
    obtain rfl : gs = [] := List.length_eq_zero_iff.1 (by omega)
    refine wpList_append_own_none hgd s x 23 ho base 74 i 64 Tryd.underlying23 hi v n (il .u8 fs) hs hown.out hx ?_
    exact h v w (by rw [List.append_nil]; exact hown) hb (Lib.hid ⟨rfl, rfl, rfl, Nat.le_refl _, fun _ _ _ => rfl⟩)
  | some ad =>
    refine wpList_append_own_wide w hgd s x 23 ho base 74 i (.agg (sv z64)) 64 64 Tryd.underlying23 hi hz0 hz1 hz2 rfl (by omega) v n (il .u8 fs) hs hown.out ad m cap (il .u8 gs) hx (by rw [il_length]; omega) ?_ (il_one _ _) (by unfold maxLen; omega) (by omega) hbase ?_
    · intro j u hj
      have hjl : j < gs.length := by have := (List.getElem?_eq_some_iff.1 hj).1; rwa [il_length] at this
      obtain ⟨b, off, e1, hcell⟩ := hc (by omega)
      obtain rfl := Option.some.inj e1
      rw [il_get _ _ _ hjl] at hj
      obtain rfl := Option.some.inj hj
      have := hcell j (by omega)
      by_cases h0 : j = 0
      · subst h0; simpa [Addr.add] using this
      · simpa [Addr.add, h0] using this
    · intro v' w' h1 h2 _
      exact h v' w' (by rw [il_append]; exact h1) (hb.out.grown h2 (by omega) (fun q hq => by have := (hown.out.lt q hq).1; omega)) h2
/-- append of one sector to a row of sectors that the call made, in a statement whose order is open -/
theorem wp_app_sec {K : Act → World → Prop} (s x : Operand)
    (ho : o.op = .call { callee := .builtin .append, args := #[s, x], argTypes := #[23, 23] })
    (base : Nat) (v : Value) (n : Nat) (fs : List Int) (hs : a.eval s = v) (hown : Hid (w.ownsRow base 74 64 v n (il .u8 fs)))
    (g : Nat) (ss : List Int) (hx : a.eval x = .slice (some ⟨g, 0, none⟩) 1 1) (hblk : Blk w g ss) (hn : n ≤ 1000000000000)
    (B : Nat) (W : World) (hb : Hid (Below B W w)) (hB : B ≤ base) (hbase : base ≤ w.heap.size)
    (h : ∀ v' w', Hid (w'.ownsRow base 74 64 v' (n + 1) (il .u8 (fs ++ ss))) → Hid (Below B W w') → K (a.put o.dst v') w') : Oper.wp Tryd.prog o a w K Q := by
  obtain ⟨i, hi, hz0, hz1, hz2⟩ := info_parts sec_parts
  refine wp_append_own_wide w s x 23 ho base 74 i (.agg (sv z64)) 64 64 Tryd.underlying23 hi hz0 hz1 hz2 rfl (by omega) v n (il .u8 fs) hs hown.out ⟨g, 0, none⟩ 1 1 (il .u8 ss) hx (by rw [il_length, hblk.2]) ?_ (il_one _ _) (by unfold maxLen; omega) (by omega) hbase ?_
  · intro j u hj
    have hjl : j < ss.length := by have := (List.getElem?_eq_some_iff.1 hj).1; rwa [il_length] at this
    rw [il_get _ _ _ hjl] at hj
    have := hblk.cell j (by rw [← hblk.2]; exact hjl)
    by_cases h0 : j = 0
    · subst h0; rw [← hj]; simpa [Addr.add] using this
    · rw [← hj]; simpa [Addr.add, h0] using this
  · intro v' w' h1 h2 _
    exact h v' w' (by rw [il_append]; exact h1) (hb.out.grown h2 (by omega) (fun q hq => by have := (hown.out.lt q hq).1; omega))
end
/-- an empty row of sectors, just made -/
theorem own_empty64 {w : World} {e : TypeId} {base b : Nat} (hb : w.heap.size = b) (h : base ≤ b) : Hid ((w.alloc (.cells #[] e)).ownsRow base e 64 (.slice (some ⟨b, 0, none⟩) 0 0) 0 (il .u8 [])) := by
  subst hb
  exact ⟨rfl, .inr ⟨w.heap.size, 0, #[], rfl, h, heap_alloc_last w _, Nat.le_refl _, by unfold maxLen; omega, rfl, rfl⟩⟩
/-- a literal of one sector -/
theorem fold_set (l : List Value) : ∀ (k : Nat) (cs : Array Value) (i : Nat), ((l.zipIdx k).foldl (fun cs (p : Value × Nat) => cs.setIfInBounds (0 + p.2) p.1) cs)[i]? = if k ≤ i ∧ i < k + l.length ∧ i < cs.size then l[i - k]? else cs[i]? := by
  induction l with
  | nil => intro k cs i; simp; intro h1 h2; omega
  | cons x l ih =>
    intro k cs i
    rw [List.zipIdx_cons, List.foldl_cons, ih (k + 1)]
    simp only [Array.size_setIfInBounds, List.length_cons, Nat.zero_add]
    by_cases h1 : k + 1 ≤ i ∧ i < k + 1 + l.length ∧ i < cs.size
    · rw [if_pos h1, if_pos (by omega), show i - k = (i - (k + 1)) + 1 from by omega, List.getElem?_cons_succ]
    · rw [if_neg h1]
      by_cases h2 : i = k
      · subst h2
        by_cases h3 : i < cs.size
        · rw [if_pos (by omega)]; simp [h3]
        · rw [if_neg (by omega)]; simp [h3]
      · rw [if_neg (by omega), Array.getElem?_setIfInBounds_ne (Ne.symm h2)]
theorem fill_sec (z : List Int) (hz : z.length = 64) (cs : Array Value) (hc : cs.size = 64) : Instr.fill (fun i => some (i * 64, 64)) cs [(0, .agg (sv z))] = some (sv z) := by
  have h0 : (Value.agg (sv z)).cells = sv z := rfl
  have hs : (sv z).size = 64 := by rw [sv_size, hz]
  simp only [Instr.fill, h0, hs, Nat.zero_mul, Nat.zero_add, hc]
  rw [if_neg (by simp)]
  refine congrArg some ?_
  refine Array.ext_getElem? fun i => ?_
  rw [← Array.foldl_toList, Array.toList_zipIdx]
  have := fold_set (sv z).toList 0 cs i
  simp only [Nat.zero_add] at this
  rw [this]
  by_cases hi : i < 64
  · rw [if_pos (by simp [hs, hc]; omega)]; simp
  · rw [if_neg (by omega), Array.getElem?_eq_none (by omega), Array.getElem?_eq_none (by omega)]
theorem wpl_build_sec {w : World} {ops : Array Oper} {rest : List Oper} {o : Oper} {a : Act} {Q : Exit → Act → World → Prop} (hgd : o.guard = none) (x : Operand) (ho : o.op = .buildSlice 23 1 #[(0, x)]) (z : List Int) (hz : z.length = 64) (hx : a.eval x = .agg (sv z))
    (h : wpList Tryd.prog ops Q rest (a.put o.dst (.slice (some ⟨w.heap.size, 0, none⟩) 1 1)) (w.alloc (.cells (sv z) 74))) : wpList Tryd.prog ops Q (o :: rest) a w := by
  obtain ⟨i, hi, hz0, hz1, hz2⟩ := info_parts sec_parts
  refine wpList_buildSlice hgd 23 74 1 _ ho (sv z) i (.agg (sv z64)) Tryd.underlying23 hi hz0 (by rw [hz1]; omega) (by rw [hz1]; omega) ?_ h
  rw [hz1]
  simpa [hx] using fill_sec z hz _ (by simp)
theorem FS.blk {w : World} {g : Nat} {z : List Int} (h : Blk w g z) : FS w (.slice (some ⟨g, 0, none⟩) 1 1) 1 z :=
  ⟨_, 1, rfl, by rw [h.2], Nat.le_refl _, by omega, fun h => by simp at h, fun _ => ⟨g, 0, rfl, fun j hj => by rw [Nat.zero_add]; exact h.cell j (by omega)⟩⟩
/-- cut: from m on, the first d of them -/
theorem FS.mid {w : World} {a : Option Addr} {n cap : Nat} {fs : List Int} (h : FS w (.slice a n cap) n fs) (m d : Nat) (hm : m + d ≤ n) : FS w (sliced a m (m + d) cap 64) d ((fs.drop (m * 64)).take (d * 64)) := by
  obtain ⟨a', cap', e, h1, h2, h3, h4, hcell⟩ := h
  simp only [Value.slice.injEq, true_and] at e
  obtain ⟨rfl, rfl⟩ := e
  have hl : ((fs.drop (m * 64)).take (d * 64)).length = d * 64 := by simp; omega
  unfold sliced
  rw [show m + d - m = d from by omega]
  by_cases h0 : cap = m
  · rw [if_pos h0]
    exact ⟨a, cap - m, rfl, hl, by omega, by omega, fun _ => by omega, fun h => absurd h (by omega)⟩
  · rw [if_neg h0]
    cases a with
    | none => have := h4 rfl; omega
    | some x =>
      refine ⟨some (x.add (m * 64)), cap - m, rfl, hl, by omega, by omega, fun h => by simp at h, fun hp => ?_⟩
      obtain ⟨b, off, hx, hcl⟩ := hcell (by omega)
      obtain rfl := Option.some.inj hx
      refine ⟨b, off + m * 64, by simp [Addr.add], fun j hj => ?_⟩
      have := hcl (m * 64 + j) (by omega)
      rw [Nat.add_assoc, this]
      simp only [List.getD, List.getElem?_take, hj, if_true, List.getElem?_drop]
theorem wpl_build_secG {w : World} {ops : Array Oper} {rest : List Oper} {o : Oper} {a : Act} {Q : Exit → Act → World → Prop} (hw : Region.wanted o (yielded ops a.tmps) = true) (x : Operand) (ho : o.op = .buildSlice 23 1 #[(0, x)]) (z : List Int) (hz : z.length = 64) (hx : a.eval x = .agg (sv z))
    (h : wpList Tryd.prog ops Q rest (a.put o.dst (.slice (some ⟨w.heap.size, 0, none⟩) 1 1)) (w.alloc (.cells (sv z) 74))) : wpList Tryd.prog ops Q (o :: rest) a w := by
  obtain ⟨i, hi, hz0, hz1, hz2⟩ := info_parts sec_parts
  unfold wpList
  rw [if_pos hw]
  refine Or.inl (wp_buildSlice 23 74 1 _ ho (sv z) i (.agg (sv z64)) Tryd.underlying23 hi hz0 (by rw [hz1]; omega) (by rw [hz1]; omega) ?_ h)
  rw [hz1]
  simpa [hx] using fill_sec z hz _ (by simp)
theorem wp_build_sec {w : World} {o : Oper} {a : Act} {K : Act → World → Prop} {Q : Exit → Act → World → Prop} (x : Operand) (ho : o.op = .buildSlice 23 1 #[(0, x)]) (z : List Int) (hz : z.length = 64) (hx : a.eval x = .agg (sv z))
    (h : K (a.put o.dst (.slice (some ⟨w.heap.size, 0, none⟩) 1 1)) (w.alloc (.cells (sv z) 74))) : Oper.wp Tryd.prog o a w K Q := by
  obtain ⟨i, hi, hz0, hz1, hz2⟩ := info_parts sec_parts
  refine wp_buildSlice 23 74 1 _ ho (sv z) i (.agg (sv z64)) Tryd.underlying23 hi hz0 (by rw [hz1]; omega) (by rw [hz1]; omega) ?_ h
  rw [hz1]
  simpa [hx] using fill_sec z hz _ (by simp)
end Go.Proofs.YthickhfbllddjaaDoor
/-
  ROWS OF SECTORS THAT ARE FILLED one by one (RW). Nothing here speaks of the program's functions. No condition.
-/
namespace Go.Proofs.YthickhfbllddjaaDoor
open Go.RowKit
theorem splice_get {α : Type} (L : List α) (off : Nat) (cs : List α) (hf : off + cs.length ≤ L.length) (q : Nat) :
    (splice L off cs)[q]? = if q < off then L[q]? else if q < off + cs.length then cs[q - off]? else L[q]? := by
  unfold splice
  by_cases h1 : q < off
  · rw [if_pos h1, List.getElem?_append_left (by simp; omega), List.getElem?_take_of_lt h1]
  · rw [if_neg h1, List.getElem?_append_right (by simp; omega), List.length_take, Nat.min_eq_left (by omega)]
    by_cases h2 : q < off + cs.length
    · rw [if_pos h2, List.getElem?_append_left (by omega)]
    · rw [if_neg h2, List.getElem?_append_right (by omega), List.getElem?_drop]
      congr 1; omega
/-- cells that are set, as a row -/
theorem heap_setCells (g : Nat) (t : TypeId) (fr : Nat × Nat) : ∀ (vs : List Value) (o : Nat) (w : World) (cur : List Value), o + vs.length ≤ cur.length → w.heap[g]? = some (.cells cur.toArray t fr) → (w.setCells g o vs).heap[g]? = some (.cells (splice cur o vs).toArray t fr)
  | [], o, w, cur, _, h => by
    have e : splice cur o ([] : List Value) = cur := by simp [splice]
    rw [e]; exact h
  | v :: vs, o, w, cur, hl, h => by
    have h1 : (w.setCell ⟨g, o, none⟩ v).heap[g]? = some (.cells (cur.set o v).toArray t fr) := by
      have := Joins.block_setCell (i := o) h v
      simpa using this
    have h2 := heap_setCells g t fr vs (o + 1) (w.setCell ⟨g, o, none⟩ v) (cur.set o v) (by simp at hl ⊢; omega) h1
    have e : splice (cur.set o v) (o + 1) vs = splice cur o (v :: vs) := by
      refine List.ext_getElem? fun q => ?_
      simp only [List.length_cons] at hl
      rw [splice_get _ _ _ (by simp; omega), splice_get _ _ _ (by simp; omega)]
      by_cases h3 : q < o
      · rw [if_pos (by omega), if_pos h3, List.getElem?_set_ne (by omega)]
      · rw [if_neg h3]
        by_cases h4 : q = o
        · subst h4
          rw [if_pos (by omega), if_pos (by simp), List.getElem?_set_self (by omega), Nat.sub_self]; rfl
        · rw [if_neg (by omega)]
          by_cases h5 : q < o + 1 + vs.length
          · rw [if_pos h5, if_pos (by simp; omega), show q - o = (q - (o + 1)) + 1 from by omega, List.getElem?_cons_succ]
          · rw [if_neg h5, if_neg (by simp; omega), List.getElem?_set_ne (by omega)]
    rw [e] at h2
    exact h2
theorem grown_setCells (g : Nat) : ∀ (vs : List Value) (o : Nat) (w : World), w.grownBy (w.setCells g o vs) (some g)
  | [], _, w => ⟨rfl, rfl, rfl, Nat.le_refl _, fun _ _ _ => rfl⟩
  | v :: vs, o, w => by
    have h := grown_setCells g vs (o + 1) (w.setCell ⟨g, o, none⟩ v)
    have hs : (w.setCell ⟨g, o, none⟩ v).heap.size = w.heap.size := by simp
    exact ⟨h.os, h.tape, h.output, by have := h.size; rw [hs] at this; exact this, fun i hi hne => (h.block i (by rw [hs]; exact hi) hne).trans (Below.heap_setCell w ⟨g, o, none⟩ v i (fun e => hne (by rw [e])))⟩
theorem grown_setCell (g o : Nat) (v : Value) (w : World) : w.grownBy (w.setCell ⟨g, o, none⟩ v) (some g) := grown_setCells g [v] o w
theorem grown_trans {a b c : World} {row : Option Nat} (h : a.grownBy b row) (k : b.grownBy c row) : a.grownBy c row :=
  ⟨k.os.trans h.os, k.tape.trans h.tape, k.output.trans h.output, Nat.le_trans h.size k.size, fun i hi hne => (k.block i (Nat.lt_of_lt_of_le hi h.size) hne).trans (h.block i hi hne)⟩
theorem grown_refl (w : World) (row : Option Nat) : w.grownBy w row := ⟨rfl, rfl, rfl, Nat.le_refl _, fun _ _ _ => rfl⟩
theorem grown_drew {a b : World} {row : Option Nat} (h : a.grownBy b row) : a.grownBy b.drew row := ⟨h.os, h.tape, h.output, h.size, h.block⟩
/-- a row of sectors that is being filled -/
def RW (w : World) (g : Nat) (zs : List Int) : Prop := w.heap[g]? = some (.cells (il .u8 zs).toArray 74 (0, 0))
theorem RW.keep {w w' : World} {g : Nat} {zs : List Int} (h : RW w g zs) (hb : Below w.heap.size w w') : RW w' g zs := by
  unfold RW at *; rw [hb.block g (Array.getElem?_eq_some_iff.1 h).1]; exact h
theorem RW.fs {w : World} {g n : Nat} {zs : List Int} (h : RW w g zs) (hz : zs.length = n * 64) (hn : n ≤ 1000000) : FS w (.slice (some ⟨g, 0, none⟩) n n) n zs := by
  refine ⟨_, n, rfl, hz, Nat.le_refl _, by omega, fun h => by simp at h, fun _ => ⟨g, 0, rfl, fun j hj => ?_⟩⟩
  rw [Nat.zero_add, cell_of_row w g j _ _ _ h]
  simpa using il_get .u8 zs j (by omega)
/-- a sector is stored into it -/
theorem wpl_put_row {w : World} {ops : Array Oper} {rest : List Oper} {o : Oper} {a : Act} {Q : Exit → Act → World → Prop} (hgd : o.guard = none) (x y : Operand) (ho : o.op = .store 74 x y)
    (g n i : Nat) (zs ss : List Int) (h : RW w g zs) (hz : zs.length = n * 64) (hi : i < n) (hs : ss.length = 64) (off : Nat) (hoff : i * 64 = off) (hx : a.eval x = .pointer (some ⟨g, off, none⟩)) (hy : a.eval y = .agg (sv ss))
    (hK : ∀ w', Hid (RW w' g (splice zs off ss)) → Hid (w.grownBy w' (some g)) → wpList Tryd.prog ops Q rest (a.put o.dst undef) w') : wpList Tryd.prog ops Q (o :: rest) a w := by
  subst hoff
  have hle : (i + 1) * 64 ≤ n * 64 := Nat.mul_le_mul_right _ hi
  refine wpList_store_mid hgd 74 x y ho g (i * 64) (sv ss) hx hy ?_ (sv_info _ hs) (sv_one _) ?_
  · intro j hj
    rw [sv_size, hs] at hj
    refine ⟨?_, Joins.unfrozen_of_block h _⟩
    rw [cell_of_row w g _ _ _ _ h]
    have := il_get .u8 zs (i * 64 + j) (by omega)
    simp [this]
  · have e : (sv ss).toList = il .u8 ss := by simp [sv]
    rw [e]
    refine hK _ ?_ (grown_setCells _ _ _ _)
    unfold RW
    rw [← il_splice]
    exact heap_setCells g _ _ _ _ _ _ (by rw [il_length, il_length, hs, hz]; omega) h
/-- a row that was just made, as it lies -/
theorem row_of64 {w : World} {B g : Nat} {e : TypeId} {n : Nat} {xs : List Value} (h : w.ownsRow B e 64 (.slice (some ⟨g, 0, none⟩) n n) n xs) : w.heap[g]? = some (.cells xs.toArray e (0, 0)) := by
  rcases h.2 with ⟨h', _⟩ | ⟨g', cap', cur, h', _, hg, _, _, hcs, htake⟩
  · simp at h'
  · simp only [Value.slice.injEq, Option.some.injEq, Addr.mk.injEq, and_true, true_and] at h'
    obtain ⟨rfl, rfl⟩ := h'
    rw [hg, ← htake, List.take_of_length_le (by simp [hcs])]
/-- .. in a statement whose order is open -/
theorem wp_put_row {w : World} {o : Oper} {a : Act} {K : Act → World → Prop} {Q : Exit → Act → World → Prop} (x y : Operand) (ho : o.op = .store 74 x y)
    (g n i : Nat) (zs ss : List Int) (h : RW w g zs) (hz : zs.length = n * 64) (hi : i < n) (hs : ss.length = 64) (off : Nat) (hoff : i * 64 = off) (hx : a.eval x = .pointer (some ⟨g, off, none⟩)) (hy : a.eval y = .agg (sv ss))
    (hK : ∀ w', Hid (RW w' g (splice zs off ss)) → Hid (w.grownBy w' (some g)) → K (a.put o.dst undef) w') : o.wp Tryd.prog a w K Q := by
  subst hoff
  have hle : (i + 1) * 64 ≤ n * 64 := Nat.mul_le_mul_right _ hi
  refine wp_store_mid 74 x y ho g (i * 64) (sv ss) hx hy ?_ (sv_info _ hs) (sv_one _) ?_
  · intro j hj
    rw [sv_size, hs] at hj
    refine ⟨?_, Joins.unfrozen_of_block h _⟩
    rw [cell_of_row w g _ _ _ _ h]
    have := il_get .u8 zs (i * 64 + j) (by omega)
    simp [this]
  · have e : (sv ss).toList = il .u8 ss := by simp [sv]
    rw [e]
    refine hK _ ?_ (grown_setCells _ _ _ _)
    unfold RW
    rw [← il_splice]
    exact heap_setCells g _ _ _ _ _ _ (by rw [il_length, il_length, hs, hz]; omega) h
end Go.Proofs.YthickhfbllddjaaDoor
/-
  WHAT Rest OF THE PROGRAM'S LAYER 19 (scan) ANSWERS, of any sectors and any end. No condition.
-/
namespace Go.Proofs.YthickhfbllddjaaDoor
open Go.RowKit
theorem rest_step {fs : List Int} {e i : Nat} (h : ∀ j, j < i → restS fs e j = true) (hz : restS fs e i = true) : ∀ j, j < i + 1 → restS fs e j = true := fun j hj => by
  by_cases ej : j = i
  · rw [ej]; exact hz
  · exact h j (by omega)
theorem u8_zero (w : World) : (zeroValue 5).run Tryd.prog w = .ok (.int .u8 0) w := by
  obtain ⟨i, hi, hz0, _, _⟩ := info_parts Tryd.info_u8
  simp [zeroValue, typeInfo, hi, hz0]
/-- clear(s[:m]) of a sector in a block -/
theorem wpl_clear_sec {ops : Array Oper} {rest : List Oper} {o : Oper} {a : Act} {w : World} {Q : Exit → Act → World → Prop} (hgd : o.guard = none) (d : Operand)
    (ho : o.op = .call { callee := .builtin .clear, args := #[d], argTypes := #[38] }) (g m c : Nat) (l : List Int) (hk : Blk w g l) (hd : a.eval d = .slice (some ⟨g, 0, none⟩) m c) (h0 : 0 < m) (hm : m ≤ 64)
    (h : ∀ w' v, Hid (Blk w' g (cleared l m)) → Hid (w.grownBy w' (some g)) → wpList Tryd.prog ops Q rest (a.put o.dst v) w') : wpList Tryd.prog ops Q (o :: rest) a w := by
  refine wpList_plain hgd fun K hK => ?_
  have hrun := Lib.run_clear_slice (P := Tryd.prog) w 38 5 o.type (.int .u8 0) Tryd.underlying38 u8_zero rfl rfl g 0 m c h0 (fun j hj => by rw [Nat.zero_add, hk.cell j (by omega)]; rfl) (fun j hj => by rw [Nat.zero_add]; exact hk.frozen j)
  have hc : (w.setCells g 0 (List.replicate m (.int .u8 0))).heap[g]? = some (.cells (sv (cleared l m)) 74 (0, 0)) := by
    have h1 := heap_setCells g 74 (0, 0) (List.replicate m (.int .u8 0)) 0 w (il .u8 l) (by rw [List.length_replicate, il_length, hk.2]; omega) hk.1
    have e : splice (il .u8 l) 0 (List.replicate m (Value.int .u8 0)) = il .u8 (cleared l m) := by
      unfold cleared splice il
      simp only [List.map_append, List.map_take, List.map_drop, List.map_replicate, List.length_replicate]
    rw [h1, e]
    rfl
  unfold Oper.wp
  simp [execOp, ho, resolve, invoke, builtin, hd, hrun, Result.andThen]
  exact hK _ _ (h _ _ ⟨hc, cleared_length _ hk.2 _ hm⟩ (grown_setCells g _ 0 w))
set_option maxRecDepth 8000 in
set_option maxHeartbeats 4000000 in
theorem rest_any (v : Value) (n : Nat) (fs : List Int) (x : Int) (hx : I63 x) (w : World) (h : FS w v n fs) :
    Calls Tryd.prog 10 #[v, .int .i64 x] w fun r w' => r = .returned (.bool (restB n fs (nr x))) ∧ Below w.heap.size w w' := by
  have hle := nr_le x
  have HW : Hid (∀ w, Calls Tryd.prog 23 #[.int .i64 x] w fun e w' => e = .returned (.agg #[.int .i64 ((nr x / 52 : Nat) : Int), .int .i64 ((nr x % 52 : Nat) : Int)]) ∧ Below w.heap.size w w') := Lib.hid fun w => where_any x hx w
  obtain ⟨e, he⟩ : ∃ e, nr x = e := ⟨_, rfl⟩
  rw [he] at HW hle ⊢
  obtain ⟨q, hq⟩ : ∃ q, e / 52 = q := ⟨_, rfl⟩
  obtain ⟨o, ho⟩ : ∃ o, e % 52 = o := ⟨_, rfl⟩
  rw [hq, ho] at HW
  have hfl := h.length
  obtain ⟨ad, cap, rfl, _, hc1, hc2, _⟩ := id h
  have HH := Lib.hid h
  have HFL := Lib.hid hfl
  obtain ⟨m, hm⟩ : ∃ m, min n 16 = m := ⟨_, rfl⟩
  have hmi : (if (16 : Int) < (n : Int) then (16 : Int) else (n : Int)) = (m : Int) := by split <;> omega
  have HM := Lib.hid hm
  have HQ := Lib.hid hq
  have HO := Lib.hid ho
  have ho51 : o ≤ 51 := by omega
  have hq16 : q ≤ 16 := by omega
  obtain ⟨t, ht⟩ : ∃ t : Nat, 12 + o = t := ⟨_, rfl⟩
  have htI : (12 : Int) + (o : Int) = (t : Int) := by omega
  have htb : (t : Int) ≤ 64 := by omega
  have HT := Lib.hid ht
  have hwz := Lib.hid (Nat.le_refl w.heap.size)
  clear h hx hfl hm hq ho he ht
  go_enter Tryd.func10, Tryd.ntmps10
  go_wp2_with (first
    | (go_at_call 23; (with_reducible refine (HW.out _).mono ?_); rintro r w1 ⟨rfl, hb⟩; have HB1 := Lib.hid hb; clear hb))
  obtain ⟨w2, hw2⟩ : ∃ q', w1.alloc (.cells #[.int .i64 (q : Int), .int .i64 (o : Int)] 71) = q' := ⟨_, rfl⟩
  rw [hw2]
  have HB2 : Hid (Below w.heap.size w w2) := Lib.hid (by rw [← hw2]; exact bch HB1.out (balloc w1 _))
  have HC2 : Hid (w2.cell? ⟨w1.heap.size, 0, none⟩ = some (.int .i64 (q : Int)) ∧ w2.cell? ⟨w1.heap.size, 1, none⟩ = some (.int .i64 (o : Int))) := Lib.hid ⟨cell_of_row w2 w1.heap.size 0 _ _ _ (by rw [← hw2]; exact heap_alloc_last w1 _), cell_of_row w2 w1.heap.size 1 _ _ _ (by rw [← hw2]; exact heap_alloc_last w1 _)⟩
  obtain ⟨sb, hsb⟩ : ∃ g, w1.heap.size = g := ⟨_, rfl⟩
  rw [hsb] at HC2
  rw [hsb]
  clear hw2 hsb HW HB1
  go_loopw [6] (fun iv wr => ∃ i : Nat, iv = .int .i64 i ∧ q ≤ i ∧ i ≤ 16 ∧ Hid (∀ j, j < i → restS fs e j = true) ∧ Hid (Below w2.heap.size w2 wr)) (fun iv _ => 16 - (intOf iv).toNat)
  case atStart => exact ⟨q, rfl, by omega, hq16, Lib.hid (fun j hj => restS_ahead (by rw [HQ.out]; exact hj)), Lib.hid (Below.refl _ _)⟩
  case round =>
    obtain ⟨i, rfl, hqi, hi16, HR, HB⟩ := hrel
    by_cases hlt : (i : Int) < (m : Int)
    · have hin : i < n ∧ i < 16 := by have := HM.out; omega
      obtain ⟨b, off, rfl, hat⟩ := ((HH.out.keep HB2.out).keep HB.out).at_ i hin.1
      obtain ⟨l, hsl⟩ : ∃ l, secOf fs i = l := ⟨_, rfl⟩
      have hat : At wr b (off + i * 64) l := by rw [← hsl]; exact hat
      have HAT := Lib.hid hat
      have HSL : Hid (l.length = 64) := Lib.hid (by rw [← hsl]; exact secOf_length fs n i HFL.out hin.1)
      have HC3 : Hid (∀ w', Below w2.heap.size w2 w' → w'.cell? ⟨sb, 0, none⟩ = some (.int .i64 (q : Int)) ∧ w'.cell? ⟨sb, 1, none⟩ = some (.int .i64 (o : Int))) := Lib.hid fun w' h => ⟨cell_keep h HC2.out.1, cell_keep h HC2.out.2⟩
      have HWR : Hid (w2.heap.size ≤ wr.heap.size) := Lib.hid HB.out.size
      have HT64 : Hid (t ≤ 64) := Lib.hid (by omega)
      have HT0 : Hid (0 < t) := Lib.hid (by omega)
      clear hat
      rcases (by omega : ((i : Int) = (q : Int) ∧ (0 : Int) < (o : Int)) ∨ ((i : Int) = (q : Int) ∧ ¬ (0 : Int) < (o : Int)) ∨ ¬ (i : Int) = (q : Int)) with ⟨h1, h2⟩ | ⟨h1, h2⟩ | h1
      · skip
        obtain rfl : i = q := by omega
        clear h1
        obtain ⟨L, hL⟩ : ∃ L, cleared l t = L := ⟨_, rfl⟩
        have HLL : Hid (L.length = 64) := Lib.hid (by rw [← hL]; exact cleared_length _ HSL.out _ HT64.out)
        have hy : restS fs e i = decide (L = z64) := by rw [← hL, ← hsl, ← HT.out, ← HO.out]; exact restS_mid HFL.out (by omega) (by have := HQ.out; omega) (by have := HO.out; omega)
        have HLQ := Lib.hid hL
        have HE0 := fun w => empty_any L HLL.out w
        rw [← hy] at HE0
        have hno := fun z => restB_no (n := n) (fs := fs) (e := e) (i := i) (by omega) (by omega) z
        cases hz : restS fs e i with
        | true =>
          rw [hz] at HE0
          have HE := Lib.hid HE0
          have HNX : Hid (∀ j, j < i + 1 → restS fs e j = true) := Lib.hid (rest_step HR.out hz)
          clear hno HE0 hy hz hsl hL
          go_wp2_with (first
            | (refine wpl_load_at rfl _ rfl b _ rfl _ HAT.out ?_)
            | (refine wpl_store_new rfl (.tmp 7) (.tmp 22) rfl rfl wr.heap.size rfl l HSL.out rfl rfl wr (Below.refl _ _) ?_; intro w3 HK3 HB3 _; have HB3 := Lib.hid (bch HB.out HB3.out); obtain ⟨y03, y13⟩ := HC3.out _ HB3.out)
            | (refine wpl_clear_sec rfl (.tmp 35) rfl wr.heap.size t 64 l HK3.out rfl HT0.out HT64.out ?_; intro w4 v4 HK4 HG4; rw [HLQ.out] at HK4; have HB4 := Lib.hid (HB3.out.grown HG4.out HB3.out.size (fun q' hq' => by cases hq'; exact HWR.out)))
            | (refine wpl_load_sec (by rfl) (.tmp 7) rfl wr.heap.size rfl L HK4.out ?_)
            | (go_at_call 24; (with_reducible refine (HE.out _).mono ?_); rintro r w5 ⟨rfl, hb⟩; have HB5 := Lib.hid (bch HB4.out hb); clear hb))
          go_roundw
          case rel => exact ⟨i + 1, by go_num, by omega, by omega, HNX, HB5⟩
          case measure => simp [intOf]; omega
        | false =>
          rw [hz] at HE0
          have HE := Lib.hid HE0
          have HNO := Lib.hid (hno hz)
          clear hno HE0 hy hz hsl hL
          go_wp2_with (first
            | (refine wpl_load_at rfl _ rfl b _ rfl _ HAT.out ?_)
            | (refine wpl_store_new rfl (.tmp 7) (.tmp 22) rfl rfl wr.heap.size rfl l HSL.out rfl rfl wr (Below.refl _ _) ?_; intro w3 HK3 HB3 _; have HB3 := Lib.hid (bch HB.out HB3.out); obtain ⟨y03, y13⟩ := HC3.out _ HB3.out)
            | (refine wpl_clear_sec rfl (.tmp 35) rfl wr.heap.size t 64 l HK3.out rfl HT0.out HT64.out ?_; intro w4 v4 HK4 HG4; rw [HLQ.out] at HK4; have HB4 := Lib.hid (HB3.out.grown HG4.out HB3.out.size (fun q' hq' => by cases hq'; exact HWR.out)))
            | (refine wpl_load_sec (by rfl) (.tmp 7) rfl wr.heap.size rfl L HK4.out ?_)
            | (go_at_call 24; (with_reducible refine (HE.out _).mono ?_); rintro r w5 ⟨rfl, hb⟩; have HB5 := Lib.hid (bch HB4.out hb); clear hb))
          (first | go_ret2 | go_ret3 | go_ret)
          exact ⟨ret_bool HNO.out.symm, bch HB2.out HB5.out⟩
      · skip
        obtain rfl : i = q := by omega
        clear h1
        obtain ⟨L, hL⟩ : ∃ L, l = L := ⟨_, rfl⟩
        subst hL
        have HLL := HSL
        have hy : restS fs e i = decide (l = z64) := by rw [← hsl]; exact restS_behind HFL.out (by omega) (by have := HQ.out; have := HO.out; omega)
        have HE0 := fun w => empty_any l HLL.out w
        rw [← hy] at HE0
        have hno := fun z => restB_no (n := n) (fs := fs) (e := e) (i := i) (by omega) (by omega) z
        cases hz : restS fs e i with
        | true =>
          rw [hz] at HE0
          have HE := Lib.hid HE0
          have HNX : Hid (∀ j, j < i + 1 → restS fs e j = true) := Lib.hid (rest_step HR.out hz)
          clear hno HE0 hy hz hsl
          go_wp2_with (first
            | (refine wpl_load_at rfl _ rfl b _ rfl _ HAT.out ?_)
            | (refine wpl_store_new rfl (.tmp 7) (.tmp 22) rfl rfl wr.heap.size rfl l HSL.out rfl rfl wr (Below.refl _ _) ?_; intro w3 HK3 HB3 _; have HB3 := Lib.hid (bch HB.out HB3.out); obtain ⟨y03, y13⟩ := HC3.out _ HB3.out)
            | (refine wpl_load_sec (by rfl) (.tmp 7) rfl wr.heap.size rfl l HK3.out ?_)
            | (go_at_call 24; (with_reducible refine (HE.out _).mono ?_); rintro r w5 ⟨rfl, hb⟩; have HB5 := Lib.hid (bch HB3.out hb); clear hb))
          go_roundw
          case rel => exact ⟨i + 1, by go_num, by omega, by omega, HNX, HB5⟩
          case measure => simp [intOf]; omega
        | false =>
          rw [hz] at HE0
          have HE := Lib.hid HE0
          have HNO := Lib.hid (hno hz)
          clear hno HE0 hy hz hsl
          go_wp2_with (first
            | (refine wpl_load_at rfl _ rfl b _ rfl _ HAT.out ?_)
            | (refine wpl_store_new rfl (.tmp 7) (.tmp 22) rfl rfl wr.heap.size rfl l HSL.out rfl rfl wr (Below.refl _ _) ?_; intro w3 HK3 HB3 _; have HB3 := Lib.hid (bch HB.out HB3.out); obtain ⟨y03, y13⟩ := HC3.out _ HB3.out)
            | (refine wpl_load_sec (by rfl) (.tmp 7) rfl wr.heap.size rfl l HK3.out ?_)
            | (go_at_call 24; (with_reducible refine (HE.out _).mono ?_); rintro r w5 ⟨rfl, hb⟩; have HB5 := Lib.hid (bch HB3.out hb); clear hb))
          (first | go_ret2 | go_ret3 | go_ret)
          exact ⟨ret_bool HNO.out.symm, bch HB2.out HB5.out⟩
      · skip
        obtain ⟨L, hL⟩ : ∃ L, l = L := ⟨_, rfl⟩
        subst hL
        have HLL := HSL
        have hy : restS fs e i = decide (l = z64) := by rw [← hsl]; exact restS_behind HFL.out (by omega) (by have := HQ.out; have := HO.out; omega)
        have HE0 := fun w => empty_any l HLL.out w
        rw [← hy] at HE0
        have hno := fun z => restB_no (n := n) (fs := fs) (e := e) (i := i) (by omega) (by omega) z
        cases hz : restS fs e i with
        | true =>
          rw [hz] at HE0
          have HE := Lib.hid HE0
          have HNX : Hid (∀ j, j < i + 1 → restS fs e j = true) := Lib.hid (rest_step HR.out hz)
          clear hno HE0 hy hz hsl
          go_wp2_with (first
            | (refine wpl_load_at rfl _ rfl b _ rfl _ HAT.out ?_)
            | (refine wpl_store_new rfl (.tmp 7) (.tmp 22) rfl rfl wr.heap.size rfl l HSL.out rfl rfl wr (Below.refl _ _) ?_; intro w3 HK3 HB3 _; have HB3 := Lib.hid (bch HB.out HB3.out); obtain ⟨y03, y13⟩ := HC3.out _ HB3.out)
            | (refine wpl_load_sec (by rfl) (.tmp 7) rfl wr.heap.size rfl l HK3.out ?_)
            | (go_at_call 24; (with_reducible refine (HE.out _).mono ?_); rintro r w5 ⟨rfl, hb⟩; have HB5 := Lib.hid (bch HB3.out hb); clear hb))
          go_roundw
          case rel => exact ⟨i + 1, by go_num, by omega, by omega, HNX, HB5⟩
          case measure => simp [intOf]; omega
        | false =>
          rw [hz] at HE0
          have HE := Lib.hid HE0
          have HNO := Lib.hid (hno hz)
          clear hno HE0 hy hz hsl
          go_wp2_with (first
            | (refine wpl_load_at rfl _ rfl b _ rfl _ HAT.out ?_)
            | (refine wpl_store_new rfl (.tmp 7) (.tmp 22) rfl rfl wr.heap.size rfl l HSL.out rfl rfl wr (Below.refl _ _) ?_; intro w3 HK3 HB3 _; have HB3 := Lib.hid (bch HB.out HB3.out); obtain ⟨y03, y13⟩ := HC3.out _ HB3.out)
            | (refine wpl_load_sec (by rfl) (.tmp 7) rfl wr.heap.size rfl l HK3.out ?_)
            | (go_at_call 24; (with_reducible refine (HE.out _).mono ?_); rintro r w5 ⟨rfl, hb⟩; have HB5 := Lib.hid (bch HB3.out hb); clear hb))
          (first | go_ret2 | go_ret3 | go_ret)
          exact ⟨ret_bool HNO.out.symm, bch HB2.out HB5.out⟩
    · have hall : restB n fs e = true := restB_yes fun j h1 h2 => HR.out j (by have := HM.out; omega)
      have HALL := Lib.hid hall
      clear hall
      go_wp2
      go_ret
      exact ⟨ret_bool HALL.out.symm, bch HB2.out HB.out⟩
end Go.Proofs.YthickhfbllddjaaDoor
