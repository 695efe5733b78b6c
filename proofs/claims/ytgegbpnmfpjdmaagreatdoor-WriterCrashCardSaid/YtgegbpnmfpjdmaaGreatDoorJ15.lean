/-
  TEXTS JOINED: Cut, Clone, FragBlk, FragList, PlanRow, Put, FragRef. Each one's own words stand at its head.
-/
import Derived.Test.YtgegbpnmfpjdmaaGreatDoorJ5
import Derived.Laws.Slices
import Derived.Deep.WholeRow
import Derived.Lib.SmallJoins
import Derived.Test.YtgegbpnmfpjdmaaGreatDoorJ1
import Derived.Lib.SliceRun
import Derived.Test.YtgegbpnmfpjdmaaGreatDoorJ11
import Derived.Test.YtgegbpnmfpjdmaaGreatDoorJ0
import Derived.Deep.MidRow
import Derived.Test.YtgegbpnmfpjdmaaGreatDoorJ3
namespace Go.Proofs.YtgegbpnmfpjdmaaGreatDoor
open Go.RowKit
theorem RI.cut {k : IntKind} {w : World} {a : Option Addr} {len cap : Nat} {zs : List Int} (h : RI k w (.slice a len cap) len zs) (l n m : Nat) (hl : l + n ≤ len) (hm : l + n ≤ m) (hm2 : m ≤ cap) :
    RI k w (sliced a l (l + n) m 1) n ((zs.drop l).take n) := by
  obtain ⟨a', cap', e, h1, h2, h3, h4, hc⟩ := h
  simp only [Value.slice.injEq, true_and] at e
  obtain ⟨rfl, rfl⟩ := e
  have hz : ((zs.drop l).take n).length = n := by simp; omega
  unfold sliced
  rw [show l + n - l = n from by omega]
  by_cases h0 : m = l
  · rw [if_pos h0]
    exact ⟨a, m - l, rfl, hz, by omega, by omega, fun e => by have := h4 e; omega, fun h => absurd h (by omega)⟩
  · rw [if_neg h0]
    cases a with
    | none => have := h4 rfl; omega
    | some x =>
      refine ⟨some (x.add (l * 1)), m - l, rfl, hz, by omega, by omega, fun h => by simp at h, fun hp => ?_⟩
      obtain ⟨b, off, hx, hcell⟩ := hc (by omega)
      obtain rfl := Option.some.inj hx
      refine ⟨b, off + l, by simp [Addr.add], fun j hj => ?_⟩
      rw [Nat.add_assoc, hcell (l + j) (by omega)]
      simp only [List.getD, List.getElem?_take, hj, if_true, List.getElem?_drop]
section
variable {w : World} {o : Oper} {a : Act}
set_option maxRecDepth 20000 in
theorem u8_cell1 : (sizeOf (Tryz.prog.elem 43)).run Tryz.prog w = .ok 1 w := by
  have he : Tryz.prog.elem 43 = 5 := rfl
  obtain ⟨i, hi, _, hz1, _⟩ := info_parts Tryz.info_u8
  simp [sizeOf, typeInfo, he, hi, hz1]
set_option maxRecDepth 20000 in
theorem und_bytes : Tryz.prog.underlying 43 = some (.slice (Tryz.prog.elem 43)) := by rw [Tryz.underlying43]; rfl
theorem exec_cut_lh (x lo hi : Operand) (ho : o.op = .slice 43 x (some lo) (some hi) none) (p : Option Addr) (len cap l n : Nat) (hx : a.eval x = .slice p len cap) (hlo : a.eval lo = .int .i64 (l : Int)) (hhi : a.eval hi = .int .i64 ((l + n : Nat) : Int)) (hc : l + n ≤ cap) :
    (execOp a.eval o).run Tryz.prog w = .ok (.value (sliced p l (l + n) cap 1)) w := by
  have h1 := run_slice_lh (P := Tryz.prog) w 43 p len cap und_bytes .i64 .i64 (l : Int) ((l + n : Nat) : Int) (by omega) (by omega) (by omega)
  rw [u8_cell1] at h1
  simp only [Result.andThen_ok, Int.toNat_natCast] at h1
  simp only [Int.natCast_add] at h1
  simp [execOp, ho, hx, hlo, hhi, run_sliceAt_slice _ _ _ _ _ _ und_bytes, h1, Result.andThen]
theorem sliced_form (p : Option Addr) (l n m s : Nat) : ∃ q c, sliced p l (l + n) m s = .slice q n c := ⟨_, _, by unfold sliced; rw [show l + n - l = n from by omega]⟩
section
variable {ops : Array Oper} {rest : List Oper} {Q : Exit → Act → World → Prop}
theorem wpl_val (hw : o.guard = none) {v : Value} (he : (execOp a.eval o).run Tryz.prog w = .ok (.value v) w) (h : wpList Tryz.prog ops Q rest (a.put o.dst v) w) : wpList Tryz.prog ops Q (o :: rest) a w := by
  refine wpList_plain hw fun K hK => ?_
  unfold Oper.wp
  rw [he]
  simp only [Oper.upon]
  exact hK _ _ h
end
end
theorem wp_app_full {P : Program} {w : World} {o : Oper} {a : Act} {K : Act → World → Prop} {Q : Exit → Act → World → Prop} (s x : Operand) (t : TypeId) (ho : o.op = .call { callee := .builtin .append, args := #[s, x], argTypes := #[t, t] })
    (e : TypeId) (k : IntKind) (bytes : Nat) (ht : P.underlying t = some (.slice e)) (hinfo : (P.info? e).map (fun i => (i.zero, i.size, i.bytes)) = some (some (.int k 0), 1, bytes))
    (g off n : Nat) (xs : List Int) (hs : a.eval s = .slice (some ⟨g, off, none⟩) n n) (hown : RI k w (.slice (some ⟨g, off, none⟩) n n) n xs)
    (v2 : Value) (m : Nat) (ys : List Int) (hx : a.eval x = v2) (hri : RI k w v2 m ys) (h0 : 0 < n) (hbytes : ((n + m) + (n + m) / 4 + 192) * bytes ≤ 281474976710656) (h63 : n + m ≤ 9223372036854775807)
    (h : ∀ p c w', RI k w' (.slice p (n + m) c) (n + m) (xs ++ ys) → Below w.heap.size w w' → K (a.put o.dst (.slice p (n + m) c)) w') : o.wp P a w K Q := by
  obtain ⟨i, hi, hz0, hz1, hz2⟩ := info_parts hinfo
  obtain ⟨ad, cap, rfl, hl, hlc, _, hnil, hc⟩ := hri
  have hxl := hown.length
  obtain ⟨b, of2, e1, hcell⟩ := hown.at_ h0
  obtain ⟨rfl, rfl⟩ : g = b ∧ off = of2 := by simpa using e1
  by_cases hm : m = 0
  · subst hm
    obtain rfl : ys = [] := List.length_eq_zero_iff.1 hl
    have hrun : (Builtin.append_ #[t, t] o.type #[.slice (some ⟨g, off, none⟩) n n, .slice ad 0 cap]).run P w = .ok (.slice (some ⟨g, off, none⟩) n n) w := by
      cases ad <;> simp [Builtin.append_, run_underlying ht, sizeOf, typeInfo, hi, Builtin.lenOf, Builtin.firstCells, loadCells, loadCellsFrom, storeCells]
    unfold Oper.wp
    simp [execOp, ho, resolve, invoke, builtin, hs, hx, hrun, Result.andThen]
    exact h (some ⟨g, off, none⟩) n w (by rw [List.append_nil]; exact hown) (Below.refl _ _)
  · obtain ⟨b2, of3, rfl, hcell2⟩ := hc (by omega)
    have holds : ∀ j u, (il k xs)[j]? = some u → w.cell? ((⟨g, off, none⟩ : Addr).add j) = some u := by
      intro j u hj
      have hjl : j < xs.length := by have := (List.getElem?_eq_some_iff.1 hj).1; rwa [il_length] at this
      rw [il_get _ _ _ hjl] at hj
      have hadd : (⟨g, off, none⟩ : Addr).add j = ⟨g, off + j, none⟩ := by unfold Addr.add; split <;> simp_all
      rw [hadd, hcell j (by omega)]; exact hj
    have hnews : ∀ j u, (il k ys)[j]? = some u → w.cell? ((⟨b2, of3, none⟩ : Addr).add j) = some u := by
      intro j u hj
      have hjl : j < ys.length := by have := (List.getElem?_eq_some_iff.1 hj).1; rwa [il_length] at this
      rw [il_get _ _ _ hjl] at hj
      have hadd : (⟨b2, of3, none⟩ : Addr).add j = ⟨b2, of3 + j, none⟩ := by unfold Addr.add; split <;> simp_all
      rw [hadd, hcell2 j (by omega)]; exact hj
    have hrun := run_append_grow (P := P) w t o.type e i (.int k 0) ht hi hz0 ⟨g, off, none⟩ n n (il k xs) (by rw [il_length, hz1]; omega) holds ⟨b2, of3, none⟩ m cap (il k ys) (by rw [il_length, hz1]; omega) hnews (by omega) (by omega) (growslice_fits_wide (by omega) (by rw [hz2]; exact hbytes))
    unfold Oper.wp
    simp [execOp, ho, resolve, invoke, builtin, hs, hx, hrun, Result.andThen]
    have hge := grownCap_ge w (n + m) n e
    have hle := grownCap_le_maxLen w (n + m) n e (by unfold maxLen; omega)
    refine h _ _ _ ⟨_, _, rfl, by simp; omega, hge, by unfold maxLen at hle; omega, fun h => by simp at h, fun _ => ⟨w.heap.size, 0, rfl, fun j hj => ?_⟩⟩ ((Below.refl _ w).drew.alloc (Nat.le_refl _) _)
    rw [Nat.zero_add]
    refine (cell_of_row _ w.heap.size j _ e _ (heap_alloc_last w.drew _)).trans ?_
    have e2 : il k xs ++ il k ys = il k (xs ++ ys) := (il_append k xs ys).symm
    rw [e2, Array.getElem?_append_left (by simp [il_length]; omega)]
    have := il_get k (xs ++ ys) j (by simp; omega)
    simpa using this
end Go.Proofs.YtgegbpnmfpjdmaaGreatDoor
namespace Go.Proofs.YtgegbpnmfpjdmaaGreatDoor
open Go.RowKit
set_option maxRecDepth 8000 in
theorem clone_any (v : Value) (len : Nat) (zs : List Int) (w : World) (hri : RI .u8 w v len zs) (hlen : (len : Int) ≤ 200000000000000) :
    Calls Tryz.prog 110 #[v] w fun e w' => ∃ v', e = .returned v' ∧ w'.ownsRow w.heap.size 5 1 v' len (il .u8 zs) ∧ Below w.heap.size w w' := by
  have HR := Lib.hid hri
  obtain ⟨a, cap, rfl, hl, hlc, _, hnil, _⟩ := hri
  cases a with
  | none =>
    obtain rfl : cap = 0 := hnil rfl
    obtain rfl : len = 0 := by omega
    obtain rfl : zs = [] := List.length_eq_zero_iff.1 hl
    have he : (binOp .eql 43 (.slice none 0 0) (.slice none 0 0)).run Tryz.prog w = .ok (.bool true) w := Lib.run_eql_slice_nil w _ _ none 0 0 0 0 Tryz.underlying43
    clear hl hlc hnil
    go_enter Tryz.func110, Tryz.ntmps110
    go_wp2
    go_ret
    exact ⟨_, rfl, World.ownsRow_nil _ _ _ _, Below.refl _ _⟩
  | some x =>
    have he : (binOp .eql 43 (.slice (some x) len cap) (.slice none 0 0)).run Tryz.prog w = .ok (.bool false) w := Lib.run_eql_slice_nil w _ _ (some x) len cap 0 0 Tryz.underlying43
    clear hl hnil
    go_enter Tryz.func110, Tryz.ntmps110
    go_wp2_with (first
      | (at_builtin; go_loud (refine wpl_appn rfl (.tmp 5) (.tmp 6) 43 rfl 5 .u8 1 Tryz.underlying43 Tryz.info_u8 w.heap.size _ 0 [] rfl (own_empty rfl (by omega)) _ len zs rfl (HR.out.keep ((Below.refl _ _).alloc (Nat.le_refl _) _)) (by omega) (by omega) w.heap.size w ((Below.refl _ _).alloc (Nat.le_refl _) _) (Nat.le_refl _) (by simp) ?_); intro v1 w4 HO1 HB1))
    go_ret
    have h5 := HO1.out
    rw [Nat.zero_add, List.nil_append] at h5
    exact ⟨_, rfl, h5, HB1.out⟩
end Go.Proofs.YtgegbpnmfpjdmaaGreatDoor
namespace Go.Proofs.YtgegbpnmfpjdmaaGreatDoor
open Go.RowKit
abbrev fA (k e : Int) (v : Value) : Array Value := #[.int .i64 k, .int .u32 e, v]
theorem fr_info (c : Array Value) (h : c.size = 3) : (Tryz.prog.info? 143).map (·.size) = some c.size := by rw [h]; kernel_rfl
theorem fr_one (k e : Int) (a : Option Addr) (n m : Nat) : (fA k e (.slice a n m)).all (·.oneCell') = true := by simp [fA, Value.oneCell']
def FO (w : World) (b : Nat) (k e : Int) (v : Value) : Prop := w.heap[b]? = some (.cells (fA k e v) 143 (0, 0))
section
variable {w w' : World} {b b' : Nat} {k e : Int} {v : Value}
theorem FO.lt (h : FO w b k e v) : b < w.heap.size := (Array.getElem?_eq_some_iff.1 h).1
theorem FO.keep (h : FO w b k e v) (hb : Below w.heap.size w w') : FO w' b k e v := (hb.block b h.lt).trans h
theorem FO.keepB {g : Nat} (h : FO w b k e v) (hb : Below g w w') (hlt : b < g) : FO w' b k e v := (hb.block b hlt).trans h
theorem FO.load (h : FO w b k e v) : (loadVar 143 ⟨b, 0, none⟩).run Tryz.prog w = .ok (.agg (fA k e v)) w :=
  run_loadVar_row w b _ 143 (fA k e v) (0, 0) _ h Tryz.underlying143 rfl (fr_info _ rfl)
theorem FO.row (h : FO w b k e v) (k' e' : Int) (v' : Value) : FO (w.setRow b (fA k' e' v')) b k' e' v' := setRow_heap w b _ _ _ _ h
theorem FO.apart (h : FO w b k e v) (hne : b ≠ b') (x : Array Value) : FO (w.setRow b' x) b k e v := (setRow_other w b' b x hne).trans h
theorem FO.set_apart (h : FO w b k e v) (hne : b ≠ b') (j : Nat) (x : Value) : FO (w.setCell ⟨b', j, none⟩ x) b k e v := (heap_setCell_other w ⟨b', j, none⟩ b x hne).trans h
theorem FO.frozen (h : FO w b k e v) (j : Nat) : w.frozen? ⟨b, j, none⟩ = false := Joins.unfrozen_of_block h j
theorem FO.cells (h : FO w b k e v) : w.cell? ⟨b, 0, none⟩ = some (.int .i64 k) ∧ w.cell? ⟨b, 1, none⟩ = some (.int .u32 e) ∧ w.cell? ⟨b, 2, none⟩ = some v :=
  ⟨cell_of_row w b 0 _ _ _ h, cell_of_row w b 1 _ _ _ h, cell_of_row w b 2 _ _ _ h⟩
theorem FO.alloc (w : World) : FO (w.alloc (.cells (fA k e v) 143)) w.heap.size k e v := heap_alloc_last w _
theorem FO.new (x : Array Value) : FO ((w.alloc (.cells x 143)).setRow w.heap.size (fA k e v)) w.heap.size k e v := setRow_heap _ _ _ _ _ _ (heap_alloc_last w _)
theorem FO.ne_own (h : FO w b k e v) {base n : Nat} {u : Value} {xs : List Value} (ho : w.ownsRow base 5 1 u n xs) : ∀ q, u.ownBlock = some q → q ≠ b := by
  intro q hq e
  subst e
  rcases ho.2 with ⟨rfl, _⟩ | ⟨q', cap, cur, rfl, _, hcur, _⟩
  · simp [Value.ownBlock] at hq
  · simp only [Value.ownBlock, Option.some.injEq] at hq
    subst hq
    rw [h] at hcur
    simp only [Option.some.injEq, Obj.cells.injEq] at hcur
    exact absurd hcur.2.1 (by decide)
theorem FO.grown (h : FO w b k e v) {base n : Nat} {u : Value} {xs : List Value} (ho : w.ownsRow base 5 1 u n xs) (hg : w.grownBy w' u.ownBlock) : FO w' b k e v :=
  (hg.block b h.lt (fun e => h.ne_own ho b e.symm rfl)).trans h
theorem wpl_load_fr {ops : Array Oper} {rest : List Oper} {o : Oper} {a : Act} {Q : Exit → Act → World → Prop} (hw : Region.wanted o (yielded ops a.tmps) = true) (x : Operand) (ho : o.op = .load 143 x) (hx : a.eval x = .pointer (some ⟨b, 0, none⟩)) (h : FO w b k e v)
    (hk : wpList Tryz.prog ops Q rest (a.put o.dst (.agg (fA k e v))) w) : wpList Tryz.prog ops Q (o :: rest) a w := by
  unfold wpList
  rw [if_pos hw]
  exact Or.inl (wp_load_row 143 x ho b hx _ (fA k e v) (0, 0) _ h Tryz.underlying143 rfl (fr_info _ rfl) hk)
end
theorem own_fin {w : World} {base : Nat} {e : TypeId} {v : Value} {n m : Nat} {xs ys : List Int} (h : w.ownsRow base e 1 v n (il .u8 xs)) (hx : xs = ys) (hm : ys.length = m) : w.ownsRow base e 1 v m (il .u8 ys) := by
  subst hx
  have h1 := h.1
  rw [il_length] at h1
  rw [show m = n from by omega]
  exact h
end Go.Proofs.YtgegbpnmfpjdmaaGreatDoor
namespace Go.Proofs.YtgegbpnmfpjdmaaGreatDoor
open Go.RowKit
abbrev eL (e : FR × Value) : List Value := [.int .i64 e.1.kind, .int .u32 e.1.epoch, e.2]
def eF (es : List (FR × Value)) : List Value := (es.map eL).flatten
theorem eF_length (l : List (FR × Value)) : (eF l).length = l.length * 3 := by
  have := flat_length 3 (l.map eL) (fun e he => by obtain ⟨o, _, rfl⟩ := List.mem_map.1 he; rfl)
  simpa [eF] using this
theorem eF_snoc (l : List (FR × Value)) (c : FR × Value) : eF (l ++ [c]) = eF l ++ eL c := by simp [eF]
theorem fr_info' : (Tryz.prog.info? 143).map (·.size) = some 3 := by kernel_rfl
theorem fr_parts : (Tryz.prog.info? 143).map (fun i => (i.zero, i.size, i.bytes)) = some (some (.agg #[.int .i64 0, .int .u32 0, .slice none 0 0]), 3, 40) := by kernel_rfl
structure FL (base : Nat) (w : World) (v : Value) (m : Nat) (es : List (FR × Value)) : Prop where
  row : w.ownsRow base 143 3 v m (eF es)
  data : ∀ e ∈ es, w.ownsRow base 5 1 e.2 e.1.data.length (il .u8 e.1.data)
section
variable {base : Nat} {w w' : World} {v v' : Value} {m : Nat} {es : List (FR × Value)}
theorem FL.nil (base : Nat) (w : World) : FL base w (.slice none 0 0) 0 [] := ⟨World.ownsRow_nil _ _ _ _, fun e he => by simp at he⟩
theorem FL.keep (h : FL base w v m es) (hb : Below w.heap.size w w') : FL base w' v m es := ⟨own_keep h.row hb, fun e he => own_keep (h.data e he) hb⟩
theorem FL.len (h : FL base w v m es) : es.length = m := by have := h.row.1; rw [eF_length] at this; omega
theorem FL.other (h : FL base w v m es) (hg : w.grownBy w' v.ownBlock) {t : TypeId} {k n base' : Nat} {u : Value} {xs : List Value} (ho : w.ownsRow base' t k u n xs) (ht : t ≠ 143) : w'.ownsRow base' t k u n xs :=
  own_over ho hg (own_types ho h.row ht)
theorem FL.blk (h : FL base w v m es) (hg : w.grownBy w' v.ownBlock) {g : Nat} {c : Array Value} {t : TypeId} (hk : w.heap[g]? = some (.cells c t (0, 0))) (ht : t ≠ 143) : w'.heap[g]? = some (.cells c t (0, 0)) := by
  refine (hg.block g (Array.getElem?_eq_some_iff.1 hk).1 (fun e => ?_)).trans hk
  rcases h.row.2 with ⟨rfl, _⟩ | ⟨q, cap, cur, rfl, _, hcur, _⟩
  · simp [Value.ownBlock] at e
  · simp only [Value.ownBlock, Option.some.injEq] at e
    subst e
    rw [hk] at hcur
    simp only [Option.some.injEq, Obj.cells.injEq] at hcur
    exact ht hcur.2.1
theorem FL.snoc (h : FL base w v m es) (hg : w.grownBy w' v.ownBlock) (e : FR × Value) (hd : w.ownsRow base 5 1 e.2 e.1.data.length (il .u8 e.1.data)) (ho : w'.ownsRow base 143 3 v' (m + 1) (eF (es ++ [e]))) : FL base w' v' (m + 1) (es ++ [e]) :=
  ⟨ho, fun x hx => by
    rcases List.mem_append.1 hx with hx | hx
    · exact h.other hg (h.data x hx) (by decide)
    · obtain rfl : x = e := by simpa using hx
      exact h.other hg hd (by decide)⟩
theorem FL.at_ {a : Option Addr} {cap : Nat} (h : FL base w (.slice a m cap) m es) (i : Nat) (e : FR × Value) (he : es[i]? = some e) : ∃ b off, a = some ⟨b, off, none⟩ ∧ w.rangeAt b (off + i * 3) (eL e) := by
  have hi := (List.getElem?_eq_some_iff.1 he).1
  have hl := h.len
  have hcs : CS 3 w (.slice a m cap) m (eF es) := CS.own h.row
  obtain ⟨b, off, rfl, hc⟩ := CS.at_ hcs i (by omega)
  refine ⟨b, off, rfl, fun j v hv => ?_⟩
  have hj : j < 3 := (List.getElem?_eq_some_iff.1 hv).1
  have h7 := flat_get 3 (es.map eL) i j (fun e he => by obtain ⟨o, _, rfl⟩ := List.mem_map.1 he; rfl) hj (eL e) (by simp [he])
  exact ((hc j hj).trans h7).trans hv
theorem exec_load_el {a : Act} {o : Oper} {b off : Nat} {e : FR × Value} (x : Operand) (ho : o.op = .load 143 x) (hx : a.eval x = .pointer (some ⟨b, off, none⟩)) (h : w.rangeAt b off (eL e)) :
    (execOp a.eval o).run Tryz.prog w = .ok (.value (.agg (fA e.1.kind e.1.epoch e.2))) w := by
  unfold execOp
  simp only [ho, hx, Instr.loadAt, Instr.sureAddr, Sem.run_bind, Sem.run_pure, Result.andThen_ok, run_loadVar_mid w b off 143 (eL e) _ h Tryz.underlying143 rfl fr_info']
theorem wp_app_fr {o : Oper} {a : Act} {Q : Exit → Act → World → Prop} {K : Act → World → Prop} (s x : Operand)
    (ho : o.op = .call { callee := .builtin .append, args := #[s, x], argTypes := #[138, 138] })
    (hs : a.eval s = v) (hfl : FL base w v m es) (g : Nat) (e : FR × Value) (n cap : Nat) (p : Option Addr) (hv : e.2 = .slice p n cap) (hx : a.eval x = .slice (some ⟨g, 0, none⟩) 1 1) (hblk : w.heap[g]? = some (.cells (eL e).toArray 143 (0, 0)))
    (hd : w.ownsRow base 5 1 e.2 e.1.data.length (il .u8 e.1.data)) (hm : m ≤ 1000000) (hbase : base ≤ w.heap.size)
    (h : ∀ v' w', Hid (FL base w' v' (m + 1) (es ++ [e])) → Hid (w.grownBy w' v.ownBlock) → K (a.put o.dst v') w') : Oper.wp Tryz.prog o a w K Q := by
  obtain ⟨i, hi, hz0, hz1, hz2⟩ := info_parts fr_parts
  refine wp_append_own_wide w s x 138 ho base 143 i _ 3 40 Tryz.underlying138 hi hz0 hz1 hz2 rfl (by omega) v m (eF es) hs hfl.row ⟨g, 0, none⟩ 1 1 (eL e) hx (by simp) ?_ (by simp [Value.oneCell', hv]) (by unfold maxLen; omega) (by omega) hbase ?_
  · intro j u hj
    have hc : w.cell? ⟨g, j, none⟩ = some u := by rw [cell_of_row _ g j _ _ _ hblk]; simpa using hj
    by_cases h0 : j = 0
    · subst h0; simpa [Addr.add] using hc
    · simpa [Addr.add, h0] using hc
  · intro v' w' h1 h2 _
    exact h v' w' (hfl.snoc h2 e hd (by rw [eF_snoc]; exact h1)) h2
end
end Go.Proofs.YtgegbpnmfpjdmaaGreatDoor
namespace Go.Proofs.YtgegbpnmfpjdmaaGreatDoor
open Go.RowKit
def YB (w : World) (g : Nat) (zs : List Int) : Prop := w.heap[g]? = some (.cells (il .u8 zs).toArray 5 (0, 0))
theorem YB.keep {w w' : World} {g : Nat} {zs : List Int} (h : YB w g zs) (hb : Below w.heap.size w w') : YB w' g zs := by
  unfold YB at *; rw [hb.block g (Array.getElem?_eq_some_iff.1 h).1]; exact h
theorem YB.over {w w' : World} {g g2 : Nat} {zs : List Int} (h : YB w g zs) (hg : w.grownBy w' (some g2)) (hne : g ≠ g2) : YB w' g zs := by
  unfold YB at *; rw [hg.block g (Array.getElem?_eq_some_iff.1 h).1 (fun e => hne (Option.some.inj e))]; exact h
theorem YB.ri {w : World} {g n : Nat} {zs : List Int} (h : YB w g zs) (hz : zs.length = n) (hn : n ≤ 1000000) : RI .u8 w (.slice (some ⟨g, 0, none⟩) n n) n zs := by
  refine ⟨_, n, rfl, hz, Nat.le_refl _, by omega, fun h => by simp at h, fun _ => ⟨g, 0, rfl, fun j hj => ?_⟩⟩
  rw [Nat.zero_add, cell_of_row w g j _ _ _ h]
  simpa using il_get .u8 zs j (by omega)
theorem below_grown {w0 w w' : World} {B g : Nat} (h : Below B w0 w) (hg : w.grownBy w' (some g)) (hB : B ≤ g) (h0 : B ≤ w.heap.size) : Below B w0 w' :=
  h.grown hg h0 (fun q hq => by obtain rfl := Option.some.inj hq; exact hB)
theorem make_bytes_run (k : Nat) (hk : (k : Int) ≤ 1000000000) (w : World) :
    (Instr.makeSlice 43 (.int .i64 (k : Int)) (.int .i64 (k : Int))).run Tryz.prog w = .ok (.slice (some ⟨w.heap.size, 0, none⟩) k k) (w.alloc (.cells (il .u8 (List.replicate k 0)).toArray 5)) := by
  obtain ⟨i, hi, hz0, hz1, hz2⟩ := info_parts Tryz.info_u8
  have h := run_make (P := Tryz.prog) w 43 5 i _ Tryz.underlying43 hi hz0 .i64 .i64 k k (by omega) (by omega) (by rw [hz2]; omega) (by omega)
  simp only [Int.toNat_natCast, hz1, Nat.mul_one] at h
  rw [h]
  have : madeCells (Value.int .u8 0).cells k = (il .u8 (List.replicate k 0)).toArray := by
    rw [show (Value.int .u8 0).cells = #[.int .u8 0] from rfl, ← Array.toList_inj, toList_madeCells_one]
    simp [il]
  rw [this]
theorem make_row_run (k : Nat) (hk : (k : Int) ≤ 1000000000) (w : World) :
    (Instr.makeSlice 48 (.int .i64 (k : Int)) (.int .i64 (k : Int))).run Tryz.prog w = .ok (.slice (some ⟨w.heap.size, 0, none⟩) k k) (w.alloc (.cells (il .u8 (List.replicate (k * 64) 0)).toArray 60)) := by
  obtain ⟨i, hi, hz0, hz1, hz2⟩ := info_parts sec_parts
  have h := run_make (P := Tryz.prog) w 48 60 i _ Tryz.underlying48 hi hz0 .i64 .i64 k k (by omega) (by omega) (by rw [hz2]; omega) (by omega)
  simp only [Int.toNat_natCast, hz1] at h
  rw [h]
  have : madeCells (Value.agg (sv z64)).cells (k * 64) = (il .u8 (List.replicate (k * 64) 0)).toArray := by
    rw [← Array.toList_inj, made_secs]
  rw [this]
theorem setRow_at {w : World} {g : Nat} {C : Array Value} {t : TypeId} (h : w.heap[g]? = some (.cells C t (0, 0))) (C' : Array Value) : (w.setRow g C').heap[g]? = some (.cells C' t (0, 0)) := setRow_heap w g C C' _ _ h
theorem grown_row (w : World) (g : Nat) (cs : Array Value) : w.grownBy (w.setRow g cs) (some g) :=
  ⟨rfl, rfl, rfl, by simp, fun i _ hne => setRow_other w g i cs (fun e => hne (by rw [e]))⟩
theorem wpl_copy_yb {ops : Array Oper} {rest : List Oper} {o : Oper} {a : Act} {w : World} {Q : Exit → Act → World → Prop} (hgd : o.guard = none) (d s : Operand)
    (ho : o.op = .call { callee := .builtin .copy, args := #[d, s], argTypes := #[43, 43] }) (g off dLen dCap : Nat) (cur : List Int) (hblk : YB w g cur)
    (hd : a.eval d = .slice (some ⟨g, off, none⟩) dLen dCap) (v : Value) (n : Nat) (zs : List Int) (hs : a.eval s = v) (hri : RI .u8 w v n zs) (hnd : n ≤ dLen) (hfit : off + dLen ≤ cur.length)
    (h : ∀ w', Hid (YB w' g (splice cur off zs)) → Hid (w.grownBy w' (some g)) → wpList Tryz.prog ops Q rest (a.put o.dst (goInt (n : Int))) w') : wpList Tryz.prog ops Q (o :: rest) a w := by
  obtain ⟨sp, sCap, rfl, hl, _, _, _, hc⟩ := hri
  have hcl : (il .u8 zs).length = n := by rw [il_length, hl]
  have hmin : Nat.min n dLen = n := Nat.min_eq_left hnd
  by_cases h0 : n = 0
  · subst h0
    obtain rfl : zs = [] := List.eq_nil_of_length_eq_zero hl
    refine wpList_copy_nothing hgd d s 43 43 ho 5 Tryz.underlying43 u8_size1 (some ⟨g, off, none⟩) sp dLen dCap 0 sCap hd hs hmin ?_
    exact h w (Lib.hid (by simpa [splice] using hblk)) (grown_refl _ _)
  · obtain ⟨b, of2, rfl, hcell⟩ := hc (by omega)
    refine wpList_copy_own hgd d s 43 43 ho 5 Tryz.underlying43 u8_size1 g off dLen dCap ⟨b, of2, none⟩ n sCap hd hs (il .u8 cur).toArray 5 hblk (il .u8 zs) (by rw [hcl, hmin]) ?_ (by rw [hcl]; simp [il_length]; omega) (il_one _ _) ?_
    · intro j u hj
      have hjl : j < zs.length := by have := (List.getElem?_eq_some_iff.1 hj).1; rwa [il_length] at this
      rw [il_get _ _ _ hjl] at hj
      rw [Addr.add_mid, hcell j (by omega)]; exact hj
    · rw [hcl]
      refine h _ (Lib.hid ?_) (grown_row _ _ _)
      unfold YB
      rw [← il_splice]
      have := setRow_at hblk ((il .u8 cur).toArray.toList.take off ++ (il .u8 zs ++ (il .u8 cur).toArray.toList.drop (off + n))).toArray
      simpa [splice, hcl] using this
end Go.Proofs.YtgegbpnmfpjdmaaGreatDoor
namespace Go.Proofs.YtgegbpnmfpjdmaaGreatDoor
open Go.RowKit
set_option maxHeartbeats 400000 in
theorem btw_any (n m : Int) (h : I63 n) (h2 : I63 m) (w : World) : Calls Tryz.prog 131 #[.int .i64 n, .int .i64 m] w fun e w' => e = .returned (.int .i64 (clampI n m)) ∧ w = w' := by
  obtain ⟨_h, _h2⟩ := And.intro h h2
  unfold I63 at _h _h2
  go_enter Tryz.func131, Tryz.ntmps131
  go_wp2
  all_goals (go_ret; refine ⟨ret_int ?_, rfl⟩; unfold clampI; omega)
theorem btw_nat (n m : Int) (k : Nat) (h : I63 n) (h2 : I63 m) (hk : clampI n m = k) (w : World) : Calls Tryz.prog 131 #[.int .i64 n, .int .i64 m] w fun e w' => e = .returned (.int .i64 k) ∧ w = w' :=
  (btw_any n m h h2 w).mono fun _ _ ⟨he, hw⟩ => ⟨by rw [he, hk], hw⟩
def bl (l : List Int) : List Value := l.map (Value.int .u8)
theorem bl_set (l : List Int) (j : Nat) (x : Int) : (bl l).set j (.int .u8 x) = bl (l.set j x) := by simp [bl, List.map_set]
theorem bl_get (l : List Int) (j : Nat) (h : j < l.length) : (bl l)[j]? = some (.int .u8 (l.getD j 0)) := by simp [bl, List.getD, h]
theorem bl_append (a b : List Int) : bl (a ++ b) = bl a ++ bl b := by simp [bl]
set_option maxHeartbeats 800000 in
theorem put_any (n m : Int) (k : Nat) (h2 : I63 m) (hk : clampI m 8 = k) (w : World) :
    Calls Tryz.prog 115 #[.int .u64 n, .int .i64 m] w fun e w' => e = .returned (.slice (some ⟨w.heap.size, 0, none⟩) k k) ∧
      w'.ownsRow w.heap.size 5 1 (.slice (some ⟨w.heap.size, 0, none⟩) k k) k (bl (putL n k)) ∧ Below w.heap.size w w' := by
  obtain ⟨i0, hi, hz0, hz1, hz2⟩ := info_parts Tryz.info_u8
  have hk8 : k ≤ 8 := by unfold clampI at hk; omega
  have HC := Lib.hid hk; clear hk
  have hB2 : i0.bytes * k ≤ 281474976710656 := by rw [hz2]; omega
  have HI := Lib.hid hi; clear hi
  have HZ0 := Lib.hid hz0; clear hz0
  have HZ1 := Lib.hid hz1; clear hz1
  clear hz2
  go_enter Tryz.func115, Tryz.ntmps115
  go_wp2_with (first
    | (go_at_call 131; refine (btw_nat _ _ k h2 (by unfold I63; omega) HC.out _).mono ?_; rintro e w' ⟨rfl, rfl⟩)
    | (at_make; refine wpList_make_full _ rfl (.tmp 9) (.tmp 9) 43 rfl w.heap.size 5 i0 (.int .u8 0) 1 Tryz.underlying43 HI.out HZ0.out HZ1.out .i64 .i64 k k k rfl rfl rfl rfl hB2 (by unfold maxLen; omega) (Nat.le_refl _) ?_; intro w1 hown hgrow))
  have HO := Lib.hid hown; clear hown
  have HB := Lib.hid ((Below.refl w.heap.size w).grown hgrow (Nat.le_refl _) (by simp)); clear hgrow
  go_wp2
  go_loopw [12] (fun i wr => ∃ j : Nat, j ≤ k ∧ i = .int .i64 j ∧ wr.ownsRow w.heap.size 5 1 (.slice (some ⟨w.heap.size, 0, none⟩) k k) k (bl (putP n j k)) ∧ Below w.heap.size w wr) (fun i _ => k - (intOf i).toNat)
  case atStart => exact ⟨0, by omega, rfl, by have := HO.out; rw [Nat.mul_one, show (Value.int IntKind.u8 0).cells = #[.int .u8 0] from rfl, toList_madeCells_one] at this; rw [putP_zero]; simpa [bl] using this, HB.out⟩
  case round =>
    obtain ⟨j, hj, rfl, ho, hb⟩ := hrel
    by_cases hlt : j < k
    · have hcell : wr.cell? ⟨w.heap.size, j, none⟩ = some (.int .u8 ((putP n j k).getD j 0)) := by
        rw [ho.cellAt j (by omega), bl_get _ _ (by simp [putP]; omega)]
      have hfr : wr.frozen? ⟨w.heap.size, j, none⟩ = false := ho.frozenAt j
      have HO := Lib.hid ho; clear ho
      have HB := Lib.hid hb; clear hb
      go_wp2
      go_roundw
      case rel => exact ⟨j + 1, by omega, by go_num, by rw [← putP_succ, ← bl_set]; exact (HO.out.stored j _).1, HB.out.setCell (Nat.le_refl _) _⟩
      case measure => simp [intOf]; omega
    · go_wp2
      go_ret
      have e : j = k := by omega
      subst e
      exact ⟨rfl, by rw [← putP_full]; exact ho, hb⟩
theorem div_step (n : Int) (j : Nat) : n / 2 ^ (8 * j) / 256 = n / 2 ^ (8 * (j + 1)) := by
  rw [Int.ediv_ediv_of_nonneg (Int.le_of_lt (pow_pos' _)), show 8 * (j + 1) = 8 * j + 8 from by omega, Int.pow_add]; rfl
set_option maxRecDepth 20000 in
set_option maxHeartbeats 800000 in
theorem rput_any (n m : Int) (k : Nat) (h : U64 n) (h2 : I63 m) (hk : clampI m 8 = k) (w : World) :
    Calls Tryz.prog 122 #[.int .u64 n, .int .i64 m] w fun e w' => ∃ v, e = .returned v ∧
      w'.ownsRow w.heap.size 5 1 v k (bl (putL n k)) ∧ Below w.heap.size w w' := by
  unfold U64 at h
  unfold I63 at h2
  obtain ⟨i0, hi, hz0, hz1, hz2⟩ := info_parts Tryz.info_u8
  have hk1 : k ≤ 8 := by unfold clampI at hk; omega
  have hk2 : ∀ j : Nat, j < k → (j : Int) < m ∧ (j : Int) < 8 := by unfold clampI at hk; omega
  have hk3 : ∀ j : Nat, k ≤ j → m ≤ (j : Int) ∨ ((j : Int) < m ∧ 8 ≤ (j : Int)) := by unfold clampI at hk; omega
  clear hk
  have HI := Lib.hid hi; clear hi
  have HZ0 := Lib.hid hz0; clear hz0
  have HZ1 := Lib.hid hz1; clear hz1
  have HZ2 := Lib.hid hz2; clear hz2
  go_enter Tryz.func122, Tryz.ntmps122
  go_wp2
  go_loopw [0, 5, 6] (fun nn v i wr => ∃ j : Nat, j ≤ k ∧ i = .int .i64 j ∧ nn = .int .u64 (n / 2 ^ (8 * j)) ∧ wr.ownsRow w.heap.size 5 1 v j (bl (putL n j)) ∧ Below w.heap.size w wr) (fun _ _ i _ => k - (intOf i).toNat)
  case atStart => exact ⟨0, by omega, rfl, by simp, World.ownsRow_nil _ _ _ _, Below.refl _ _⟩
  case round =>
    obtain ⟨j, hj, rfl, rfl, ho, hb⟩ := hrel
    have hx : 0 ≤ n / 2 ^ (8 * j) := Int.ediv_nonneg h.1 (Int.le_of_lt (pow_pos' _))
    have hx2 : n / 2 ^ (8 * j) ≤ n := Int.ediv_le_self _ h.1
    have HO := Lib.hid ho; clear ho
    have HB := Lib.hid hb; clear hb
    by_cases hlt : j < k
    · obtain ⟨g1, g2⟩ := hk2 j hlt
      clear hk2 hk3
      go_wp2_with (first
        | (at_builtin; refine wpList_append_own _ rfl (.tmp 16) (.tmp 20) 43 rfl w.heap.size 5 i0 (.int .u8 0) 1 1 Tryz.underlying43 HI.out HZ0.out HZ1.out HZ2.out rfl (by decide) _ _ _ rfl (HO.out.alloc _) ⟨wr.heap.size, 0, none⟩ 1 1 (bl [n / 2 ^ (8 * j) % 256]) rfl rfl ?c1 ?c2 ?c3 ?c4 ?c5 ?_))
      case c1 =>
        intro i u hi
        match i, hi with
        | 0, hi => simp [bl] at hi; subst hi; simp [Addr.add]
      case c2 => intro u hu; simp [bl] at hu; subst hu; rfl
      case c3 => unfold maxLen; omega
      case c4 => omega
      case c5 => have := HB.out.size; simp; omega
      intro v' w1 hown' hgrow _
      have HO1 := Lib.hid (show w1.ownsRow w.heap.size 5 1 v' (j + 1) (bl (putL n (j + 1))) by rw [putL_succ, bl_append]; exact hown')
      have HB1 := Lib.hid ((HB.out.alloc HB.out.size _).grown hgrow (by have := HB.out.size; simp; omega) (fun q hq => (HO.out.lt q hq).1))
      clear hown' hgrow
      go_wp2
      go_roundw
      case rel => exact ⟨j + 1, by omega, by go_num, by rw [div_step], HO1.out, HB1.out⟩
      case measure => simp [intOf]; omega
    · rcases hk3 j (by omega) with g1 | ⟨g1, g2⟩
      all_goals
        clear hk2 hk3
        go_wp2
        go_ret
        have e : j = k := by omega
        subst e
        exact ⟨_, rfl, HO.out, HB.out⟩
end Go.Proofs.YtgegbpnmfpjdmaaGreatDoor
namespace Go.Proofs.YtgegbpnmfpjdmaaGreatDoor
open Go.RowKit
theorem rput_own (x : Int) (n : Nat) (hx : U64 x) (hn : n ≤ 8) (w : World) :
    Calls Tryz.prog 122 #[.int .u64 x, .int .i64 n] w fun e w' => ∃ a c, e = .returned (.slice a n c) ∧ w'.ownsRow w.heap.size 5 1 (.slice a n c) n (il .u8 (putL x n)) ∧ Below w.heap.size w w' :=
  (rput_any x n n hx (by unfold I63; omega) (by unfold clampI; omega) w).mono fun _ _ ⟨v, he, ho, hb⟩ => by
    obtain ⟨a, c, rfl⟩ := own_form ho
    exact ⟨a, c, he, ho, hb⟩
theorem u8_fit {k : Int} (h0 : 0 ≤ k) (h1 : k ≤ 255) : IntKind.u8.wrap k = k := by simp [IntKind.wrap, IntKind.signed, IntKind.bits]; omega
set_option maxRecDepth 8000 in
set_option maxHeartbeats 2000000 in
theorem rfbytes_any (k e : Int) (v : Value) (n : Nat) (d : List Int) (w : World) (hr : fragOk k n = true) (he : 0 ≤ e ∧ e ≤ 4294967295) (hri : RI .u8 w v n d) (hbd : isB d) :
    Calls Tryz.prog 103 #[.agg (fA k e v)] w fun r w' => ∃ a c, r = .returned (.slice a (11 + n) c) ∧ w'.ownsRow w.heap.size 5 1 (.slice a (11 + n) c) (11 + n) (il .u8 (fragB k e d)) ∧ Below w.heap.size w w' := by
  have hp := fok_parts hr
  have hd := hri.length
  obtain ⟨he0, he1⟩ := he
  have hwk := u8_fit (k := k) (by omega) (by omega)
  obtain ⟨o, ho⟩ : ∃ o, ofS (fragT k e d) = o := ⟨_, rfl⟩
  obtain ⟨m, hm⟩ : ∃ m, maskS o = m := ⟨_, rfl⟩
  have hm9 : m < 4294967296 := by rw [← hm]; exact maskS_lt o
  have HO := Lib.hid ho
  have HOL : Hid (o < 4294967296) := Lib.hid (by rw [← ho]; exact ofS_lt _)
  have HM := Lib.hid hm
  have HFB : Hid (putL m 4 ++ fragT k e d = fragB k e d ∧ (fragB k e d).length = 11 + n) := Lib.hid ⟨by unfold fragB fragS; rw [ho, hm], by rw [fragB_length, hd]⟩
  have HT : Hid (putL n 2 ++ [k] ++ putL e 4 ++ d = fragT k e d ∧ (fragT k e d).length = 7 + n) := Lib.hid ⟨by unfold fragT fragK; rw [hd], by rw [fragT_length, hd]⟩
  have HTB : Hid (∀ x ∈ fragT k e d, 0 ≤ x ∧ x ≤ 255) := Lib.hid (fragT_bytes (by omega) e hbd)
  have HP1 : Hid (∀ w, Calls Tryz.prog 122 #[.int .u64 n, .int .i64 2] w fun e w' => ∃ a c, e = .returned (.slice a 2 c) ∧ w'.ownsRow w.heap.size 5 1 (.slice a 2 c) 2 (il .u8 (putL n 2)) ∧ Below w.heap.size w w') := Lib.hid (rput_own n 2 (by unfold U64; omega) (by omega))
  have HP2 : Hid (∀ w, Calls Tryz.prog 122 #[.int .u64 e, .int .i64 4] w fun e' w' => ∃ a c, e' = .returned (.slice a 4 c) ∧ w'.ownsRow w.heap.size 5 1 (.slice a 4 c) 4 (il .u8 (putL e 4)) ∧ Below w.heap.size w w') := Lib.hid (rput_own e 4 (by unfold U64; omega) (by omega))
  have HP3 : Hid (∀ w, Calls Tryz.prog 122 #[.int .u64 m, .int .i64 4] w fun e' w' => ∃ a c, e' = .returned (.slice a 4 c) ∧ w'.ownsRow w.heap.size 5 1 (.slice a 4 c) 4 (il .u8 (putL m 4)) ∧ Below w.heap.size w w') := Lib.hid (rput_own m 4 (by unfold U64; omega) (by omega))
  obtain ⟨w0, hw0⟩ : ∃ q, w.alloc (.cells (fA k e v) 143) = q := ⟨_, rfl⟩
  have HA : Hid (FO w0 w.heap.size k e v) := Lib.hid (by rw [← hw0]; exact FO.alloc w)
  have HB : Hid (Below w.heap.size w w0) := Lib.hid (by rw [← hw0]; exact balloc w _)
  have HR := Lib.hid (hri.keep HB.out)
  have HN : Hid (n ≤ 197) := Lib.hid hp.2.2
  obtain ⟨a, cap, rfl⟩ : ∃ a cap, v = .slice a n cap := by obtain ⟨a, c, e, _⟩ := hri; exact ⟨a, c, e⟩
  obtain ⟨z0, z1, z2⟩ := HA.out.cells
  have hn9 : (n : Int) ≤ 197 := by omega
  have hm8 : (m : Int) ≤ 4294967295 := by omega
  clear hr hri hp hd ho hm hm9 hbd
  go_enter Tryz.func103, Tryz.ntmps103
  go_wp2_with (first
    | (go_at_call 122; (with_reducible refine (HP1.out _).mono ?_); rintro r w1 ⟨a1, c1, rfl, ho1, hb1⟩; have HO1 := Lib.hid ho1; have HB1 := Lib.hid hb1; obtain ⟨x0, x1, x2⟩ := (HA.out.keep hb1).cells; clear ho1 hb1)
    | (at_builtin; refine wpl_appn rfl (.tmp 29) (.tmp 30) 43 rfl 5 .u8 1 Tryz.underlying43 Tryz.info_u8 w5.heap.size _ 4 (putL m 4) rfl HO6 _ (7 + n) (fragT k e d) rfl ((RI.own HO5F.out).keep HB6.out) (by have := HN.out; omega) (by have := HN.out; omega) w5.heap.size w5 HB6 (Nat.le_refl _) HB6.out.size ?_; intro v7 w7 HO7 HB7)
    | (at_builtin; refine wpl_appn rfl (.tmp 21) (.tmp 23) 43 rfl 5 .u8 1 Tryz.underlying43 Tryz.info_u8 w0.heap.size _ (2 + 1 + 4) (putL n 2 ++ [k] ++ putL e 4) rfl HO4 _ n d rfl (HR.out.keep HB4.out) (by have := HN.out; omega) (by have := HN.out; omega) w0.heap.size w0 HB4 (Nat.le_refl _) HB4.out.size ?_; intro v5 w5 HO5 HB5; have HO5F := Lib.hid (own_fin HO5.out HT.out.1 HT.out.2))
    | (at_builtin; refine wpl_appn rfl (.tmp 15) (.tmp 19) 43 rfl 5 .u8 1 Tryz.underlying43 Tryz.info_u8 w0.heap.size _ (2 + 1) (putL n 2 ++ [k]) rfl HO2K _ 4 (putL e 4) rfl (RI.own HO3.out) (by omega) (by omega) w0.heap.size w0 HB3 (Nat.le_refl _) HB3.out.size ?_; intro v4 w4 HO4 HB4; obtain ⟨q0, q1, q2⟩ := (HA.out.keep HB4.out).cells)
    | (at_builtin; refine wpl_app1 rfl (.tmp 9) (.tmp 13) 43 rfl 5 .u8 1 Tryz.underlying43 Tryz.info_u8 w0.heap.size _ 2 (putL n 2) rfl (Lib.hid (HO1.out.alloc _)) ⟨w1.heap.size, 0, none⟩ k rfl (alloc_cell w1 _ _) (by omega) (by omega) w0.heap.size w0 (Lib.hid (bch HB1.out (balloc _ _))) (Nat.le_refl _) (by have := HB1.out.size; simp; omega) ?_; intro v2 w2 HO2 HB2; obtain ⟨y0, y1, y2⟩ := (HA.out.keep HB2.out).cells)
    | (go_at_call 122; (with_reducible refine (HP2.out _).mono ?_); rintro r w3 ⟨a3, c3, rfl, ho3, hb3⟩; have HO2K := Lib.hid (own_keep HO2.out hb3); have HO3 := Lib.hid ho3; have HB3 := Lib.hid (bch HB2.out hb3); clear ho3 hb3)
    | (go_at_call 124; (with_reducible refine (rof_any (RI.own HO5F.out) HTB.out HO.out).mono ?_); rintro e w' ⟨rfl, rfl⟩)
    | (go_at_call 123; (with_reducible refine (rmask_at o m HOL.out HM.out _).mono ?_); rintro e w' ⟨rfl, rfl⟩)
    | (go_at_call 122; (with_reducible refine (HP3.out _).mono ?_); rintro r w6 ⟨a6, c6, rfl, ho6, hb6⟩; have HO6 := Lib.hid ho6; have HB6 := Lib.hid hb6; clear ho6 hb6))
  go_ret
  have h7 := own_fin HO7.out HFB.out.1 HFB.out.2
  obtain ⟨a7, c7, rfl⟩ := own_form h7
  have hb5 := bch HB.out HB5.out
  exact ⟨a7, c7, rfl, own_mono h7 hb5.size, bch hb5 HB7.out⟩
end Go.Proofs.YtgegbpnmfpjdmaaGreatDoor
