/-
  CUTS OF SLICES OF BYTES, with two and with three indices, and an append to a slice that is full. Nothing here speaks of the program's functions. No condition.
-/
import Derived.Test.YthickhfbllddjaaDoorInfo
import Derived.Laws.Slices
import Derived.Deep.WholeRow
import Derived.Lib.SmallJoins
namespace Go.Proofs.YthickhfbllddjaaDoor
open Go.RowKit
/-- a part of a slice -/
theorem RI.cut {k : IntKind} {w : World} {a : Option Addr} {len cap : Nat} {zs : List Int} (h : RI k w (.slice a len cap) len zs) (l n m : Nat) (hl : l + n ≤ len) (hm : l + n ≤ m) (hm2 : m ≤ cap) :
    RI k w (sliced a l (l + n) m 1) n ((zs.drop l).take n) := by
  obtain ⟨a', cap', e, h1, h2, h3, h4, hc⟩ := h
  simp only [Value.slice.injEq, true_and] at e
  obtain ⟨rfl, rfl⟩ := e
  have hz : ((zs.drop l).take n).length = n := by simp; omega
  unfold sliced
  rw [show l + n - l = n from by omega]
  by_cases h0 : m = l
  · rw [if_pos h0]
    exact ⟨a, m - l, rfl, hz, by omega, by omega, fun e => by have := h4 e; omega, fun h => absurd h (by omega)⟩
  · rw [if_neg h0]
    cases a with
    | none => have := h4 rfl; omega
    | some x =>
      refine ⟨some (x.add (l * 1)), m - l, rfl, hz, by omega, by omega, fun h => by simp at h, fun hp => ?_⟩
      obtain ⟨b, off, hx, hcell⟩ := hc (by omega)
      obtain rfl := Option.some.inj hx
      refine ⟨b, off + l, by simp [Addr.add], fun j hj => ?_⟩
      rw [Nat.add_assoc, hcell (l + j) (by omega)]
      simp only [List.getD, List.getElem?_take, hj, if_true, List.getElem?_drop]
section
variable {w : World} {o : Oper} {a : Act}
set_option maxRecDepth 20000 in
theorem u8_cell1 : (sizeOf (Tryd.prog.elem 38)).run Tryd.prog w = .ok 1 w := by
  have he : Tryd.prog.elem 38 = 5 := rfl
  obtain ⟨i, hi, _, hz1, _⟩ := info_parts Tryd.info_u8
  simp [sizeOf, typeInfo, he, hi, hz1]
set_option maxRecDepth 20000 in
theorem und_bytes : Tryd.prog.underlying 38 = some (.slice (Tryd.prog.elem 38)) := by rw [Tryd.underlying38]; rfl
/-- x[l:h] -/
theorem exec_cut_lh (x lo hi : Operand) (ho : o.op = .slice 38 x (some lo) (some hi) none) (p : Option Addr) (len cap l n : Nat) (hx : a.eval x = .slice p len cap) (hlo : a.eval lo = .int .i64 (l : Int)) (hhi : a.eval hi = .int .i64 ((l + n : Nat) : Int)) (hc : l + n ≤ cap) :
    (execOp a.eval o).run Tryd.prog w = .ok (.value (sliced p l (l + n) cap 1)) w := by
  have h1 := run_slice_lh (P := Tryd.prog) w 38 p len cap und_bytes .i64 .i64 (l : Int) ((l + n : Nat) : Int) (by omega) (by omega) (by omega)
  rw [u8_cell1] at h1
  simp only [Result.andThen_ok, Int.toNat_natCast] at h1
  simp only [Int.natCast_add] at h1
  simp [execOp, ho, hx, hlo, hhi, run_sliceAt_slice _ _ _ _ _ _ und_bytes, h1, Result.andThen]
/-- x[:h] -/
theorem exec_cut_h (x hi : Operand) (ho : o.op = .slice 38 x none (some hi) none) (p : Option Addr) (len cap n : Nat) (hx : a.eval x = .slice p len cap) (hhi : a.eval hi = .int .i64 (n : Int)) (hc : n ≤ cap) :
    (execOp a.eval o).run Tryd.prog w = .ok (.value (sliced p 0 n cap 1)) w := by
  have h1 := run_slice_h (P := Tryd.prog) w 38 p len cap und_bytes .i64 (n : Int) (by omega) (by omega)
  rw [u8_cell1] at h1
  simp only [Result.andThen_ok, Int.toNat_natCast] at h1
  simp [execOp, ho, hx, hhi, run_sliceAt_slice _ _ _ _ _ _ und_bytes, h1, Result.andThen]
/-- x[l:h:m] -/
theorem exec_cut_lhm (x lo hi mx : Operand) (ho : o.op = .slice 38 x (some lo) (some hi) (some mx)) (p : Option Addr) (len cap l n m : Nat) (hx : a.eval x = .slice p len cap) (hlo : a.eval lo = .int .i64 (l : Int)) (hhi : a.eval hi = .int .i64 ((l + n : Nat) : Int)) (hmx : a.eval mx = .int .i64 (m : Int)) (hm : l + n ≤ m) (hc : m ≤ cap) :
    (execOp a.eval o).run Tryd.prog w = .ok (.value (sliced p l (l + n) m 1)) w := by
  have h1 := run_slice_lhm (P := Tryd.prog) w 38 p len cap und_bytes .i64 .i64 .i64 (l : Int) ((l + n : Nat) : Int) (m : Int) (by omega) (by omega) (by omega) (by omega)
  rw [u8_cell1] at h1
  simp only [Result.andThen_ok, Int.toNat_natCast] at h1
  simp only [Int.natCast_add] at h1
  simp [execOp, ho, hx, hlo, hhi, hmx, run_sliceAt_slice _ _ _ _ _ _ und_bytes, h1, Result.andThen]
theorem sliced_form (p : Option Addr) (l n m s : Nat) : ∃ q c, sliced p l (l + n) m s = .slice q n c := ⟨_, _, by unfold sliced; rw [show l + n - l = n from by omega]⟩
section
variable {ops : Array Oper} {rest : List Oper} {Q : Exit → Act → World → Prop}
theorem wpl_val (hw : o.guard = none) {v : Value} (he : (execOp a.eval o).run Tryd.prog w = .ok (.value v) w) (h : wpList Tryd.prog ops Q rest (a.put o.dst v) w) : wpList Tryd.prog ops Q (o :: rest) a w := by
  refine wpList_plain hw fun K hK => ?_
  unfold Oper.wp
  rw [he]
  simp only [Oper.upon]
  exact hK _ _ h
theorem wpl_cut_lh (hg : o.guard = none) (x lo hi : Operand) (ho : o.op = .slice 38 x (some lo) (some hi) none) (v : Value) (len l n : Nat) (zs : List Int) (hx : a.eval x = v) (hlo : a.eval lo = .int .i64 (l : Int)) (hhi : a.eval hi = .int .i64 ((l + n : Nat) : Int)) (hr : RI .u8 w v len zs) (hl : l + n ≤ len)
    (h : ∀ p c, RI .u8 w (.slice p n c) n ((zs.drop l).take n) → wpList Tryd.prog ops Q rest (a.put o.dst (.slice p n c)) w) : wpList Tryd.prog ops Q (o :: rest) a w := by
  obtain ⟨p, cap, rfl, _, hc, _⟩ := id hr
  obtain ⟨q, c, e⟩ := sliced_form p l n cap 1
  have he := exec_cut_lh (w := w) x lo hi ho p len cap l n hx hlo hhi (by omega)
  have hR := hr.cut l n cap hl (by omega) (Nat.le_refl _)
  rw [e] at he hR
  exact wpl_val hg he (h q c hR)
theorem wpl_cut_lhm (hg : o.guard = none) (x lo hi mx : Operand) (ho : o.op = .slice 38 x (some lo) (some hi) (some mx)) (v : Value) (len l n m : Nat) (zs : List Int) (hx : a.eval x = v) (hlo : a.eval lo = .int .i64 (l : Int)) (hhi : a.eval hi = .int .i64 ((l + n : Nat) : Int)) (hmx : a.eval mx = .int .i64 (m : Int)) (hr : RI .u8 w v len zs) (hl : l + n ≤ len) (hm : l + n ≤ m) (hm2 : m ≤ len)
    (h : ∀ p c, RI .u8 w (.slice p n c) n ((zs.drop l).take n) → wpList Tryd.prog ops Q rest (a.put o.dst (.slice p n c)) w) : wpList Tryd.prog ops Q (o :: rest) a w := by
  obtain ⟨p, cap, rfl, _, hc, _⟩ := id hr
  obtain ⟨q, c, e⟩ := sliced_form p l n m 1
  have he := exec_cut_lhm (w := w) x lo hi mx ho p len cap l n m hx hlo hhi hmx hm (by omega)
  have hR := hr.cut l n m hl hm (by omega)
  rw [e] at he hR
  exact wpl_val hg he (h q c hR)
end
end
/-- append to a slice without room: nothing that was there is changed -/
theorem wp_app_full {P : Program} {w : World} {o : Oper} {a : Act} {K : Act → World → Prop} {Q : Exit → Act → World → Prop} (s x : Operand) (t : TypeId) (ho : o.op = .call { callee := .builtin .append, args := #[s, x], argTypes := #[t, t] })
    (e : TypeId) (k : IntKind) (bytes : Nat) (ht : P.underlying t = some (.slice e)) (hinfo : (P.info? e).map (fun i => (i.zero, i.size, i.bytes)) = some (some (.int k 0), 1, bytes))
    (g off n : Nat) (xs : List Int) (hs : a.eval s = .slice (some ⟨g, off, none⟩) n n) (hown : RI k w (.slice (some ⟨g, off, none⟩) n n) n xs)
    (v2 : Value) (m : Nat) (ys : List Int) (hx : a.eval x = v2) (hri : RI k w v2 m ys) (h0 : 0 < n) (hbytes : ((n + m) + (n + m) / 4 + 192) * bytes ≤ 281474976710656) (h63 : n + m ≤ 9223372036854775807)
    (h : ∀ p c w', RI k w' (.slice p (n + m) c) (n + m) (xs ++ ys) → Below w.heap.size w w' → K (a.put o.dst (.slice p (n + m) c)) w') : o.wp P a w K Q := by
  obtain ⟨i, hi, hz0, hz1, hz2⟩ := info_parts hinfo
  obtain ⟨ad, cap, rfl, hl, hlc, _, hnil, hc⟩ := hri
  have hxl := hown.length
  obtain ⟨b, of2, e1, hcell⟩ := hown.at_ h0
  obtain ⟨rfl, rfl⟩ : g = b ∧ off = of2 := by simpa using e1
  by_cases hm : m = 0
  · subst hm
    obtain rfl : ys = [] := List.length_eq_zero_iff.1 hl
    have hrun : (Builtin.append_ #[t, t] o.type #[.slice (some ⟨g, off, none⟩) n n, .slice ad 0 cap]).run P w = .ok (.slice (some ⟨g, off, none⟩) n n) w := by
      cases ad <;> simp [Builtin.append_, run_underlying ht, sizeOf, typeInfo, hi, Builtin.lenOf, Builtin.firstCells, loadCells, loadCellsFrom, storeCells]
    unfold Oper.wp
    simp [execOp, ho, resolve, invoke, builtin, hs, hx, hrun, Result.andThen]
    exact h (some ⟨g, off, none⟩) n w (by rw [List.append_nil]; exact hown) (Below.refl _ _)
  · obtain ⟨b2, of3, rfl, hcell2⟩ := hc (by omega)
    have holds : ∀ j u, (il k xs)[j]? = some u → w.cell? ((⟨g, off, none⟩ : Addr).add j) = some u := by
      intro j u hj
      have hjl : j < xs.length := by have := (List.getElem?_eq_some_iff.1 hj).1; rwa [il_length] at this
      rw [il_get _ _ _ hjl] at hj
      have hadd : (⟨g, off, none⟩ : Addr).add j = ⟨g, off + j, none⟩ := by unfold Addr.add; split <;> simp_all
      rw [hadd, hcell j (by omega)]; exact hj
    have hnews : ∀ j u, (il k ys)[j]? = some u → w.cell? ((⟨b2, of3, none⟩ : Addr).add j) = some u := by
      intro j u hj
      have hjl : j < ys.length := by have := (List.getElem?_eq_some_iff.1 hj).1; rwa [il_length] at this
      rw [il_get _ _ _ hjl] at hj
      have hadd : (⟨b2, of3, none⟩ : Addr).add j = ⟨b2, of3 + j, none⟩ := by unfold Addr.add; split <;> simp_all
      rw [hadd, hcell2 j (by omega)]; exact hj
    have hrun := run_append_grow (P := P) w t o.type e i (.int k 0) ht hi hz0 ⟨g, off, none⟩ n n (il k xs) (by rw [il_length, hz1]; omega) holds ⟨b2, of3, none⟩ m cap (il k ys) (by rw [il_length, hz1]; omega) hnews (by omega) (by omega) (growslice_fits_wide (by omega) (by rw [hz2]; exact hbytes))
    unfold Oper.wp
    simp [execOp, ho, resolve, invoke, builtin, hs, hx, hrun, Result.andThen]
    have hge := grownCap_ge w (n + m) n e
    have hle := grownCap_le_maxLen w (n + m) n e (by unfold maxLen; omega)
    refine h _ _ _ ⟨_, _, rfl, by simp; omega, hge, by unfold maxLen at hle; omega, fun h => by simp at h, fun _ => ⟨w.heap.size, 0, rfl, fun j hj => ?_⟩⟩ ((Below.refl _ w).drew.alloc (Nat.le_refl _) _)
    rw [Nat.zero_add]
    refine (cell_of_row _ w.heap.size j _ e _ (heap_alloc_last w.drew _)).trans ?_
    have e2 : il k xs ++ il k ys = il k (xs ++ ys) := (il_append k xs ys).symm
    rw [e2, Array.getElem?_append_left (by simp [il_length]; omega)]
    have := il_get k (xs ++ ys) j (by simp; omega)
    simpa using this
end Go.Proofs.YthickhfbllddjaaDoor
