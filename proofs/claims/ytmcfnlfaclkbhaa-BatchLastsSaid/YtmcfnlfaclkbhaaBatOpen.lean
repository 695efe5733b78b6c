/-
  HOW LISTS OF OPERATIONS ARE OPENED, with what bounds their keys. No condition.
-/
import Derived.Test.YtmcfnlfaclkbhaaOpOpen
namespace Go.Proofs.Ytmcfnlfaclkbhaa
open Go.RowKit Go.ChangeShapes Go.WideShapes
section
variable {H : Type} {enc : TypeId × Value → H} {W : World}
set_option maxRecDepth 8000 in
theorem rdc_op_key {cs : List Value} {d : DataW H} (h : RdC enc Try.prog W 36 cs d) : ∃ o : AO, cs = oL o ∧ o.key.size ≤ maxLen := by
  obtain ⟨ds, rfl, hn, hl, hf⟩ := rdc_struct Try.underlying36 h
  rw [c_op] at hl
  have hn3 : ds.length = 3 := hn
  match cs, hl, ds, hn3, hf with
  | [c0, c1, c2], _, [x0, x1, x2], _, hf =>
    have h0 : RdC enc Try.prog W 3 (([c0, c1, c2].drop 0).take (Try.prog.cellsOf 3)) x0 := hf 0 _ _ rfl rfl
    rw [c_int] at h0
    have h1 : RdC enc Try.prog W 9 (([c0, c1, c2].drop 1).take (Try.prog.cellsOf 9)) x1 := hf 1 _ _ rfl rfl
    rw [c_string] at h1
    have h2 : RdC enc Try.prog W 9 (([c0, c1, c2].drop 2).take (Try.prog.cellsOf 9)) x2 := hf 2 _ _ rfl rfl
    rw [c_string] at h2
    obtain ⟨k, e0, _, _⟩ := rdc_int (cs := [c0]) Try.underlying3 h0
    obtain ⟨s, e1, _, hs⟩ := rdc_string (cs := [c1]) Try.underlying9 h1
    obtain ⟨t, e2, _, _⟩ := rdc_string (cs := [c2]) Try.underlying9 h2
    simp only [List.cons.injEq, and_true] at e0 e1 e2
    subst e0; subst e1; subst e2
    exact ⟨⟨k, s, t⟩, rfl, hs⟩
set_option maxRecDepth 8000 in
theorem rd_ops_key {r : Reach} {b : Nat} {v : Value} {d : DataW H} (ho : Value.okWide Try.prog W r b 22 v) (h : RdC enc Try.prog W 22 v.cells.toList d) : ∃ l : List AO, OS W v l ∧ ∀ o ∈ l, o.key.size ≤ maxLen := by
  obtain ⟨a, len, cap, rfl⟩ := okWide_slice Try.underlying22 ho
  obtain ⟨v, n, es, ds, e1, hcs, hn, hd, h9, hel, hx⟩ := rdc_slice Try.underlying22 c_op (by omega) h
  simp [Value.cells] at e1
  subst e1
  obtain ⟨l, hl, hR⟩ := pick (R := fun e (o : AO) => e = oL o ∧ o.key.size ≤ maxLen) es fun e he => by
    obtain ⟨i, hi, rfl⟩ := List.getElem_of_mem he
    have hi2 : i < ds.length := by omega
    exact rdc_op_key (hel i _ _ (List.getElem?_eq_getElem hi) (List.getElem?_eq_getElem hi2))
  have he : es = l.map oL := List.ext_getElem (by simp [hl]) fun i h1 h2 => by
    rw [List.getElem_map]
    exact (hR i es[i] _ (List.getElem?_eq_getElem h1) (List.getElem?_eq_getElem (by omega))).1
  refine ⟨l, ?_, fun o ho => ?_⟩
  · subst he
    unfold OS oF
    rw [hl, hn]
    exact hcs
  · obtain ⟨i, hi, rfl⟩ := List.getElem_of_mem ho
    exact (hR i (es[i]'(by omega)) _ (List.getElem?_eq_getElem (by omega)) (List.getElem?_eq_getElem hi)).2
end
end Go.Proofs.Ytmcfnlfaclkbhaa
