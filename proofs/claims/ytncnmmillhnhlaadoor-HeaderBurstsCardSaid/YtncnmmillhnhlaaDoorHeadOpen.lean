/-
  HOW ARGUMENTS OF LAYER 18 (header) ARE OPENED: a header. No condition.
-/
import Derived.Test.YtncnmmillhnhlaaDoorOpen
import Derived.Test.YtncnmmillhnhlaaDoorHeadBlk
namespace Go.Proofs.YtncnmmillhnhlaaDoor
open Go.RowKit Go.ChangeShapes Go.WideShapes
section
variable {H : Type} {enc : TypeId × Value → H} {W : World}
theorem rdc_array_ints {P : Program} {t e : TypeId} {k : IntKind} {n : Nat} {cs : List Value} {d : DataW H} (ht : P.underlying t = some (.array n e)) (he : P.underlying e = some (.int k)) (hc : P.cellsOf e = 1) (hn : P.cellsOf t = n) (h : RdC enc P W t cs d) :
    ∃ zs : List Int, cs = il k zs ∧ zs.length = n ∧ ∀ x ∈ zs, (Lit.int k x).wf = true := by
  obtain ⟨f, p, hf⟩ := h
  obtain ⟨xs, m, _, hx, hl, hxl, hel⟩ := DataW.trod_array ht hf
  rw [hn] at hl
  have h1 : ∀ i (hi : i < cs.length), ∃ x, cs[i] = .int k x ∧ (Lit.int k x).wf = true := fun i hi => by
    have h2 := hel i (by omega)
    rw [hc, Nat.mul_one, List.take_one, List.head?_drop, List.getElem?_eq_getElem hi, List.getElem?_eq_getElem (by omega)] at h2
    obtain ⟨x, hx, _, hw⟩ := DataW.trod_int he h2
    exact ⟨x, by simpa using hx, hw⟩
  refine ⟨cs.map intOf, ?_, by simpa using hl, fun x hx => ?_⟩
  · refine List.ext_getElem (by simp [il]) fun i h2 h3 => ?_
    obtain ⟨x, hx, _⟩ := h1 i h2
    simp [il, hx, intOf]
  · obtain ⟨c, hc1, rfl⟩ := List.mem_map.1 hx
    obtain ⟨i, hi, rfl⟩ := List.getElem_of_mem hc1
    obtain ⟨y, hy, hw⟩ := h1 i hi
    rw [hy]; exact hw
theorem c_u64 : Tryd.prog.cellsOf 22 = 1 := by kernel_rfl
theorem c_int : Tryd.prog.cellsOf 3 = 1 := by kernel_rfl
theorem c_l4 : Tryd.prog.cellsOf 23 = 4 := by kernel_rfl
theorem c_hd : Tryd.prog.cellsOf 25 = 7 := by kernel_rfl
set_option maxRecDepth 8000 in
theorem rdc_hd {cs : List Value} {d : DataW H} (h : RdC enc Tryd.prog W 25 cs d) : ∃ g : Hdr, cs.toArray = hv g ∧ HdT g := by
  obtain ⟨ds, rfl, hn, hl, hf⟩ := rdc_struct Tryd.underlying25 h
  rw [c_hd] at hl
  have hn4 : ds.length = 4 := hn
  match cs, hl, ds, hn4, hf with
  | [a0, a1, a2, a3, a4, a5, a6], _, [x0, x1, x2, x3], _, hf =>
    have h0 : RdC enc Tryd.prog W 22 (([a0, a1, a2, a3, a4, a5, a6].drop 0).take (Tryd.prog.cellsOf 22)) x0 := hf 0 _ _ rfl rfl
    rw [c_u64] at h0
    have h1 : RdC enc Tryd.prog W 3 (([a0, a1, a2, a3, a4, a5, a6].drop 1).take (Tryd.prog.cellsOf 3)) x1 := hf 1 _ _ rfl rfl
    rw [c_int] at h1
    have h2 : RdC enc Tryd.prog W 3 (([a0, a1, a2, a3, a4, a5, a6].drop 2).take (Tryd.prog.cellsOf 3)) x2 := hf 2 _ _ rfl rfl
    rw [c_int] at h2
    have h3 : RdC enc Tryd.prog W 23 (([a0, a1, a2, a3, a4, a5, a6].drop 3).take (Tryd.prog.cellsOf 23)) x3 := hf 3 _ _ rfl rfl
    rw [c_l4] at h3
    obtain ⟨e, e0, _, w0⟩ := rdc_int (cs := [a0]) Tryd.underlying22 h0
    obtain ⟨s, e1, _, w1⟩ := rdc_int (cs := [a1]) Tryd.underlying3 h1
    obtain ⟨f, e2, _, w2⟩ := rdc_int (cs := [a2]) Tryd.underlying3 h2
    obtain ⟨l, e3, hl4, w3⟩ := rdc_array_ints (cs := [a3, a4, a5, a6]) Tryd.underlying23 Tryd.underlying3 c_int c_l4 h3
    simp only [List.cons.injEq, and_true] at e0 e1 e2
    subst e0; subst e1; subst e2
    exact ⟨⟨e, s, f, l⟩, by unfold hv; dsimp only; rw [← e3], ⟨u64_of w0, i63_of w1, i63_of w2, hl4, fun x hx => i63_of (w3 x hx)⟩⟩
theorem rd_hd {r : Reach} {b : Nat} {v : Value} {d : DataW H} (ho : Value.okWide Tryd.prog W r b 25 v) (h : RdC enc Tryd.prog W 25 v.cells.toList d) : ∃ g : Hdr, v = .agg (hv g) ∧ HdT g := by
  obtain ⟨cs, rfl, _⟩ := okWide_struct Tryd.underlying25 ho
  obtain ⟨g, h1, h2⟩ := rdc_hd h
  refine ⟨g, ?_, h2⟩
  rw [← h1]
  rfl
end
end Go.Proofs.YtncnmmillhnhlaaDoor
