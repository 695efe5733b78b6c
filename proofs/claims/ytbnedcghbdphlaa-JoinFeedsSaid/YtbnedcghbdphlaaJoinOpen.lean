/-
  HOW ARGUMENTS OF LAYER 15 (join) ARE OPENED: lists of fragments. No condition.
-/
import Derived.Test.YtbnedcghbdphlaaFragOpen
import Derived.Test.YtbnedcghbdphlaaPick
import Derived.Test.YtbnedcghbdphlaaJoinList
import Derived.Test.YtbnedcghbdphlaaIsB
namespace Go.Proofs.Ytbnedcghbdphlaa
open Go.RowKit Go.ChangeShapes Go.WideShapes
section
variable {H : Type} {enc : TypeId × Value → H} {W : World}
set_option maxRecDepth 8000 in
theorem rdc_el {cs : List Value} {d : DataW H} (h : RdC enc Try.prog W 34 cs d) (hr : Rch Try.prog 34 d) :
    ∃ e : FR × Value, cs = eL e ∧ RI .u8 W e.2 e.1.data.length e.1.data ∧ (e.1.data.length : Int) ≤ 140737488351232 ∧ isB e.1.data := by
  obtain ⟨ds, rfl, hn, hl, hf⟩ := rdc_struct Try.underlying34 h
  rw [c_frag] at hl
  have hn3 : ds.length = 3 := hn
  match cs, hl, ds, hn3, hf, hr with
  | [c0, c1, c2], _, [x0, x1, x2], _, hf, hr =>
    have h0 : RdC enc Try.prog W 3 (([c0, c1, c2].drop 0).take (Try.prog.cellsOf 3)) x0 := hf 0 _ _ rfl rfl
    rw [c_int] at h0
    have h1 : RdC enc Try.prog W 32 (([c0, c1, c2].drop 1).take (Try.prog.cellsOf 32)) x1 := hf 1 _ _ rfl rfl
    rw [c_u32] at h1
    have h2 : RdC enc Try.prog W 26 (([c0, c1, c2].drop 2).take (Try.prog.cellsOf 26)) x2 := hf 2 _ _ rfl rfl
    rw [c_bytes] at h2
    have q2 : Rch Try.prog 26 x2 := Rch.field (i := 2) Try.underlying34 hr rfl rfl
    obtain ⟨k, e0, _, _⟩ := rdc_int (cs := [c0]) Try.underlying3 h0
    obtain ⟨e, e1, _, _⟩ := rdc_int (cs := [c1]) Try.underlying32 h1
    obtain ⟨a, n, cap, zs, e2, hrow, hd⟩ := rdc_ints (cs := [c2]) Try.underlying26 Try.underlying5 (by kernel_rfl) h2
    simp only [List.cons.injEq, and_true] at e0 e1 e2
    subst e0; subst e1; subst e2
    have h3 := rch_ints q2 hd
    have h4 := hrow.le
    have h5 := hrow.ri
    have h6 := h5.length
    refine ⟨(⟨k, e, zs.take n⟩, .slice a n cap), rfl, ?_, ?_, hrow.bytes.mem⟩
    · show RI .u8 W _ (zs.take n).length _
      rw [h6]; exact h5
    · show (((zs.take n).length : Nat) : Int) ≤ _
      rw [h6]; omega
set_option maxRecDepth 8000 in
theorem rd_frags {r : Reach} {b : Nat} {v : Value} {d : DataW H} (ho : Value.okWide Try.prog W r b 22 v) (h : RdC enc Try.prog W 22 v.cells.toList d) (hr : Rch Try.prog 22 d) :
    ∃ n es, IF W v n es ∧ (∀ e ∈ es, (e.1.data.length : Int) ≤ 140737488351232) ∧ ∀ e ∈ es, isB e.1.data := by
  obtain ⟨a, len, cap, rfl⟩ := okWide_slice Try.underlying22 ho
  obtain ⟨v, n, es, ds, e1, hcs, hn, hd, h9, hel, hx⟩ := rdc_slice Try.underlying22 c_frag (by omega) h
  simp [Value.cells] at e1
  subst e1
  obtain ⟨l, hl, hR⟩ := pick (R := fun cs (e : FR × Value) => cs = eL e ∧ RI .u8 W e.2 e.1.data.length e.1.data ∧ (e.1.data.length : Int) ≤ 140737488351232 ∧ isB e.1.data) es fun e he => by
    obtain ⟨i, hi, rfl⟩ := List.getElem_of_mem he
    have hi2 : i < ds.length := by omega
    refine rdc_el (hel i _ _ (List.getElem?_eq_getElem hi) (List.getElem?_eq_getElem hi2)) ?_
    rcases hx with h0 | ⟨rest, rfl⟩
    · omega
    · exact hr.elem Try.underlying22 (List.getElem_mem hi2)
  have hes : es = l.map eL := by
    refine List.ext_getElem? fun i => ?_
    by_cases hi : i < es.length
    · rw [List.getElem?_map, List.getElem?_eq_getElem hi, List.getElem?_eq_getElem (by omega : i < l.length)]
      exact congrArg some (hR i _ _ (List.getElem?_eq_getElem hi) (List.getElem?_eq_getElem (by omega))).1
    · rw [List.getElem?_map, List.getElem?_eq_none (by omega), List.getElem?_eq_none (by omega)]; rfl
  have hall : ∀ e ∈ l, RI .u8 W e.2 e.1.data.length e.1.data ∧ (e.1.data.length : Int) ≤ 140737488351232 ∧ isB e.1.data := fun e he => by
    obtain ⟨i, hi, rfl⟩ := List.getElem_of_mem he
    exact (hR i es[i] _ (List.getElem?_eq_getElem (by omega)) (List.getElem?_eq_getElem hi)).2
  exact ⟨n, l, ⟨by unfold eF; rw [← hes]; exact hcs, fun e he => (hall e he).1⟩, fun e he => (hall e he).2.1, fun e he => (hall e he).2.2⟩
end
end Go.Proofs.Ytbnedcghbdphlaa
