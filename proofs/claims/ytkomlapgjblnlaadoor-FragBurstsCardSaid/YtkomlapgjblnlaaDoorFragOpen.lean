/-
  HOW ARGUMENTS OF LAYER 13 (frag) ARE OPENED: a fragment, and how many bytes a slice may have. No condition.
-/
import Derived.Test.YtkomlapgjblnlaaDoorOpen
import Derived.Test.YtkomlapgjblnlaaDoorFragBlk
namespace Go.Proofs.YtkomlapgjblnlaaDoor
open Go.RowKit Go.ChangeShapes Go.WideShapes
section
variable {H : Type} {enc : TypeId × Value → H} {W : World}
theorem c_int : Tryd.prog.cellsOf 3 = 1 := by kernel_rfl
theorem c_u32 : Tryd.prog.cellsOf 22 = 1 := by kernel_rfl
theorem c_bytes : Tryd.prog.cellsOf 23 = 1 := by kernel_rfl
theorem c_frag : Tryd.prog.cellsOf 25 = 3 := by kernel_rfl
theorem c_u8 : Tryd.prog.bytesOf 5 = 1 := by kernel_rfl
theorem rch_ints {d : DataW H} (hr : Rch Tryd.prog 23 d) {len cap : Nat} {zs : List Int} (hd : DInts .u8 len cap zs d) : cap ≤ 140737488351232 := by
  rcases hd with ⟨rfl, _⟩ | ⟨rfl, hz, hl⟩
  · omega
  · have h1 := hr (((lits .u8 (zs.take len) : List (DataW H)).length + (lits .u8 (zs.drop len) : List (DataW H)).length) * Tryd.prog.bytesOf 5) (by simp only [DataW.weights, Tryd.underlying23]; exact List.mem_cons_self ..)
    rw [c_u8] at h1
    simp only [lits, List.length_map, List.length_take, List.length_drop, hz, reachBytes, Nat.min_eq_left hl] at h1
    omega
set_option maxRecDepth 8000 in
theorem rdc_frag {cs : List Value} {d : DataW H} (h : RdC enc Tryd.prog W 25 cs d) :
    ∃ k e a n cap zs, cs = [.int .i64 k, .int .u32 e, .slice a n cap] ∧ IRow .u8 W a n cap zs ∧ (0 ≤ e ∧ e ≤ 4294967295) := by
  obtain ⟨ds, rfl, hn, hl, hf⟩ := rdc_struct Tryd.underlying25 h
  rw [c_frag] at hl
  have hn3 : ds.length = 3 := hn
  match cs, hl, ds, hn3, hf with
  | [c0, c1, c2], _, [x0, x1, x2], _, hf =>
    have h0 : RdC enc Tryd.prog W 3 (([c0, c1, c2].drop 0).take (Tryd.prog.cellsOf 3)) x0 := hf 0 _ _ rfl rfl
    rw [c_int] at h0
    have h1 : RdC enc Tryd.prog W 22 (([c0, c1, c2].drop 1).take (Tryd.prog.cellsOf 22)) x1 := hf 1 _ _ rfl rfl
    rw [c_u32] at h1
    have h2 : RdC enc Tryd.prog W 23 (([c0, c1, c2].drop 2).take (Tryd.prog.cellsOf 23)) x2 := hf 2 _ _ rfl rfl
    rw [c_bytes] at h2
    obtain ⟨k, e0, _, _⟩ := rdc_int (cs := [c0]) Tryd.underlying3 h0
    obtain ⟨e, e1, _, hw⟩ := rdc_int (cs := [c1]) Tryd.underlying22 h1
    obtain ⟨a, n, cap, zs, e2, hrow, hd⟩ := rdc_ints (cs := [c2]) Tryd.underlying23 Tryd.underlying5 (by kernel_rfl) h2
    simp only [List.cons.injEq, and_true] at e0 e1 e2
    subst e0; subst e1; subst e2
    have := u32_of hw
    exact ⟨k, e, a, n, cap, zs, rfl, hrow, by omega⟩
theorem rd_frag {r : Reach} {b : Nat} {v : Value} {d : DataW H} (ho : Value.okWide Tryd.prog W r b 25 v) (h : RdC enc Tryd.prog W 25 v.cells.toList d) :
    ∃ k e a n cap zs, v = .agg (fA k e (.slice a n cap)) ∧ IRow .u8 W a n cap zs ∧ (0 ≤ e ∧ e ≤ 4294967295) := by
  obtain ⟨cs, rfl, _⟩ := okWide_struct Tryd.underlying25 ho
  obtain ⟨k, e, a, n, cap, zs, h1, h2, h3⟩ := rdc_frag h
  refine ⟨k, e, a, n, cap, zs, ?_, h2, h3⟩
  have h4 : cs.toList = [.int .i64 k, .int .u32 e, .slice a n cap] := h1
  obtain ⟨l'⟩ := cs
  simp only at h4
  subst h4
  rfl
end
end Go.Proofs.YtkomlapgjblnlaaDoor
