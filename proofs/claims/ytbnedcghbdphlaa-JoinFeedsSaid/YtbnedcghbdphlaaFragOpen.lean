/-
  HOW ARGUMENTS OF LAYER 13 (frag) ARE OPENED: a fragment, and how many bytes a slice may have. No condition.
-/
import Derived.Test.YtbnedcghbdphlaaOpen
import Derived.Test.YtbnedcghbdphlaaFragBlk
namespace Go.Proofs.Ytbnedcghbdphlaa
open Go.RowKit Go.ChangeShapes Go.WideShapes
section
variable {H : Type} {enc : TypeId × Value → H} {W : World}
theorem c_int : Try.prog.cellsOf 3 = 1 := by kernel_rfl
theorem c_u32 : Try.prog.cellsOf 32 = 1 := by kernel_rfl
theorem c_bytes : Try.prog.cellsOf 26 = 1 := by kernel_rfl
theorem c_frag : Try.prog.cellsOf 34 = 3 := by kernel_rfl
theorem c_u8 : Try.prog.bytesOf 5 = 1 := by kernel_rfl
theorem rch_ints {d : DataW H} (hr : Rch Try.prog 26 d) {len cap : Nat} {zs : List Int} (hd : DInts .u8 len cap zs d) : cap ≤ 140737488351232 := by
  rcases hd with ⟨rfl, _⟩ | ⟨rfl, hz, hl⟩
  · omega
  · have h1 := hr (((lits .u8 (zs.take len) : List (DataW H)).length + (lits .u8 (zs.drop len) : List (DataW H)).length) * Try.prog.bytesOf 5) (by simp only [DataW.weights, Try.underlying26]; exact List.mem_cons_self ..)
    rw [c_u8] at h1
    simp only [lits, List.length_map, List.length_take, List.length_drop, hz, reachBytes, Nat.min_eq_left hl] at h1
    omega
set_option maxRecDepth 8000 in
theorem rdc_frag {cs : List Value} {d : DataW H} (h : RdC enc Try.prog W 34 cs d) :
    ∃ k e a n cap zs, cs = [.int .i64 k, .int .u32 e, .slice a n cap] ∧ IRow .u8 W a n cap zs ∧ (0 ≤ e ∧ e ≤ 4294967295) := by
  obtain ⟨ds, rfl, hn, hl, hf⟩ := rdc_struct Try.underlying34 h
  rw [c_frag] at hl
  have hn3 : ds.length = 3 := hn
  match cs, hl, ds, hn3, hf with
  | [c0, c1, c2], _, [x0, x1, x2], _, hf =>
    have h0 : RdC enc Try.prog W 3 (([c0, c1, c2].drop 0).take (Try.prog.cellsOf 3)) x0 := hf 0 _ _ rfl rfl
    rw [c_int] at h0
    have h1 : RdC enc Try.prog W 32 (([c0, c1, c2].drop 1).take (Try.prog.cellsOf 32)) x1 := hf 1 _ _ rfl rfl
    rw [c_u32] at h1
    have h2 : RdC enc Try.prog W 26 (([c0, c1, c2].drop 2).take (Try.prog.cellsOf 26)) x2 := hf 2 _ _ rfl rfl
    rw [c_bytes] at h2
    obtain ⟨k, e0, _, _⟩ := rdc_int (cs := [c0]) Try.underlying3 h0
    obtain ⟨e, e1, _, hw⟩ := rdc_int (cs := [c1]) Try.underlying32 h1
    obtain ⟨a, n, cap, zs, e2, hrow, hd⟩ := rdc_ints (cs := [c2]) Try.underlying26 Try.underlying5 (by kernel_rfl) h2
    simp only [List.cons.injEq, and_true] at e0 e1 e2
    subst e0; subst e1; subst e2
    have := u32_of hw
    exact ⟨k, e, a, n, cap, zs, rfl, hrow, by omega⟩
theorem rd_frag {r : Reach} {b : Nat} {v : Value} {d : DataW H} (ho : Value.okWide Try.prog W r b 34 v) (h : RdC enc Try.prog W 34 v.cells.toList d) :
    ∃ k e a n cap zs, v = .agg (fA k e (.slice a n cap)) ∧ IRow .u8 W a n cap zs ∧ (0 ≤ e ∧ e ≤ 4294967295) := by
  obtain ⟨cs, rfl, _⟩ := okWide_struct Try.underlying34 ho
  obtain ⟨k, e, a, n, cap, zs, h1, h2, h3⟩ := rdc_frag h
  refine ⟨k, e, a, n, cap, zs, ?_, h2, h3⟩
  have h4 : cs.toList = [.int .i64 k, .int .u32 e, .slice a n cap] := h1
  obtain ⟨l'⟩ := cs
  simp only at h4
  subst h4
  rfl
end
end Go.Proofs.Ytbnedcghbdphlaa
