/-
  HOW ARGUMENTS OF LAYER 11 (record) ARE OPENED: a record. No condition.
-/
import Derived.Test.YtnnkaddgbcdehaaOpen
import Derived.Test.YtnnkaddgbcdehaaRecRef
namespace Go.Proofs.Ytnnkaddgbcdehaa
open Go.RowKit Go.ChangeShapes Go.WideShapes
section
variable {H : Type} {enc : TypeId × Value → H} {W : World}
theorem c_int : Try.prog.cellsOf 3 = 1 := by kernel_rfl
theorem c_bytes : Try.prog.cellsOf 22 = 1 := by kernel_rfl
theorem c_rec : Try.prog.cellsOf 24 = 5 := by kernel_rfl
theorem c_u8 : Try.prog.bytesOf 5 = 1 := by kernel_rfl
theorem rch_ints {d : DataW H} (hr : Rch Try.prog 22 d) {len cap : Nat} {zs : List Int} (hd : DInts .u8 len cap zs d) : cap ≤ 140737488351232 := by
  rcases hd with ⟨rfl, _⟩ | ⟨rfl, hz, hl⟩
  · omega
  · have h1 := hr (((lits .u8 (zs.take len) : List (DataW H)).length + (lits .u8 (zs.drop len) : List (DataW H)).length) * Try.prog.bytesOf 5) (by simp only [DataW.weights, Try.underlying22]; exact List.mem_cons_self ..)
    rw [c_u8] at h1
    simp only [lits, List.length_map, List.length_take, List.length_drop, hz, reachBytes, Nat.min_eq_left hl] at h1
    omega
set_option maxRecDepth 8000 in
theorem rdc_rec {cs : List Value} {d : DataW H} (h : RdC enc Try.prog W 24 cs d) (hr : Rch Try.prog 24 d) :
    ∃ k c l p a n cap zs, cs = [.int .i64 k, .int .i64 c, .int .i64 l, .int .i64 p, .slice a n cap] ∧ IRow .u8 W a n cap zs ∧ cap ≤ 140737488351232 := by
  obtain ⟨ds, rfl, hn, hl, hf⟩ := rdc_struct Try.underlying24 h
  rw [c_rec] at hl
  have hn5 : ds.length = 5 := hn
  match cs, hl, ds, hn5, hf, hr with
  | [c0, c1, c2, c3, c4], _, [x0, x1, x2, x3, x4], _, hf, hr =>
    have h0 : RdC enc Try.prog W 3 (([c0, c1, c2, c3, c4].drop 0).take (Try.prog.cellsOf 3)) x0 := hf 0 _ _ rfl rfl
    rw [c_int] at h0
    have h1 : RdC enc Try.prog W 3 (([c0, c1, c2, c3, c4].drop 1).take (Try.prog.cellsOf 3)) x1 := hf 1 _ _ rfl rfl
    rw [c_int] at h1
    have h2 : RdC enc Try.prog W 3 (([c0, c1, c2, c3, c4].drop 2).take (Try.prog.cellsOf 3)) x2 := hf 2 _ _ rfl rfl
    rw [c_int] at h2
    have h3 : RdC enc Try.prog W 3 (([c0, c1, c2, c3, c4].drop 3).take (Try.prog.cellsOf 3)) x3 := hf 3 _ _ rfl rfl
    rw [c_int] at h3
    have h4 : RdC enc Try.prog W 22 (([c0, c1, c2, c3, c4].drop 4).take (Try.prog.cellsOf 22)) x4 := hf 4 _ _ rfl rfl
    rw [c_bytes] at h4
    obtain ⟨k, e0, _, _⟩ := rdc_int (cs := [c0]) Try.underlying3 h0
    obtain ⟨c, e1, _, _⟩ := rdc_int (cs := [c1]) Try.underlying3 h1
    obtain ⟨l, e2, _, _⟩ := rdc_int (cs := [c2]) Try.underlying3 h2
    obtain ⟨p, e3, _, _⟩ := rdc_int (cs := [c3]) Try.underlying3 h3
    obtain ⟨a, n, cap, zs, e4, hrow, hd⟩ := rdc_ints (cs := [c4]) Try.underlying22 Try.underlying5 (by kernel_rfl) h4
    have q4 : Rch Try.prog 22 x4 := Rch.field (i := 4) Try.underlying24 hr rfl rfl
    simp only [List.cons.injEq, and_true] at e0 e1 e2 e3 e4
    subst e0; subst e1; subst e2; subst e3; subst e4
    exact ⟨k, c, l, p, a, n, cap, zs, rfl, hrow, rch_ints q4 hd⟩
theorem rd_rec {r : Reach} {b : Nat} {v : Value} {d : DataW H} (ho : Value.okWide Try.prog W r b 24 v) (h : RdC enc Try.prog W 24 v.cells.toList d) (hr : Rch Try.prog 24 d) :
    ∃ k c l p a n cap zs, v = .agg (rA k c l p (.slice a n cap)) ∧ IRow .u8 W a n cap zs ∧ cap ≤ 140737488351232 := by
  obtain ⟨cs, rfl, _⟩ := okWide_struct Try.underlying24 ho
  obtain ⟨k, c, l, p, a, n, cap, zs, h1, h2, h3⟩ := rdc_rec h hr
  refine ⟨k, c, l, p, a, n, cap, zs, ?_, h2, h3⟩
  have h4 : cs.toList = [.int .i64 k, .int .i64 c, .int .i64 l, .int .i64 p, .slice a n cap] := h1
  obtain ⟨l'⟩ := cs
  simp only at h4
  subst h4
  rfl
end
end Go.Proofs.Ytnnkaddgbcdehaa
