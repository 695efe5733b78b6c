import Derived.Test.YtpoiapfgbbmekaaGreatDoorJ7
namespace Go.Proofs.YtpoiapfgbbmekaaGreatDoor
open Go.RowKit Go.ChangeShapes Go.WideShapes
section
variable {H : Type} {enc : TypeId × Value → H} {W : World}
theorem c_crash : Tryz.prog.cellsOf 38 = 3 := by kernel_rfl
set_option maxRecDepth 8000 in
theorem rdc_crash {cs : List Value} {d : DataW H} (h : RdC enc Tryz.prog W 38 cs d) :
    ∃ vk klen kb torn cut, cs = [vk, .int .i64 torn, .int .i64 cut] ∧ RI .u8 W vk klen kb ∧ Bytes kb ∧ I63 torn ∧ I63 cut := by
  obtain ⟨ds, rfl, hn, hl, hf⟩ := rdc_struct Tryz.underlying38 h
  rw [c_crash] at hl
  have hn3 : ds.length = 3 := hn
  match cs, hl, ds, hn3, hf with
  | [c0, c1, c2], _, [x0, x1, x2], _, hf =>
    have h0 : RdC enc Tryz.prog W 36 (([c0, c1, c2].drop 0).take (Tryz.prog.cellsOf 36)) x0 := hf 0 _ _ rfl rfl
    rw [c_bytes] at h0
    have h1 : RdC enc Tryz.prog W 3 (([c0, c1, c2].drop 1).take (Tryz.prog.cellsOf 3)) x1 := hf 1 _ _ rfl rfl
    rw [c_int] at h1
    have h2 : RdC enc Tryz.prog W 3 (([c0, c1, c2].drop 2).take (Tryz.prog.cellsOf 3)) x2 := hf 2 _ _ rfl rfl
    rw [c_int] at h2
    obtain ⟨vk, klen, kb, e0, r0, b0⟩ := rdc_bytes (cs := [c0]) h0
    obtain ⟨torn, e1, _, w1⟩ := rdc_int (cs := [c1]) Tryz.underlying3 h1
    obtain ⟨cut, e2, _, w2⟩ := rdc_int (cs := [c2]) Tryz.underlying3 h2
    simp only [List.cons.injEq, and_true] at e0 e1 e2
    subst e0; subst e1; subst e2
    exact ⟨_, klen, kb, torn, cut, rfl, r0, b0, i63_wf w1, i63_wf w2⟩
set_option maxRecDepth 8000 in
theorem rd_crash {r : Reach} {b : Nat} {v : Value} {d : DataW H} (ho : Value.okWide Tryz.prog W r b 38 v) (h : RdC enc Tryz.prog W 38 v.cells.toList d) :
    ∃ ak klen ck kb torn cut, v = .agg #[.slice ak klen ck, .int .i64 torn, .int .i64 cut] ∧ RI .u8 W (.slice ak klen ck) klen kb ∧ Bytes kb ∧ I63 torn ∧ I63 cut := by
  obtain ⟨cs, rfl, _⟩ := okWide_struct Tryz.underlying38 ho
  obtain ⟨vk, klen, kb, torn, cut, e, r0, b0, w1, w2⟩ := rdc_crash h
  obtain ⟨ak, ck, rfl, _⟩ := id r0
  refine ⟨ak, klen, ck, kb, torn, cut, ?_, r0, b0, w1, w2⟩
  have e2 : cs.toList = _ := e
  rw [← Array.toArray_toList (xs := cs), e2]
end
end Go.Proofs.YtpoiapfgbbmekaaGreatDoor
