/-
  HOW ARGUMENTS ARE OPENED that are lists of slices inside a struct (layer 19's Synced). No condition.
-/
import Derived.Test.YthickhfbllddjaaDoorOpenB
import Derived.Test.YthickhfbllddjaaDoorSlices
namespace Go.Proofs.YthickhfbllddjaaDoor
open Go.RowKit Go.ChangeShapes Go.WideShapes
section
variable {H : Type} {enc : TypeId × Value → H} {W : World}
theorem c_rows : Tryd.prog.cellsOf 25 = 1 := by kernel_rfl
theorem c_u64s : Tryd.prog.cellsOf 22 = 1 := by kernel_rfl
theorem c_uint : Tryd.prog.cellsOf 42 = 1 := by kernel_rfl
theorem c_syn : Tryd.prog.cellsOf 44 = 3 := by kernel_rfl
theorem ones_flatten : ∀ zs : List (Value × List Int), (zs.map fun z => [z.1]).flatten = zs.map Prod.fst
  | [] => rfl
  | z :: zs => by rw [List.map_cons, List.flatten_cons, ones_flatten zs]; rfl
/-- slices of bytes, in one cell -/
theorem rdc_rows {cs : List Value} {d : DataW H} (h : RdC enc Tryd.prog W 25 cs d) : ∃ a n cap ls, cs = [.slice a n cap] ∧ RL .u8 W (.slice a n cap) n ls ∧ ∀ l ∈ ls, ∀ x ∈ l, 0 ≤ x ∧ x ≤ 255 := by
  obtain ⟨v, n, es, ds, e1, hcs, hn, hd, _, hel, _⟩ := rdc_slice Tryd.underlying25 c_bytes (by omega) h
  obtain ⟨l, hl, hR⟩ := pick (R := fun e (z : Value × List Int) => e = [z.1] ∧ RI .u8 W z.1 z.2.length z.2 ∧ Bytes z.2) es fun e he => by
    obtain ⟨i, hi, rfl⟩ := List.getElem_of_mem he
    obtain ⟨v, len, zs, h1, h2, h3⟩ := rdc_bytes (hel i _ _ (List.getElem?_eq_getElem hi) (List.getElem?_eq_getElem (show i < ds.length by omega)))
    have hz : zs.length = len := h2.length
    subst hz
    exact ⟨(v, zs), h1, h2, h3⟩
  have he : es = l.map fun z => [z.1] := List.ext_getElem (by simp [hl]) fun i h1 h2 => by
    rw [List.getElem_map]
    exact (hR i es[i] _ (List.getElem?_eq_getElem h1) (List.getElem?_eq_getElem (by omega))).1
  have hR2 : ∀ (i : Nat) (z : Value × List Int), l[i]? = some z → RI .u8 W z.1 z.2.length z.2 ∧ Bytes z.2 := fun i z hz => by
    have hi := (List.getElem?_eq_some_iff.1 hz).1
    exact (hR i es[i] z (List.getElem?_eq_getElem (by omega)) hz).2
  rw [he, ones_flatten] at hcs
  obtain ⟨a, cap, rfl, k1, k2, k3, k4, k5⟩ := hcs
  rw [Nat.mul_one] at k1 k5
  refine ⟨a, n, cap, l.map Prod.snd, e1, ⟨l.map Prod.fst, ⟨a, cap, rfl, k1, k2, k3, k4, k5⟩, by rw [List.length_map]; omega, fun j e z he hz => ?_⟩, fun z hz => ?_⟩
  · rw [List.getElem?_map] at he hz
    simp only [Option.map_eq_some_iff] at he hz
    obtain ⟨y, hy, rfl⟩ := he
    obtain ⟨y2, hy2, rfl⟩ := hz
    rw [hy] at hy2
    obtain rfl := Option.some.inj hy2
    exact (hR2 j y hy).1
  · obtain ⟨y, hy, rfl⟩ := List.mem_map.1 hz
    obtain ⟨i, hi, rfl⟩ := List.getElem_of_mem hy
    exact (hR2 i _ (List.getElem?_eq_getElem hi)).2.mem
set_option maxRecDepth 8000 in
theorem rdc_syn {cs : List Value} {d : DataW H} (h : RdC enc Tryd.prog W 44 cs d) :
    ∃ x a n cap ls N, cs = [.int .u64 x, .slice a n cap, .int .u64 N] ∧ U64 x ∧ U64 N ∧ RL .u8 W (.slice a n cap) n ls ∧ ∀ l ∈ ls, ∀ x ∈ l, 0 ≤ x ∧ x ≤ 255 := by
  obtain ⟨ds, rfl, hn, hl, hf⟩ := rdc_struct Tryd.underlying44 h
  rw [c_syn] at hl
  have hn3 : ds.length = 3 := hn
  match cs, hl, ds, hn3, hf with
  | [c0, c1, c2], _, [x0, x1, x2], _, hf =>
    have h0 : RdC enc Tryd.prog W 22 (([c0, c1, c2].drop 0).take (Tryd.prog.cellsOf 22)) x0 := hf 0 _ _ rfl rfl
    rw [c_u64s] at h0
    have h1 : RdC enc Tryd.prog W 25 (([c0, c1, c2].drop 1).take (Tryd.prog.cellsOf 25)) x1 := hf 1 _ _ rfl rfl
    rw [c_rows] at h1
    have h2 : RdC enc Tryd.prog W 42 (([c0, c1, c2].drop 2).take (Tryd.prog.cellsOf 42)) x2 := hf 2 _ _ rfl rfl
    rw [c_uint] at h2
    obtain ⟨x, e0, _, w0⟩ := rdc_int (cs := [c0]) Tryd.underlying22 h0
    obtain ⟨a, n, cap, ls, e1, r1, b1⟩ := rdc_rows (cs := [c1]) h1
    obtain ⟨N, e2, _, w2⟩ := rdc_int (cs := [c2]) Tryd.underlying42 h2
    simp only [List.cons.injEq, and_true] at e0 e1 e2
    subst e0; subst e1; subst e2
    exact ⟨x, a, n, cap, ls, N, rfl, u64_of w0, u64_of w2, r1, b1⟩
set_option maxRecDepth 8000 in
theorem rd_syn {r : Reach} {b : Nat} {v : Value} {d : DataW H} (ho : Value.okWide Tryd.prog W r b 44 v) (h : RdC enc Tryd.prog W 44 v.cells.toList d) :
    ∃ x a n cap ls N, v = .agg #[.int .u64 x, .slice a n cap, .int .u64 N] ∧ U64 x ∧ U64 N ∧ RL .u8 W (.slice a n cap) n ls ∧ ∀ l ∈ ls, ∀ x ∈ l, 0 ≤ x ∧ x ≤ 255 := by
  obtain ⟨cs, rfl, _⟩ := okWide_struct Tryd.underlying44 ho
  obtain ⟨x, a, n, cap, ls, N, e, h1, h2, h3, h4⟩ := rdc_syn h
  refine ⟨x, a, n, cap, ls, N, ?_, h1, h2, h3, h4⟩
  have e2 : cs.toList = _ := e
  rw [← Array.toArray_toList (xs := cs), e2]
end
end Go.Proofs.YthickhfbllddjaaDoor
