/-
  HOW ARGUMENTS ARE OPENED that are made of bytes and sectors. No condition.
-/
import Derived.Test.YthickhfbllddjaaDoorPick
import Derived.Test.YthickhfbllddjaaDoorSecs
import Derived.Test.YthickhfbllddjaaDoorJ1
import Derived.Test.YthickhfbllddjaaDoorOpen
namespace Go.Proofs.YthickhfbllddjaaDoor
open Go.RowKit Go.ChangeShapes Go.WideShapes
section
variable {H : Type} {enc : TypeId × Value → H} {W : World}
theorem i63_wf {n : Int} (h : (Lit.int .i64 n).wf = true) : I63 n := by
  unfold I63; simp [Lit.wf, IntKind.min, IntKind.max, IntKind.signed, IntKind.bits] at h; omega
theorem u64_wf {n : Int} (h : (Lit.int .u64 n).wf = true) : 0 ≤ n ∧ n ≤ 18446744073709551615 := by
  simp [Lit.wf, IntKind.min, IntKind.max, IntKind.signed, IntKind.bits] at h; omega
theorem c_int : Tryd.prog.cellsOf 3 = 1 := by kernel_rfl
theorem c_bytes : Tryd.prog.cellsOf 38 = 1 := by kernel_rfl
theorem c_secs : Tryd.prog.cellsOf 23 = 1 := by kernel_rfl
theorem c_sec : Tryd.prog.cellsOf 74 = 64 := by kernel_rfl
theorem c_u8 : Tryd.prog.cellsOf 5 = 1 := by kernel_rfl
set_option maxRecDepth 8000 in
/-- bytes in one cell -/
theorem rdc_bytes {cs : List Value} {d : DataW H} (h : RdC enc Tryd.prog W 38 cs d) : ∃ v len zs, cs = [v] ∧ RI .u8 W v len zs ∧ Bytes zs := by
  obtain ⟨a, len, cap, zs, h1, h2, _⟩ := rdc_ints Tryd.underlying38 Tryd.underlying5 c_u8 h
  exact ⟨_, len, _, h1, IRow.ri h2, IRow.bytes h2⟩
/-- sectors in one cell -/
theorem il_flatten : ∀ zss : List (List Int), (zss.map (il .u8)).flatten = il .u8 zss.flatten
  | [] => rfl
  | z :: zss => by rw [List.map_cons, List.flatten_cons, List.flatten_cons, il_flatten zss, il_append]
theorem FS.cs {v : Value} {n : Nat} {fs : List Int} (h : CS 64 W v n (il .u8 fs)) : FS W v n fs := by
  obtain ⟨a, cap, rfl, h1, h2, h3, h4, hc⟩ := h
  rw [il_length] at h1
  refine ⟨a, cap, rfl, h1, h2, h3, h4, fun h0 => ?_⟩
  obtain ⟨b, off, rfl, hcell⟩ := hc h0
  exact ⟨b, off, rfl, fun j hj => by rw [hcell j hj, il_get _ _ _ (by omega)]⟩
set_option maxRecDepth 8000 in
theorem rdc_secs {cs : List Value} {d : DataW H} (h : RdC enc Tryd.prog W 23 cs d) : ∃ v n fs, cs = [v] ∧ FS W v n fs ∧ Bytes fs := by
  obtain ⟨v, n, es, ds, e1, hcs, hn, hd, _, hel, _⟩ := rdc_slice Tryd.underlying23 c_sec (by omega) h
  obtain ⟨l, hl, hR⟩ := pick (R := fun e z => e = il .u8 z ∧ Bytes z) es fun e he => by
    obtain ⟨i, hi, rfl⟩ := List.getElem_of_mem he
    obtain ⟨zs, h1, _, h2⟩ := rdc_bytes_array Tryd.underlying74 Tryd.underlying5 c_u8 c_sec (hel i _ _ (List.getElem?_eq_getElem hi) (List.getElem?_eq_getElem (show i < ds.length by omega)))
    exact ⟨zs, h1, h2⟩
  have he : es = l.map (il .u8) := List.ext_getElem (by simp [hl]) fun i h1 h2 => by
    rw [List.getElem_map]
    exact (hR i es[i] _ (List.getElem?_eq_getElem h1) (List.getElem?_eq_getElem (by omega))).1
  subst he
  rw [il_flatten] at hcs
  refine ⟨v, n, l.flatten, e1, FS.cs hcs, bytes_of_mem fun x hx => ?_⟩
  obtain ⟨z, hz, hxz⟩ := List.mem_flatten.1 hx
  obtain ⟨i, hi, rfl⟩ := List.getElem_of_mem hz
  have hb := (hR i _ _ (List.getElem?_eq_getElem (show i < (l.map (il .u8)).length by simpa using hi)) (List.getElem?_eq_getElem hi)).2
  obtain ⟨j, hj, rfl⟩ := List.getElem_of_mem hxz
  have := hb j
  simpa [List.getD, hj] using this
theorem bytes_wf {zs : List Int} (h : ∀ x ∈ zs, (Lit.int .u8 x).wf = true) : Bytes zs := bytes_of_mem fun x hx => by
  have := h x hx
  simp [Lit.wf, IntKind.min, IntKind.max, IntKind.signed, IntKind.bits] at this; omega
set_option maxRecDepth 8000 in
theorem rd_secs {r : Reach} {b : Nat} {v : Value} {d : DataW H} (ho : Value.okWide Tryd.prog W r b 23 v) (h : RdC enc Tryd.prog W 23 v.cells.toList d) : ∃ n fs, FS W v n fs ∧ Bytes fs := by
  obtain ⟨a, len, cap, rfl⟩ := okWide_slice Tryd.underlying23 ho
  obtain ⟨v, n, fs, e, h1, h2⟩ := rdc_secs h
  simp [Value.cells] at e
  subst e
  exact ⟨n, fs, h1, h2⟩
end
end Go.Proofs.YthickhfbllddjaaDoor
