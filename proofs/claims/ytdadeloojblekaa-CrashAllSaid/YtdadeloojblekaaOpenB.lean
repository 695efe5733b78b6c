/-
  HOW ARGUMENTS ARE OPENED that are made of bytes, sectors and crashes. No condition.
-/
import Derived.Test.YtdadeloojblekaaOpen
namespace Go.Proofs.Ytdadeloojblekaa
open Go.RowKit Go.ChangeShapes Go.WideShapes
section
variable {H : Type} {enc : TypeId × Value → H} {W : World}
theorem i63_wf {n : Int} (h : (Lit.int .i64 n).wf = true) : I63 n := by
  unfold I63; simp [Lit.wf, IntKind.min, IntKind.max, IntKind.signed, IntKind.bits] at h; omega
theorem u64_wf {n : Int} (h : (Lit.int .u64 n).wf = true) : 0 ≤ n ∧ n ≤ 18446744073709551615 := by
  simp [Lit.wf, IntKind.min, IntKind.max, IntKind.signed, IntKind.bits] at h; omega
theorem c_int : Try.prog.cellsOf 3 = 1 := by kernel_rfl
theorem c_bytes : Try.prog.cellsOf 23 = 1 := by kernel_rfl
theorem c_crash : Try.prog.cellsOf 25 = 3 := by kernel_rfl
theorem c_secs : Try.prog.cellsOf 22 = 1 := by kernel_rfl
theorem c_sec : Try.prog.cellsOf 31 = 64 := by kernel_rfl
theorem c_u8 : Try.prog.cellsOf 5 = 1 := by kernel_rfl
set_option maxRecDepth 8000 in
/-- bytes in one cell -/
theorem rdc_bytes {cs : List Value} {d : DataW H} (h : RdC enc Try.prog W 23 cs d) : ∃ v len zs, cs = [v] ∧ RI .u8 W v len zs ∧ Bytes zs := by
  obtain ⟨a, len, cap, zs, h1, h2, _⟩ := rdc_ints Try.underlying23 Try.underlying5 c_u8 h
  exact ⟨_, len, _, h1, IRow.ri h2, IRow.bytes h2⟩
set_option maxRecDepth 8000 in
theorem rdc_crash {cs : List Value} {d : DataW H} (h : RdC enc Try.prog W 25 cs d) :
    ∃ vk klen kb torn cut, cs = [vk, .int .i64 torn, .int .i64 cut] ∧ RI .u8 W vk klen kb ∧ Bytes kb ∧ I63 torn ∧ I63 cut := by
  obtain ⟨ds, rfl, hn, hl, hf⟩ := rdc_struct Try.underlying25 h
  rw [c_crash] at hl
  have hn3 : ds.length = 3 := hn
  match cs, hl, ds, hn3, hf with
  | [c0, c1, c2], _, [x0, x1, x2], _, hf =>
    have h0 : RdC enc Try.prog W 23 (([c0, c1, c2].drop 0).take (Try.prog.cellsOf 23)) x0 := hf 0 _ _ rfl rfl
    rw [c_bytes] at h0
    have h1 : RdC enc Try.prog W 3 (([c0, c1, c2].drop 1).take (Try.prog.cellsOf 3)) x1 := hf 1 _ _ rfl rfl
    rw [c_int] at h1
    have h2 : RdC enc Try.prog W 3 (([c0, c1, c2].drop 2).take (Try.prog.cellsOf 3)) x2 := hf 2 _ _ rfl rfl
    rw [c_int] at h2
    obtain ⟨vk, klen, kb, e0, r0, b0⟩ := rdc_bytes (cs := [c0]) h0
    obtain ⟨torn, e1, _, w1⟩ := rdc_int (cs := [c1]) Try.underlying3 h1
    obtain ⟨cut, e2, _, w2⟩ := rdc_int (cs := [c2]) Try.underlying3 h2
    simp only [List.cons.injEq, and_true] at e0 e1 e2
    subst e0; subst e1; subst e2
    exact ⟨_, klen, kb, torn, cut, rfl, r0, b0, i63_wf w1, i63_wf w2⟩
/-- a list of things of which each is there -/
theorem pick {α β : Type} {R : α → β → Prop} : ∀ es : List α, (∀ e ∈ es, ∃ a, R e a) → ∃ l : List β, l.length = es.length ∧ ∀ (i : Nat) (e : α) (a : β), es[i]? = some e → l[i]? = some a → R e a
  | [], _ => ⟨[], rfl, fun i e a he => by simp at he⟩
  | e :: es, h => by
    obtain ⟨a, ha⟩ := h e (List.mem_cons_self ..)
    obtain ⟨l, hl, hr⟩ := pick es fun x hx => h x (List.mem_cons_of_mem _ hx)
    refine ⟨a :: l, by simp [hl], fun i x y hx hy => ?_⟩
    cases i with
    | zero => simp at hx hy; subst hx; subst hy; exact ha
    | succ i => exact hr i x y (by simpa using hx) (by simpa using hy)
/-- sectors in one cell -/
theorem il_flatten : ∀ zss : List (List Int), (zss.map (il .u8)).flatten = il .u8 zss.flatten
  | [] => rfl
  | z :: zss => by rw [List.map_cons, List.flatten_cons, List.flatten_cons, il_flatten zss, il_append]
theorem FS.cs {v : Value} {n : Nat} {fs : List Int} (h : CS 64 W v n (il .u8 fs)) : FS W v n fs := by
  obtain ⟨a, cap, rfl, h1, h2, h3, h4, hc⟩ := h
  rw [il_length] at h1
  refine ⟨a, cap, rfl, h1, h2, h3, h4, fun h0 => ?_⟩
  obtain ⟨b, off, rfl, hcell⟩ := hc h0
  exact ⟨b, off, rfl, fun j hj => by rw [hcell j hj, il_get _ _ _ (by omega)]⟩
set_option maxRecDepth 8000 in
theorem rdc_secs {cs : List Value} {d : DataW H} (h : RdC enc Try.prog W 22 cs d) : ∃ v n fs, cs = [v] ∧ FS W v n fs ∧ Bytes fs := by
  obtain ⟨v, n, es, ds, e1, hcs, hn, hd, _, hel, _⟩ := rdc_slice Try.underlying22 c_sec (by omega) h
  obtain ⟨l, hl, hR⟩ := pick (R := fun e z => e = il .u8 z ∧ Bytes z) es fun e he => by
    obtain ⟨i, hi, rfl⟩ := List.getElem_of_mem he
    obtain ⟨zs, h1, _, h2⟩ := rdc_bytes_array Try.underlying31 Try.underlying5 c_u8 c_sec (hel i _ _ (List.getElem?_eq_getElem hi) (List.getElem?_eq_getElem (show i < ds.length by omega)))
    exact ⟨zs, h1, h2⟩
  have he : es = l.map (il .u8) := List.ext_getElem (by simp [hl]) fun i h1 h2 => by
    rw [List.getElem_map]
    exact (hR i es[i] _ (List.getElem?_eq_getElem h1) (List.getElem?_eq_getElem (by omega))).1
  subst he
  rw [il_flatten] at hcs
  refine ⟨v, n, l.flatten, e1, FS.cs hcs, bytes_of_mem fun x hx => ?_⟩
  obtain ⟨z, hz, hxz⟩ := List.mem_flatten.1 hx
  obtain ⟨i, hi, rfl⟩ := List.getElem_of_mem hz
  have hb := (hR i _ _ (List.getElem?_eq_getElem (show i < (l.map (il .u8)).length by simpa using hi)) (List.getElem?_eq_getElem hi)).2
  obtain ⟨j, hj, rfl⟩ := List.getElem_of_mem hxz
  have := hb j
  simpa [List.getD, hj] using this
set_option maxRecDepth 8000 in
theorem rd_crash {r : Reach} {b : Nat} {v : Value} {d : DataW H} (ho : Value.okWide Try.prog W r b 25 v) (h : RdC enc Try.prog W 25 v.cells.toList d) :
    ∃ ak klen ck kb torn cut, v = .agg #[.slice ak klen ck, .int .i64 torn, .int .i64 cut] ∧ RI .u8 W (.slice ak klen ck) klen kb ∧ Bytes kb ∧ I63 torn ∧ I63 cut := by
  obtain ⟨cs, rfl, _⟩ := okWide_struct Try.underlying25 ho
  obtain ⟨vk, klen, kb, torn, cut, e, r0, b0, w1, w2⟩ := rdc_crash h
  obtain ⟨ak, ck, rfl, _⟩ := id r0
  refine ⟨ak, klen, ck, kb, torn, cut, ?_, r0, b0, w1, w2⟩
  have e2 : cs.toList = _ := e
  rw [← Array.toArray_toList (xs := cs), e2]
theorem bytes_wf {zs : List Int} (h : ∀ x ∈ zs, (Lit.int .u8 x).wf = true) : Bytes zs := bytes_of_mem fun x hx => by
  have := h x hx
  simp [Lit.wf, IntKind.min, IntKind.max, IntKind.signed, IntKind.bits] at this; omega
set_option maxRecDepth 8000 in
theorem rd_secs {r : Reach} {b : Nat} {v : Value} {d : DataW H} (ho : Value.okWide Try.prog W r b 22 v) (h : RdC enc Try.prog W 22 v.cells.toList d) : ∃ n fs, FS W v n fs ∧ Bytes fs := by
  obtain ⟨a, len, cap, rfl⟩ := okWide_slice Try.underlying22 ho
  obtain ⟨v, n, fs, e, h1, h2⟩ := rdc_secs h
  simp [Value.cells] at e
  subst e
  exact ⟨n, fs, h1, h2⟩
end
end Go.Proofs.Ytdadeloojblekaa
