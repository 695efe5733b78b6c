/-
  HOW ARGUMENTS OF LAYER 10 (op) ARE OPENED: an operation, lists of operations. No condition.
-/
import Derived.Test.YtmcfnlfaclkbhaaOpen
import Derived.Test.YtmcfnlfaclkbhaaOpList
namespace Go.Proofs.Ytmcfnlfaclkbhaa
open Go.RowKit Go.ChangeShapes Go.WideShapes
/-- a list of things of which each is there -/
theorem pick {α β : Type} {R : α → β → Prop} : ∀ es : List α, (∀ e ∈ es, ∃ a, R e a) → ∃ l : List β, l.length = es.length ∧ ∀ (i : Nat) (e : α) (a : β), es[i]? = some e → l[i]? = some a → R e a
  | [], _ => ⟨[], rfl, fun i e a he => by simp at he⟩
  | e :: es, h => by
    obtain ⟨a, ha⟩ := h e (List.mem_cons_self ..)
    obtain ⟨l, hl, hr⟩ := pick es fun x hx => h x (List.mem_cons_of_mem _ hx)
    refine ⟨a :: l, by simp [hl], fun i x y hx hy => ?_⟩
    cases i with
    | zero => simp at hx hy; subst hx; subst hy; exact ha
    | succ i => exact hr i x y (by simpa using hx) (by simpa using hy)
section
variable {H : Type} {enc : TypeId × Value → H} {W : World}
theorem c_int : Try.prog.cellsOf 3 = 1 := by kernel_rfl
theorem c_string : Try.prog.cellsOf 9 = 1 := by kernel_rfl
theorem c_op : Try.prog.cellsOf 36 = 3 := by kernel_rfl
set_option maxRecDepth 8000 in
theorem rdc_op {cs : List Value} {d : DataW H} (h : RdC enc Try.prog W 36 cs d) : ∃ o : AO, cs = oL o := by
  obtain ⟨ds, rfl, hn, hl, hf⟩ := rdc_struct Try.underlying36 h
  rw [c_op] at hl
  have hn3 : ds.length = 3 := hn
  match cs, hl, ds, hn3, hf with
  | [c0, c1, c2], _, [x0, x1, x2], _, hf =>
    have h0 : RdC enc Try.prog W 3 (([c0, c1, c2].drop 0).take (Try.prog.cellsOf 3)) x0 := hf 0 _ _ rfl rfl
    rw [c_int] at h0
    have h1 : RdC enc Try.prog W 9 (([c0, c1, c2].drop 1).take (Try.prog.cellsOf 9)) x1 := hf 1 _ _ rfl rfl
    rw [c_string] at h1
    have h2 : RdC enc Try.prog W 9 (([c0, c1, c2].drop 2).take (Try.prog.cellsOf 9)) x2 := hf 2 _ _ rfl rfl
    rw [c_string] at h2
    obtain ⟨k, e0, _, _⟩ := rdc_int (cs := [c0]) Try.underlying3 h0
    obtain ⟨s, e1, rfl, _⟩ := rdc_string (cs := [c1]) Try.underlying9 h1
    obtain ⟨t, e2, rfl, _⟩ := rdc_string (cs := [c2]) Try.underlying9 h2
    simp only [List.cons.injEq, and_true] at e0 e1 e2
    subst e0; subst e1; subst e2
    exact ⟨⟨k, s, t⟩, rfl⟩
theorem rd_op {r : Reach} {b : Nat} {v : Value} {d : DataW H} (ho : Value.okWide Try.prog W r b 36 v) (h : RdC enc Try.prog W 36 v.cells.toList d) : ∃ o : AO, v = opV o := by
  obtain ⟨cs, rfl, _⟩ := okWide_struct Try.underlying36 ho
  obtain ⟨o, h1⟩ := rdc_op h
  refine ⟨o, ?_⟩
  have h2 : cs.toList = oL o := h1
  obtain ⟨l⟩ := cs
  simp only at h2
  subst h2
  rfl
set_option maxRecDepth 8000 in
theorem rd_ops {r : Reach} {b : Nat} {v : Value} {d : DataW H} (ho : Value.okWide Try.prog W r b 22 v) (h : RdC enc Try.prog W 22 v.cells.toList d) : ∃ l : List AO, OS W v l := by
  obtain ⟨a, len, cap, rfl⟩ := okWide_slice Try.underlying22 ho
  obtain ⟨v, n, es, ds, e1, hcs, hn, hd, h9, hel, hx⟩ := rdc_slice Try.underlying22 c_op (by omega) h
  simp [Value.cells] at e1
  subst e1
  obtain ⟨l, hl, hR⟩ := pick (R := fun e (o : AO) => e = oL o) es fun e he => by
    obtain ⟨i, hi, rfl⟩ := List.getElem_of_mem he
    have hi2 : i < ds.length := by omega
    exact rdc_op (hel i _ _ (List.getElem?_eq_getElem hi) (List.getElem?_eq_getElem hi2))
  have he : es = l.map oL := List.ext_getElem (by simp [hl]) fun i h1 h2 => by
    rw [List.getElem_map]
    exact hR i es[i] _ (List.getElem?_eq_getElem h1) (List.getElem?_eq_getElem (by omega))
  subst he
  refine ⟨l, ?_⟩
  unfold OS oF
  rw [hl, hn]
  exact hcs
end
end Go.Proofs.Ytmcfnlfaclkbhaa
