/-
  HOW ARGUMENTS ARE OPENED: out of 'the argument reads as the datum d' (the frame's fact for any type): integers, bools, slices of integers, arrays of one-cell elements; and what the form's reach or the second form's bound says of them. Nothing here speaks of the program. No condition.
-/
import Derived.Test.YthickhfbllddjaaDoorBase
import Derived.ChangeSlices
import Derived.OpenShut
import Derived.SizedLaws
import Derived.ChangeMaps5
import Derived.ChangeSame
namespace Go.Proofs.YthickhfbllddjaaDoor
open Go.RowKit Go.ChangeShapes Go.WideShapes
section
variable {H : Type} {enc : TypeId × Value → H} {P : Program} {W : World} {t e : TypeId} {k : IntKind}
/-- the cells cs read, at the type t, as the datum d -/
def RdC (enc : TypeId × Value → H) (P : Program) (W : World) (t : TypeId) (cs : List Value) (d : DataW H) : Prop :=
  ∃ (fuel : Nat) (p : List MemPlace), DataW.trod enc P W 0 (fun _ => true) true fuel t cs = some (d, p)
/-- the frame's fact -/
theorem rdc_of {v : Value} {d : DataW H} {p : List MemPlace} (h : DataW.Trod enc P W 0 (fun _ => true) true t v d p) : RdC enc P W t v.cells.toList d := by
  obtain ⟨f, hf⟩ := h; exact ⟨f, p, hf⟩
theorem rdc_int {cs : List Value} {d : DataW H} (ht : P.underlying t = some (.int k)) (h : RdC enc P W t cs d) : ∃ n, cs = [.int k n] ∧ d = .lit (.int k n) ∧ (Lit.int k n).wf = true := by
  obtain ⟨f, p, hf⟩ := h
  obtain ⟨n, h1, h2, h3⟩ := DataW.trod_int ht hf
  exact ⟨n, h1, congrArg Prod.fst h2, h3⟩
theorem rd_int {r : Reach} {b : Nat} {v : Value} {d : DataW H} (ht : P.underlying t = some (.int k)) (ho : Value.okWide P W r b t v) (h : RdC enc P W t v.cells.toList d) :
    ∃ n, v = .int k n ∧ d = .lit (.int k n) ∧ (Lit.int k n).wf = true := by
  obtain ⟨n, rfl⟩ := okWide_int ht ho
  obtain ⟨m, h1, h2, h3⟩ := rdc_int ht h
  simp [Value.cells] at h1
  subst h1
  exact ⟨n, rfl, h2, h3⟩
/-- a text -/
theorem rd_string {r : Reach} {b : Nat} {v : Value} {d : DataW H} (ht : P.underlying t = some .string) (ho : Value.okWide P W r b t v) (h : RdC enc P W t v.cells.toList d) :
    ∃ s : ByteArray, v = .string s ∧ d = .lit (.string s.data.toList) ∧ s.size ≤ maxLen := by
  obtain ⟨f, p, hf⟩ := h
  obtain ⟨s, h1, h2, _, h3⟩ := Go.ChangeMaps.open_string ht ho ⟨f, hf⟩
  exact ⟨s, h1, h2, h3⟩
/-- the form's own reach, of a text -/
theorem reach_string {ts : List TypeId} {s : ByteArray} {ds : List (DataW H)} (h : (DataW.weightsEach P ts ds).all (· ≤ reachBytes) = true) (j : Nat) (htj : ts[j]? = some t) (hdj : ds[j]? = some (.lit (.string s.data.toList))) : s.size ≤ 140737488351232 := by
  have h1 := sized_string h htj hdj
  have e1 : s.size = s.data.size := rfl
  have e2 : s.data.toList.length = s.data.size := Array.length_toList
  unfold reachBytes at h1
  omega
theorem rd_bool {r : Reach} {b : Nat} {v : Value} (ht : P.underlying t = some .bool) (ho : Value.okWide P W r b t v) : ∃ x, v = .bool x := okWide_bool ht ho
/-- the datum of a slice of integers -/
def DInts (k : IntKind) (len cap : Nat) (zs : List Int) (d : DataW H) : Prop :=
  (cap = 0 ∧ d = .nil) ∨ (d = .slice (lits k (zs.take len)) (lits k (zs.drop len)) ∧ zs.length = cap ∧ len ≤ cap)
theorem rdc_ints {cs : List Value} {d : DataW H} (ht : P.underlying t = some (.slice e)) (he : P.underlying e = some (.int k)) (hc : P.cellsOf e = 1) (h : RdC enc P W t cs d) :
    ∃ a len cap zs, cs = [.slice a len cap] ∧ IRow k W a len cap zs ∧ DInts k len cap zs d := by
  obtain ⟨f, p, hf⟩ := h
  rcases open_ints ht he hc hf with ⟨hcs, hx⟩ | ⟨x, l, c, zs, hcs, _, hl, hm, hz, hx, hcell, hwz⟩
  · exact ⟨none, 0, 0, [], hcs, .inl ⟨rfl, rfl, rfl, rfl⟩, .inl ⟨rfl, congrArg Prod.fst hx⟩⟩
  · simp at hz
    exact ⟨some x, l, c, zs, hcs, .inr ⟨x, rfl, hl, hm, hz, hcell, hwz⟩, .inr ⟨congrArg Prod.fst hx, hz, hl⟩⟩
theorem rd_ints {r : Reach} {b : Nat} {v : Value} {d : DataW H} (ht : P.underlying t = some (.slice e)) (he : P.underlying e = some (.int k)) (hc : P.cellsOf e = 1) (ho : Value.okWide P W r b t v) (h : RdC enc P W t v.cells.toList d) :
    ∃ a len cap zs, v = .slice a len cap ∧ IRow k W a len cap zs ∧ DInts k len cap zs d := by
  obtain ⟨a, len, cap, rfl⟩ := okWide_slice ht ho
  obtain ⟨a', len', cap', zs, h1, h2, h3⟩ := rdc_ints ht he hc h
  simp [Value.cells] at h1
  obtain ⟨rfl, rfl, rfl⟩ := h1
  exact ⟨a, len, cap, zs, rfl, h2, h3⟩
theorem okWide_array {r : Reach} {b n : Nat} {v : Value} (ht : P.underlying t = some (.array n e)) (h : Value.okWide P W r b t v) : ∃ cs, v = .agg cs ∧ cs.size = P.cellsOf t := by
  simp only [Value.okWide, ht] at h
  obtain ⟨cs, h1, h2, _⟩ := h
  exact ⟨cs, h1, h2⟩
/-- an array of n elements of one cell each: its cells and what each reads as -/
theorem rd_array {r : Reach} {b n : Nat} {v : Value} {d : DataW H} (ht : P.underlying t = some (.array n e)) (hc : P.cellsOf e = 1) (hn : P.cellsOf t = n) (ho : Value.okWide P W r b t v) (h : RdC enc P W t v.cells.toList d) :
    ∃ (cs : List Value) (ds : List (DataW H)), v = .agg cs.toArray ∧ cs.length = n ∧ ds.length = n ∧ d = .agg ds ∧ ∀ (i : Nat) (c : Value) (x : DataW H), cs[i]? = some c → ds[i]? = some x → RdC enc P W e [c] x := by
  obtain ⟨cs, rfl, hs⟩ := okWide_array ht ho
  obtain ⟨f, p, hf⟩ := h
  obtain ⟨xs, m, _, hx, hl, hxl, hel⟩ := DataW.trod_array ht hf
  have e1 : (Value.agg cs).cells.toList = cs.toList := rfl
  rw [e1] at hel
  refine ⟨cs.toList, xs.map (·.1), by simp, by simp [hs, hn], by simp [hxl], congrArg Prod.fst hx, fun i c x hc1 hd1 => ?_⟩
  have hi : i < n := by
    have := (List.getElem?_eq_some_iff.1 hc1).1
    simp at this; omega
  have h1 := hel i hi
  rw [hc, Nat.mul_one, List.take_one, List.head?_drop, hc1] at h1
  rw [List.getElem?_map, ← h1] at hd1
  simp only [Option.toList_some, Option.map_eq_some_iff] at hd1
  obtain ⟨y, hy, rfl⟩ := hd1
  exact ⟨m, y.2, by rw [hy]⟩
theorem okWide_struct {r : Reach} {b : Nat} {v : Value} {fs : Array Field} (ht : P.underlying t = some (.struct fs)) (h : Value.okWide P W r b t v) : ∃ cs, v = .agg cs ∧ cs.size = P.cellsOf t := by
  simp only [Value.okWide, ht] at h
  obtain ⟨cs, h1, h2, _⟩ := h
  exact ⟨cs, h1, h2⟩
/-- a struct of two fields of one cell each -/
theorem rd_struct2 {r : Reach} {b : Nat} {v : Value} {d : DataW H} {f0 f1 : Field} (ht : P.underlying t = some (.struct #[f0, f1])) (hc0 : P.cellsOf f0.type = 1) (hc1 : P.cellsOf f1.type = 1) (h0 : f0.offset = 0) (h1 : f1.offset = 1)
    (hn : P.cellsOf t = 2) (ho : Value.okWide P W r b t v) (h : RdC enc P W t v.cells.toList d) :
    ∃ c0 c1 d0 d1, v = .agg #[c0, c1] ∧ d = .agg [d0, d1] ∧ RdC enc P W f0.type [c0] d0 ∧ RdC enc P W f1.type [c1] d1 := by
  obtain ⟨cs, rfl, hs⟩ := okWide_struct ht ho
  rw [hn] at hs
  obtain ⟨l⟩ := cs
  have hs' : l.length = 2 := by simpa using hs
  match l, hs' with
  | [c0, c1], _ =>
    obtain ⟨f, p, hf⟩ := h
    obtain ⟨y0, y1, m, hx, _, g0, g1⟩ := Go.ChangeShapes.trod_struct2 ht hf
    rw [hc0, h0] at g0
    rw [hc1, h1] at g1
    exact ⟨c0, c1, y0.1, y1.1, rfl, congrArg Prod.fst hx, ⟨m, y0.2, g0⟩, ⟨m, y1.2, g1⟩⟩
/-- an array of n integers -/
theorem rd_array_ints {r : Reach} {b n : Nat} {v : Value} {d : DataW H} (ht : P.underlying t = some (.array n e)) (he : P.underlying e = some (.int k)) (hc : P.cellsOf e = 1) (hn : P.cellsOf t = n) (ho : Value.okWide P W r b t v) (h : RdC enc P W t v.cells.toList d) :
    ∃ zs : List Int, v = .agg (il k zs).toArray ∧ zs.length = n ∧ ∀ x ∈ zs, (Lit.int k x).wf = true := by
  obtain ⟨cs, ds, rfl, hl, hd, _, hel⟩ := rd_array ht hc hn ho h
  have h1 : ∀ i (hi : i < cs.length), ∃ x, cs[i] = .int k x ∧ (Lit.int k x).wf = true := fun i hi => by
    obtain ⟨x, hx, _, hw⟩ := rdc_int he (hel i cs[i] (ds[i]'(by omega)) (by simp) (by simp))
    exact ⟨x, by simpa using hx, hw⟩
  refine ⟨cs.map intOf, ?_, by simpa using hl, ?_⟩
  · congr 2
    refine List.ext_getElem (by simp [il]) fun i h2 h3 => ?_
    obtain ⟨x, hx, _⟩ := h1 i h2
    simp [il, hx, intOf]
  · intro x hx
    obtain ⟨c, hc1, rfl⟩ := List.mem_map.1 hx
    obtain ⟨i, hi, rfl⟩ := List.getElem_of_mem hc1
    obtain ⟨y, hy, hw⟩ := h1 i hi
    rw [hy]; exact hw
/-- the form's own reach, of a slice of integers -/
theorem reach_ints {ts : List TypeId} {ds : List (DataW H)} (h : (DataW.weightsEach P ts ds).all (· ≤ reachBytes) = true) (j : Nat) (d : DataW H) (htj : ts[j]? = some t) (hdj : ds[j]? = some d) (ht : P.underlying t = some (.slice e))
    {len cap : Nat} {zs : List Int} (hd : DInts k len cap zs d) : cap * P.bytesOf e ≤ 140737488351232 := by
  rcases hd with ⟨rfl, _⟩ | ⟨rfl, hz, hl⟩
  · omega
  · have := sized_slice h htj hdj ht
    simp only [lits, List.length_map, List.length_take, List.length_drop, hz, reachBytes, Nat.min_eq_left hl, Nat.add_sub_cancel' hl] at this
    exact this
/-! the second form's bound -/
theorem bulk_one (d : DataW H) : 1 ≤ Rows.uptoBulk d := by
  cases d with
  | lit l => cases l <;> simp [Rows.uptoBulk]
  | _ => simp [Rows.uptoBulk]
theorem bulk_count (l : List (DataW H)) : l.length ≤ Rows.uptoBulkAll l := by
  induction l with
  | nil => simp [Rows.uptoBulkAll]
  | cons d l ih => have h1 := bulk_one d; simp only [Rows.uptoBulkAll, List.length_cons]; omega
theorem bulk_mem {d : DataW H} {l : List (DataW H)} (h : d ∈ l) : Rows.uptoBulk d ≤ Rows.uptoBulkAll l := by
  induction l with
  | nil => cases h
  | cons x l ih =>
    simp only [Rows.uptoBulkAll]
    rcases List.mem_cons.1 h with e | e
    · subst e; omega
    · have := ih e; omega
theorem upto_all {l : List (DataW H)} (hk : Rows.uptoSmall H l = true) : Rows.uptoBulkAll l ≤ 1048576 := of_decide_eq_true hk
theorem bulk_ints {len cap : Nat} {zs : List Int} {d : DataW H} (hd : DInts k len cap zs d) : cap ≤ Rows.uptoBulk d := by
  rcases hd with ⟨rfl, _⟩ | ⟨rfl, hz, hl⟩
  · omega
  · have h1 := bulk_count (lits (H := H) k (zs.take len))
    have h2 := bulk_count (lits (H := H) k (zs.drop len))
    simp only [lits, List.length_map, List.length_take, List.length_drop] at h1 h2
    simp only [Rows.uptoBulk, lits]
    omega
end
end Go.Proofs.YthickhfbllddjaaDoor
