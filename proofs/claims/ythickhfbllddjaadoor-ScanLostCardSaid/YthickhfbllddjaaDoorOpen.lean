/-
  HOW ARGUMENTS ARE OPENED THAT LIE DEEPER: slices of structs and of arrays, structs of any number of fields, texts in them; and what the form's reach says of each part. Nothing here speaks of the program. No condition.
-/
import Derived.Test.YthickhfbllddjaaDoorFrame
import Derived.Test.YthickhfbllddjaaDoorJ1
namespace Go.Proofs.YthickhfbllddjaaDoor
open Go.RowKit Go.ChangeShapes Go.WideShapes
section
variable {H : Type} {enc : TypeId × Value → H} {P : Program} {W : World} {t e : TypeId} {k : IntKind}
theorem rdc_string {cs : List Value} {d : DataW H} (ht : P.underlying t = some .string) (h : RdC enc P W t cs d) : ∃ s : ByteArray, cs = [.string s] ∧ d = .lit (.string s.data.toList) ∧ s.size ≤ maxLen := by
  obtain ⟨f, p, hf⟩ := h
  obtain ⟨s, h1, h2, h3⟩ := DataW.trod_string ht hf
  exact ⟨s, h1, congrArg Prod.fst h2, h3⟩
theorem rdc_struct {cs : List Value} {d : DataW H} {fs : Array Field} (ht : P.underlying t = some (.struct fs)) (h : RdC enc P W t cs d) :
    ∃ ds : List (DataW H), d = .agg ds ∧ ds.length = fs.size ∧ cs.length = P.cellsOf t ∧ ∀ (i : Nat) (f : Field) (x : DataW H), fs[i]? = some f → ds[i]? = some x → RdC enc P W f.type ((cs.drop f.offset).take (P.cellsOf f.type)) x := by
  obtain ⟨f, p, hf⟩ := h
  obtain ⟨xs, n, _, hx, hl, hn, hel⟩ := DataW.trod_struct ht hf
  refine ⟨xs.map (·.1), congrArg Prod.fst hx, by simp [hn], hl, fun i f x hi hx => ?_⟩
  have h1 := hel i f hi
  rw [List.getElem?_map] at hx
  simp only [Option.map_eq_some_iff] at hx
  obtain ⟨y, hy, rfl⟩ := hx
  exact ⟨n, y.2, by rw [h1, hy]⟩
theorem rdc_bytes_array {n : Nat} {cs : List Value} {d : DataW H} (ht : P.underlying t = some (.array n e)) (he : P.underlying e = some (.int .u8)) (hc : P.cellsOf e = 1) (hn : P.cellsOf t = n) (h : RdC enc P W t cs d) :
    ∃ zs : List Int, cs = il .u8 zs ∧ zs.length = n ∧ Bytes zs := by
  obtain ⟨f, p, hf⟩ := h
  obtain ⟨xs, m, _, hx, hl, hxl, hel⟩ := DataW.trod_array ht hf
  rw [hn] at hl
  have h1 : ∀ i (hi : i < cs.length), ∃ x, cs[i] = .int .u8 x ∧ (Lit.int .u8 x).wf = true := fun i hi => by
    have h2 := hel i (by omega)
    rw [hc, Nat.mul_one, List.take_one, List.head?_drop, List.getElem?_eq_getElem hi, List.getElem?_eq_getElem (by omega)] at h2
    obtain ⟨x, hx, _, hw⟩ := DataW.trod_int he h2
    exact ⟨x, by simpa using hx, hw⟩
  refine ⟨cs.map intOf, ?_, by simpa using hl, bytes_of_mem fun x hx => ?_⟩
  · refine List.ext_getElem (by simp [il]) fun i h2 h3 => ?_
    obtain ⟨x, hx, _⟩ := h1 i h2
    simp [il, hx, intOf]
  · obtain ⟨c, hc1, rfl⟩ := List.mem_map.1 hx
    obtain ⟨i, hi, rfl⟩ := List.getElem_of_mem hc1
    obtain ⟨y, hy, hw⟩ := h1 i hi
    rw [hy]
    simp [Lit.wf, IntKind.min, IntKind.max, IntKind.signed, IntKind.bits] at hw
    simp only [intOf]; omega
/-- a slice whose elements have k cells each -/
theorem rdc_slice {k : Nat} {cs : List Value} {d : DataW H} (ht : P.underlying t = some (.slice e)) (hk : P.cellsOf e = k) (hk0 : 0 < k) (h : RdC enc P W t cs d) :
    ∃ (v : Value) (n : Nat) (es : List (List Value)) (ds : List (DataW H)), cs = [v] ∧ CS k W v n es.flatten ∧ es.length = n ∧ ds.length = n ∧ (∀ c ∈ es, c.length = k) ∧
      (∀ (i : Nat) (c : List Value) (x : DataW H), es[i]? = some c → ds[i]? = some x → RdC enc P W e c x) ∧ (n = 0 ∨ ∃ rest, d = .slice ds rest) := by
  obtain ⟨f, p, hf⟩ := h
  rcases DataW.trod_slice ht hf with ⟨rfl, _⟩ | ⟨a, len, cap, elems, rest, m, _, rfl, hx, _, hl, hm, hlen, hel, _, _⟩
  · exact ⟨_, 0, [], [], rfl, CS.nil k W, rfl, rfl, fun c hc => by simp at hc, fun i c x hc => by simp at hc, .inl rfl⟩
  · rw [hk] at hel
    have hall : ∀ i, i < len → ∃ c y, elems[i]? = some y ∧ c.length = k ∧ (∀ j, j < k → W.cell? ((a.add (i * k)).add j) = c[j]?) ∧ DataW.trod enc P W 0 (fun _ => true) true m e c = some y := fun i hi => by
      have h1 := hel i hi
      rw [List.getElem?_eq_getElem (by omega)] at h1
      obtain ⟨c, h2, h3⟩ := Option.bind_eq_some_iff.1 h1
      obtain ⟨_, h4, h5⟩ := World.cells?_some h2
      exact ⟨c, _, List.getElem?_eq_getElem (by omega), h4, h5, h3⟩
    let ce : Nat → List Value := fun i => if h : i < len then (hall i h).choose else []
    have hce : ∀ i (h : i < len), ∃ y, elems[i]? = some y ∧ (ce i).length = k ∧ (∀ j, j < k → W.cell? ((a.add (i * k)).add j) = (ce i)[j]?) ∧ DataW.trod enc P W 0 (fun _ => true) true m e (ce i) = some y := fun i h => by
      show ∃ y, _
      simp only [ce, dif_pos h]
      exact (hall i h).choose_spec
    have hcl : ∀ c ∈ (List.range len).map ce, c.length = k := by
      intro c hc
      obtain ⟨i, hi, rfl⟩ := List.mem_map.1 hc
      obtain ⟨y, _, h1, _⟩ := hce i (by simpa using hi)
      exact h1
    refine ⟨_, len, (List.range len).map ce, elems.map (·.1), rfl, ⟨some a, cap, rfl, ?_, hl, by unfold maxLen at hm; omega, fun h => by simp at h, fun h0 => ?_⟩, by simp, by simp [hlen], hcl, ?_, .inr ⟨_, congrArg Prod.fst hx⟩⟩
    · rw [flat_length k _ hcl]; simp
    · obtain ⟨y, _, h1, h2, _⟩ := hce 0 h0
      have h3 := h2 0 hk0
      rw [List.getElem?_eq_getElem (by omega)] at h3
      have hs := World.cell?_spot h3
      obtain ⟨b, off, spot⟩ := a
      have hspot : spot = none := by simpa [Addr.add] using hs
      subst hspot
      refine ⟨b, off, rfl, fun j hj => ?_⟩
      have hjk : j / k < len := (Nat.div_lt_iff_lt_mul hk0).2 hj
      obtain ⟨y, _, h4, h5, _⟩ := hce (j / k) hjk
      have h6 := h5 (j % k) (Nat.mod_lt _ hk0)
      have h7 := flat_get k ((List.range len).map ce) (j / k) (j % k) hcl (Nat.mod_lt _ hk0) (ce (j / k)) (by simp [hjk])
      rw [Nat.div_add_mod' j k] at h7
      rw [h7, ← h6, Go.WideShapes.add_plain, Go.WideShapes.add_plain, Nat.add_assoc, Nat.div_add_mod' j k]
    · intro i c x hc hx
      have hi : i < len := by have := (List.getElem?_eq_some_iff.1 hc).1; simpa using this
      obtain ⟨y, h1, _, _, h2⟩ := hce i hi
      have e1 : c = ce i := by
        rw [List.getElem?_map, List.getElem?_range hi] at hc
        exact (Option.some.inj hc).symm
      rw [List.getElem?_map, h1] at hx
      have e2 : y.1 = x := Option.some.inj hx
      subst e1; subst e2
      exact ⟨m, y.2, h2⟩
/-! the form's own reach, of each part -/
def Rch (P : Program) (t : TypeId) (d : DataW H) : Prop := ∀ n ∈ d.weights P t, n ≤ reachBytes
theorem rch_arg {ts : List TypeId} {ds : List (DataW H)} (h : (DataW.weightsEach P ts ds).all (· ≤ reachBytes) = true) (j : Nat) (d : DataW H) (htj : ts[j]? = some t) (hdj : ds[j]? = some d) : Rch P t d := fun n hn =>
  of_decide_eq_true (List.all_eq_true.1 h n (DataW.weights_mem_each htj hdj n hn))
theorem weightsAll_mem : ∀ {ds : List (DataW H)} {x : DataW H}, x ∈ ds → ∀ n ∈ x.weights P e, n ∈ DataW.weightsAll P e ds
  | d :: r, x, hx, n, hn => by
    simp only [DataW.weightsAll, List.mem_append]
    rcases List.mem_cons.1 hx with rfl | hx
    · exact .inl hn
    · exact .inr (weightsAll_mem hx n hn)
theorem Rch.elem {ds rest : List (DataW H)} (ht : P.underlying t = some (.slice e)) (h : Rch P t (.slice ds rest)) {x : DataW H} (hx : x ∈ ds) : Rch P e x := fun n hn =>
  h n (by simp only [DataW.weights, ht]; exact List.mem_cons_of_mem _ (List.mem_append_left _ (weightsAll_mem hx n hn)))
theorem Rch.field {ds : List (DataW H)} {fs : Array Field} (ht : P.underlying t = some (.struct fs)) (h : Rch P t (.agg ds)) {i : Nat} {f : Field} {x : DataW H} (hf : fs[i]? = some f) (hx : ds[i]? = some x) : Rch P f.type x := fun n hn =>
  h n (by simp only [DataW.weights, ht]; exact DataW.weights_mem_each (j := i) (by simp [hf]) hx n hn)
theorem Rch.text {s : ByteArray} (h : Rch P t (.lit (.string s.data.toList) : DataW H)) : s.size ≤ 281474976710656 := by
  have h1 := h s.data.toList.length (by simp [DataW.weights])
  have e1 : s.size = s.data.size := rfl
  have e2 : s.data.toList.length = s.data.size := Array.length_toList
  unfold reachBytes at h1
  omega
end
end Go.Proofs.YthickhfbllddjaaDoor
