/-
  TEXTS JOINED: Open, Pick, OpenS, PoolOpen, PoolPlays. Each one's own words stand at its head.
-/
import Derived.Test.YtoempaagpgoilaaDoorJ0
import Derived.Test.YtoempaagpgoilaaDoorRows
import Derived.Test.YtoempaagpgoilaaDoorJ13
/-
  HOW ARGUMENTS ARE OPENED THAT LIE DEEPER: slices of structs and of arrays, structs of any number of fields, texts in them; and what the form's reach says of each part. Nothing here speaks of the program. No condition.
-/
namespace Go.Proofs.YtoempaagpgoilaaDoor
open Go.RowKit Go.ChangeShapes Go.WideShapes
section
variable {H : Type} {enc : TypeId × Value → H} {P : Program} {W : World} {t e : TypeId} {k : IntKind}
theorem rdc_string {cs : List Value} {d : DataW H} (ht : P.underlying t = some .string) (h : RdC enc P W t cs d) : ∃ s : ByteArray, cs = [.string s] ∧ d = .lit (.string s.data.toList) ∧ s.size ≤ maxLen := by
  obtain ⟨f, p, hf⟩ := h
  obtain ⟨s, h1, h2, h3⟩ := DataW.trod_string ht hf
  exact ⟨s, h1, congrArg Prod.fst h2, h3⟩
theorem rdc_struct {cs : List Value} {d : DataW H} {fs : Array Field} (ht : P.underlying t = some (.struct fs)) (h : RdC enc P W t cs d) :
    ∃ ds : List (DataW H), d = .agg ds ∧ ds.length = fs.size ∧ cs.length = P.cellsOf t ∧ ∀ (i : Nat) (f : Field) (x : DataW H), fs[i]? = some f → ds[i]? = some x → RdC enc P W f.type ((cs.drop f.offset).take (P.cellsOf f.type)) x := by
  obtain ⟨f, p, hf⟩ := h
  obtain ⟨xs, n, _, hx, hl, hn, hel⟩ := DataW.trod_struct ht hf
  refine ⟨xs.map (·.1), congrArg Prod.fst hx, by simp [hn], hl, fun i f x hi hx => ?_⟩
  have h1 := hel i f hi
  rw [List.getElem?_map] at hx
  simp only [Option.map_eq_some_iff] at hx
  obtain ⟨y, hy, rfl⟩ := hx
  exact ⟨n, y.2, by rw [h1, hy]⟩
/-- a slice whose elements have k cells each -/
theorem rdc_slice {k : Nat} {cs : List Value} {d : DataW H} (ht : P.underlying t = some (.slice e)) (hk : P.cellsOf e = k) (hk0 : 0 < k) (h : RdC enc P W t cs d) :
    ∃ (v : Value) (n : Nat) (es : List (List Value)) (ds : List (DataW H)), cs = [v] ∧ CS k W v n es.flatten ∧ es.length = n ∧ ds.length = n ∧ (∀ c ∈ es, c.length = k) ∧
      (∀ (i : Nat) (c : List Value) (x : DataW H), es[i]? = some c → ds[i]? = some x → RdC enc P W e c x) ∧ (n = 0 ∨ ∃ rest, d = .slice ds rest) := by
  obtain ⟨f, p, hf⟩ := h
  rcases DataW.trod_slice ht hf with ⟨rfl, _⟩ | ⟨a, len, cap, elems, rest, m, _, rfl, hx, _, hl, hm, hlen, hel, _, _⟩
  · exact ⟨_, 0, [], [], rfl, CS.nil k W, rfl, rfl, fun c hc => by simp at hc, fun i c x hc => by simp at hc, .inl rfl⟩
  · rw [hk] at hel
    have hall : ∀ i, i < len → ∃ c y, elems[i]? = some y ∧ c.length = k ∧ (∀ j, j < k → W.cell? ((a.add (i * k)).add j) = c[j]?) ∧ DataW.trod enc P W 0 (fun _ => true) true m e c = some y := fun i hi => by
      have h1 := hel i hi
      rw [List.getElem?_eq_getElem (by omega)] at h1
      obtain ⟨c, h2, h3⟩ := Option.bind_eq_some_iff.1 h1
      obtain ⟨_, h4, h5⟩ := World.cells?_some h2
      exact ⟨c, _, List.getElem?_eq_getElem (by omega), h4, h5, h3⟩
    let ce : Nat → List Value := fun i => if h : i < len then (hall i h).choose else []
    have hce : ∀ i (h : i < len), ∃ y, elems[i]? = some y ∧ (ce i).length = k ∧ (∀ j, j < k → W.cell? ((a.add (i * k)).add j) = (ce i)[j]?) ∧ DataW.trod enc P W 0 (fun _ => true) true m e (ce i) = some y := fun i h => by
      show ∃ y, _
      simp only [ce, dif_pos h]
      exact (hall i h).choose_spec
    have hcl : ∀ c ∈ (List.range len).map ce, c.length = k := by
      intro c hc
      obtain ⟨i, hi, rfl⟩ := List.mem_map.1 hc
      obtain ⟨y, _, h1, _⟩ := hce i (by simpa using hi)
      exact h1
    refine ⟨_, len, (List.range len).map ce, elems.map (·.1), rfl, ⟨some a, cap, rfl, ?_, hl, by unfold maxLen at hm; omega, fun h => by simp at h, fun h0 => ?_⟩, by simp, by simp [hlen], hcl, ?_, .inr ⟨_, congrArg Prod.fst hx⟩⟩
    · rw [flat_length k _ hcl]; simp
    · obtain ⟨y, _, h1, h2, _⟩ := hce 0 h0
      have h3 := h2 0 hk0
      rw [List.getElem?_eq_getElem (by omega)] at h3
      have hs := World.cell?_spot h3
      obtain ⟨b, off, spot⟩ := a
      have hspot : spot = none := by simpa [Addr.add] using hs
      subst hspot
      refine ⟨b, off, rfl, fun j hj => ?_⟩
      have hjk : j / k < len := (Nat.div_lt_iff_lt_mul hk0).2 hj
      obtain ⟨y, _, h4, h5, _⟩ := hce (j / k) hjk
      have h6 := h5 (j % k) (Nat.mod_lt _ hk0)
      have h7 := flat_get k ((List.range len).map ce) (j / k) (j % k) hcl (Nat.mod_lt _ hk0) (ce (j / k)) (by simp [hjk])
      rw [Nat.div_add_mod' j k] at h7
      rw [h7, ← h6, Go.WideShapes.add_plain, Go.WideShapes.add_plain, Nat.add_assoc, Nat.div_add_mod' j k]
    · intro i c x hc hx
      have hi : i < len := by have := (List.getElem?_eq_some_iff.1 hc).1; simpa using this
      obtain ⟨y, h1, _, _, h2⟩ := hce i hi
      have e1 : c = ce i := by
        rw [List.getElem?_map, List.getElem?_range hi] at hc
        exact (Option.some.inj hc).symm
      rw [List.getElem?_map, h1] at hx
      have e2 : y.1 = x := Option.some.inj hx
      subst e1; subst e2
      exact ⟨m, y.2, h2⟩
/-! the form's own reach, of each part -/
def Rch (P : Program) (t : TypeId) (d : DataW H) : Prop := ∀ n ∈ d.weights P t, n ≤ reachBytes
theorem rch_arg {ts : List TypeId} {ds : List (DataW H)} (h : (DataW.weightsEach P ts ds).all (· ≤ reachBytes) = true) (j : Nat) (d : DataW H) (htj : ts[j]? = some t) (hdj : ds[j]? = some d) : Rch P t d := fun n hn =>
  of_decide_eq_true (List.all_eq_true.1 h n (DataW.weights_mem_each htj hdj n hn))
theorem weightsAll_mem : ∀ {ds : List (DataW H)} {x : DataW H}, x ∈ ds → ∀ n ∈ x.weights P e, n ∈ DataW.weightsAll P e ds
  | d :: r, x, hx, n, hn => by
    simp only [DataW.weightsAll, List.mem_append]
    rcases List.mem_cons.1 hx with rfl | hx
    · exact .inl hn
    · exact .inr (weightsAll_mem hx n hn)
theorem Rch.elem {ds rest : List (DataW H)} (ht : P.underlying t = some (.slice e)) (h : Rch P t (.slice ds rest)) {x : DataW H} (hx : x ∈ ds) : Rch P e x := fun n hn =>
  h n (by simp only [DataW.weights, ht]; exact List.mem_cons_of_mem _ (List.mem_append_left _ (weightsAll_mem hx n hn)))
theorem Rch.field {ds : List (DataW H)} {fs : Array Field} (ht : P.underlying t = some (.struct fs)) (h : Rch P t (.agg ds)) {i : Nat} {f : Field} {x : DataW H} (hf : fs[i]? = some f) (hx : ds[i]? = some x) : Rch P f.type x := fun n hn =>
  h n (by simp only [DataW.weights, ht]; exact DataW.weights_mem_each (j := i) (by simp [hf]) hx n hn)
theorem Rch.text {s : ByteArray} (h : Rch P t (.lit (.string s.data.toList) : DataW H)) : s.size ≤ 281474976710656 := by
  have h1 := h s.data.toList.length (by simp [DataW.weights])
  have e1 : s.size = s.data.size := rfl
  have e2 : s.data.toList.length = s.data.size := Array.length_toList
  unfold reachBytes at h1
  omega
end
end Go.Proofs.YtoempaagpgoilaaDoor
/-
  A LIST OF THINGS OF WHICH EACH IS THERE. Plain mathematics. No condition.
-/
namespace Go.Proofs.YtoempaagpgoilaaDoor
/-- a list of things of which each is there -/
theorem pick {α β : Type} {R : α → β → Prop} : ∀ es : List α, (∀ e ∈ es, ∃ a, R e a) → ∃ l : List β, l.length = es.length ∧ ∀ (i : Nat) (e : α) (a : β), es[i]? = some e → l[i]? = some a → R e a
  | [], _ => ⟨[], rfl, fun i e a he => by simp at he⟩
  | e :: es, h => by
    obtain ⟨a, ha⟩ := h e (List.mem_cons_self ..)
    obtain ⟨l, hl, hr⟩ := pick es fun x hx => h x (List.mem_cons_of_mem _ hx)
    refine ⟨a :: l, by simp [hl], fun i x y hx hy => ?_⟩
    cases i with
    | zero => simp at hx hy; subst hx; subst hy; exact ha
    | succ i => exact hr i x y (by simpa using hx) (by simpa using hy)
end Go.Proofs.YtoempaagpgoilaaDoor
/-
  HOW ARGUMENTS ARE OPENED that are made of bytes and sectors. No condition.
-/
namespace Go.Proofs.YtoempaagpgoilaaDoor
open Go.RowKit Go.ChangeShapes Go.WideShapes
section
variable {H : Type} {enc : TypeId × Value → H} {W : World}
theorem i63_wf {n : Int} (h : (Lit.int .i64 n).wf = true) : I63 n := by
  unfold I63; simp [Lit.wf, IntKind.min, IntKind.max, IntKind.signed, IntKind.bits] at h; omega
theorem u64_wf {n : Int} (h : (Lit.int .u64 n).wf = true) : 0 ≤ n ∧ n ≤ 18446744073709551615 := by
  simp [Lit.wf, IntKind.min, IntKind.max, IntKind.signed, IntKind.bits] at h; omega
theorem c_int : Tryd.prog.cellsOf 3 = 1 := by kernel_rfl
theorem FS.cs {v : Value} {n : Nat} {fs : List Int} (h : CS 64 W v n (il .u8 fs)) : FS W v n fs := by
  obtain ⟨a, cap, rfl, h1, h2, h3, h4, hc⟩ := h
  rw [il_length] at h1
  refine ⟨a, cap, rfl, h1, h2, h3, h4, fun h0 => ?_⟩
  obtain ⟨b, off, rfl, hcell⟩ := hc h0
  exact ⟨b, off, rfl, fun j hj => by rw [hcell j hj, il_get _ _ _ (by omega)]⟩
end
end Go.Proofs.YtoempaagpgoilaaDoor
/-
  LAYER 21 (pool): how the law's calls are opened. No condition.
-/
namespace Go.Proofs.YtoempaagpgoilaaDoor
open Go.RowKit Go.ChangeShapes Go.WideShapes
section
variable {H : Type} {enc : TypeId × Value → H} {W : World}
theorem c_uint : Tryd.prog.cellsOf 31 = 1 := by kernel_rfl
theorem c_string : Tryd.prog.cellsOf 9 = 1 := by kernel_rfl
theorem c_pact : Tryd.prog.cellsOf 33 = 3 := by kernel_rfl
set_option maxRecDepth 8000 in
theorem rdc_pact {cs : List Value} {d : DataW H} (h : RdC enc Tryd.prog W 33 cs d) (hr : Rch Tryd.prog 33 d) : ∃ a : PAct, cs = a.cells ∧ GPA a := by
  obtain ⟨ds, rfl, hn, hl, hf⟩ := rdc_struct Tryd.underlying33 h
  rw [c_pact] at hl
  have hn7 : ds.length = 3 := hn
  match cs, hl, ds, hn7, hf, hr with
  | [c0, c1, c2], _, [x0, x1, x2], _, hf, hr =>
    have h0 : RdC enc Tryd.prog W 31 (([c0, c1, c2].drop 0).take (Tryd.prog.cellsOf 31)) x0 := hf 0 _ _ rfl rfl
    rw [c_uint] at h0
    have h1 : RdC enc Tryd.prog W 9 (([c0, c1, c2].drop 1).take (Tryd.prog.cellsOf 9)) x1 := hf 1 _ _ rfl rfl
    rw [c_string] at h1
    have h2 : RdC enc Tryd.prog W 3 (([c0, c1, c2].drop 2).take (Tryd.prog.cellsOf 3)) x2 := hf 2 _ _ rfl rfl
    rw [c_int] at h2
    have q1 : Rch Tryd.prog 9 x1 := Rch.field (i := 1) Tryd.underlying33 hr rfl rfl
    obtain ⟨kd, e0, _, w0⟩ := rdc_int (cs := [c0]) Tryd.underlying31 h0
    obtain ⟨s, e1, rfl, _⟩ := rdc_string (cs := [c1]) Tryd.underlying9 h1
    obtain ⟨n, e2, _, w2⟩ := rdc_int (cs := [c2]) Tryd.underlying3 h2
    simp only [List.cons.injEq, and_true] at e0 e1 e2
    subst e0; subst e1; subst e2
    have hu := u64_wf w0
    exact ⟨⟨kd, s, n⟩, rfl, ⟨hu.1, hu.2, q1.text, i63_wf w2⟩⟩
set_option maxRecDepth 8000 in
theorem rd_pacts {r : Reach} {b : Nat} {v : Value} {d : DataW H} (ho : Value.okWide Tryd.prog W r b 22 v) (h : RdC enc Tryd.prog W 22 v.cells.toList d) (hr : Rch Tryd.prog 22 d) :
    ∃ l, PAS W v l ∧ ∀ a ∈ l, GPA a := by
  obtain ⟨a, len, cap, rfl⟩ := okWide_slice Tryd.underlying22 ho
  obtain ⟨v, n, es, ds, e1, hcs, hn, hd, h9, hel, hx⟩ := rdc_slice Tryd.underlying22 c_pact (by omega) h
  simp [Value.cells] at e1
  subst e1
  obtain ⟨l, hl, hR⟩ := pick (R := fun e a => e = PAct.cells a ∧ GPA a) es fun e he => by
    obtain ⟨i, hi, rfl⟩ := List.getElem_of_mem he
    have hi2 : i < ds.length := by omega
    refine rdc_pact (hel i _ _ (List.getElem?_eq_getElem hi) (List.getElem?_eq_getElem hi2)) ?_
    rcases hx with h0 | ⟨rest, rfl⟩
    · omega
    · exact hr.elem Tryd.underlying22 (List.getElem_mem hi2)
  have hes : es = l.map PAct.cells := by
    refine List.ext_getElem (by simp; omega) fun i h1 h2 => ?_
    rw [List.getElem_map]
    exact (hR i es[i] _ (List.getElem?_eq_getElem h1) (List.getElem?_eq_getElem (by simpa using h2))).1
  refine ⟨l, ?_, fun a ha => ?_⟩
  · unfold PAS
    rw [← hes, hl, hn]; exact hcs
  · obtain ⟨i, hi, rfl⟩ := List.getElem_of_mem ha
    exact (hR i es[i] _ (List.getElem?_eq_getElem (by omega)) (List.getElem?_eq_getElem hi)).2
end
end Go.Proofs.YtoempaagpgoilaaDoor
/-
  THE WALK OF THE LAW PoolPlays, over DiskSays: whatever capacity and calls come in: the call returns true and changes nothing that was there. The library's table lies as the form says. Written by wip/gen/g39.py.
-/
namespace Go.Proofs.YtoempaagpgoilaaDoor
open Go.RowKit
set_option maxRecDepth 8000 in
/-- what both sides answer of a call of kind 0, with names for what comes of it -/
theorem plays_says0 {DK : World → Addr → (Nat → Bool) → AD → Prop} (H : DiskSays DK) (W : World) (d : AD) (HG : Hid (Good d)) (HP0 : Hid (Pow W)) :
    ∃ (d' : AD) (nn : ByteArray) (er : Int), Hid (Good d') ∧
    Hid (∀ w p F, DK w p F d → Ext noF W w F → Calls Tryd.prog 8 #[ptr p] w fun e w' => ∃ F', e = .returned (.tuple #[.string nn, .int .i64 er]) ∧ DK w' p F' d' ∧ Ext F w w' F') ∧
    Hid (∀ M w v, Foot M w.heap.size → RD (mask M w) v d → Calls Tryd.prog 9 #[v] w fun e w' => ∃ v', e = .returned (.tuple #[v', .string nn, .int .i64 er]) ∧ RD (mask M w') v' d' ∧ Below w.heap.size w w') :=
  ⟨d.takeR.1, d.takeR.2.1, d.takeR.2.2, Lib.hid (HG.out.take), Lib.hid fun w p F h hx => ptake_any H W w p F d h HG.out HP0.out hx, Lib.hid fun M w v h1 h2 => rtake_any M v d w h1 h2 HG.out⟩
set_option maxRecDepth 8000 in
/-- what both sides answer of a call of kind 1, with names for what comes of it -/
theorem plays_says1 {DK : World → Addr → (Nat → Bool) → AD → Prop} (H : DiskSays DK) (W : World) (d : AD) (nm : ByteArray) (hnm : nm.size ≤ 281474976710656) (HG : Hid (Good d)) (HP0 : Hid (Pow W)) :
    ∃ (d' : AD) (er : Int), Hid (Good d') ∧
    Hid (∀ w p F, DK w p F d → Ext noF W w F → Calls Tryd.prog 10 #[ptr p, .string nm] w fun e w' => ∃ F', e = .returned (.int .i64 er) ∧ DK w' p F' d' ∧ Ext F w w' F') ∧
    Hid (∀ M w v, Foot M w.heap.size → RD (mask M w) v d → Calls Tryd.prog 11 #[v, .string nm] w fun e w' => ∃ v', e = .returned (.tuple #[v', .int .i64 er]) ∧ RD (mask M w') v' d' ∧ Below w.heap.size w w') :=
  ⟨(d.giveR nm).1, (d.giveR nm).2, Lib.hid (HG.out.give nm), Lib.hid fun w p F h hx => pgive_any H W w p F d nm h HG.out HP0.out hx hnm, Lib.hid fun M w v h1 h2 => rgive_any M v d nm w h1 h2 HG.out⟩
set_option maxRecDepth 8000 in
/-- what both sides answer of a call of kind 2, with names for what comes of it -/
theorem plays_says2 {DK : World → Addr → (Nat → Bool) → AD → Prop} (H : DiskSays DK) (W : World) (d : AD) (HG : Hid (Good d)) (HP0 : Hid (Pow W)) :
    ∃ (d' : AD) (er : Int), Hid (Good d') ∧
    Hid (∀ w p F, DK w p F d → Ext noF W w F → Calls Tryd.prog 12 #[ptr p] w fun e w' => ∃ F', e = .returned (.int .i64 er) ∧ DK w' p F' d' ∧ Ext F w w' F') ∧
    Hid (∀ M w v, Foot M w.heap.size → RD (mask M w) v d → Calls Tryd.prog 13 #[v] w fun e w' => ∃ v', e = .returned (.tuple #[v', .int .i64 er]) ∧ RD (mask M w') v' d' ∧ Below w.heap.size w w') :=
  ⟨d.spareR.1, d.spareR.2, Lib.hid (HG.out.spare), Lib.hid fun w p F h hx => pspare_any H W w p F d h HG.out HP0.out hx, Lib.hid fun M w v h1 h2 => rspare_any M v d w h1 h2 HG.out⟩
set_option maxRecDepth 8000 in
/-- what both sides answer of a call of kind 3, with names for what comes of it -/
theorem plays_says3 {DK : World → Addr → (Nat → Bool) → AD → Prop} (H : DiskSays DK) (W : World) (d : AD) (HG : Hid (Good d)) (HP0 : Hid (Pow W)) :
    ∃ (d' : AD) (er : Int), Hid (Good d') ∧
    Hid (∀ w p F, DK w p F d → Ext noF W w F → Calls Tryd.prog 14 #[ptr p] w fun e w' => ∃ F', e = .returned (.int .i64 er) ∧ DK w' p F' d' ∧ Ext F w w' F') ∧
    Hid (∀ M w v, Foot M w.heap.size → RD (mask M w) v d → Calls Tryd.prog 15 #[v] w fun e w' => ∃ v', e = .returned (.tuple #[v', .int .i64 er]) ∧ RD (mask M w') v' d' ∧ Below w.heap.size w w') :=
  ⟨d.cleanR.1, d.cleanR.2, Lib.hid (HG.out.clean), Lib.hid fun w p F h hx => pclean_any H W w p F d h HG.out HP0.out hx, Lib.hid fun M w v h1 h2 => rclean_any M v d w h1 h2 HG.out⟩
set_option maxRecDepth 8000 in
/-- what both sides answer of a call of kind 4, with names for what comes of it -/
theorem plays_says4 {DK : World → Addr → (Nat → Bool) → AD → Prop} (H : DiskSays DK) (W : World) (d : AD) (nm : ByteArray) (k : Int) (hnm : nm.size ≤ 281474976710656) (hk63 : I63 k) (HG : Hid (Good d)) :
    ∃ (d' : AD) (er : Int), Hid (Good d') ∧
    Hid (∀ w p F, DK w p F d → Ext noF W w F → Calls Tryd.prog 16 #[ptr p, .string nm, .int .i64 k] w fun e w' => ∃ F', e = .returned (.int .i64 er) ∧ DK w' p F' d' ∧ Ext F w w' F') ∧
    Hid (∀ M w v, Foot M w.heap.size → RD (mask M w) v d → Calls Tryd.prog 17 #[v, .string nm, .int .i64 k] w fun e w' => ∃ v', e = .returned (.tuple #[v', .int .i64 er]) ∧ RD (mask M w') v' d' ∧ Below w.heap.size w w') :=
  ⟨(d.makeR nm k).1, (d.makeR nm k).2, Lib.hid (HG.out.make nm k), Lib.hid fun w p F h _ => H.make w p F d nm k h HG.out hnm hk63, Lib.hid fun M w v h1 h2 => rmake_any M v d nm k w h1 h2 (by have := HG.out.few; omega) (by have := HG.out.used; have := HG.out.cap1; omega) hnm hk63⟩
set_option maxRecDepth 8000 in
/-- what both sides answer of a call of kind 5, with names for what comes of it -/
theorem plays_says5 {DK : World → Addr → (Nat → Bool) → AD → Prop} (H : DiskSays DK) (W : World) (d : AD) (k : Int) (hk63 : I63 k) (HG : Hid (Good d)) :
    ∃ (d' : AD) (er : Int), Hid (Good d') ∧
    Hid (∀ w p F, DK w p F d → Ext noF W w F → Calls Tryd.prog 18 #[ptr p, .int .i64 k] w fun e w' => ∃ F', e = .returned (.int .i64 er) ∧ DK w' p F' d' ∧ Ext F w w' F') ∧
    Hid (∀ M w v, Foot M w.heap.size → RD (mask M w) v d → Calls Tryd.prog 19 #[v, .int .i64 k] w fun e w' => ∃ v', e = .returned (.tuple #[v', .int .i64 er]) ∧ RD (mask M w') v' d' ∧ Below w.heap.size w w') :=
  ⟨(d.failR k).1, (d.failR k).2, Lib.hid (HG.out.fail k hk63), Lib.hid fun w p F h _ => H.fail w p F d k h HG.out hk63, Lib.hid fun M w v h1 h2 => rfail_any M v d k w h1 h2⟩
set_option maxRecDepth 8000 in
set_option maxHeartbeats 8000000 in
theorem plays_walk {DK : World → Addr → (Nat → Bool) → AD → Prop} (H : DiskSays DK) (c : Int) (v : Value) (l : List PAct) (hc : I63 c) (W : World) (hl : PAS W v l) (hga : ∀ a ∈ l, GPA a) (hp0 : Pow W) :
    Calls Tryd.prog 3 #[.int .i64 c, v] W fun e w' => e = .returned (.bool true) ∧ Below W.heap.size W w' := by
  have hH := Lib.hid H
  have HA := Lib.hid hl
  have HGA := Lib.hid hga
  have HC := Lib.hid hc
  have HP0 := Lib.hid hp0
  obtain ⟨a, cap, rfl, hc1, hc2, _⟩ := hl.form
  obtain ⟨n, hn⟩ : ∃ n, l.length = n := ⟨_, rfl⟩
  rw [hn] at HA hc1 ⊢
  have HN := Lib.hid hn
  clear hl hga hc hn hp0
  by_cases hfew : (40 : Int) < (n : Int)
  · go_enter Tryd.func3, Tryd.ntmps3
    go_wp2_with (first
      | (go_at_call 5; (with_reducible refine (pawake_any hH.out _ HP0.out).mono ?_); rintro e w1 ⟨rfl, hb⟩; have HB1 := Lib.hid hb; clear hb))
    go_ret
    exact ⟨rfl, HB1.out⟩
  go_enter Tryd.func3, Tryd.ntmps3
  go_wp2_with (first
    | (go_at_call 6; (with_reducible refine (hH.out.new c _ HC.out).mono ?_); rintro e w1 ⟨p, F1, rfl, hk1, hx1⟩; have HK1 := Lib.hid hk1; have HX1 := Lib.hid hx1; clear hk1 hx1)
    | (go_at_call 7; (with_reducible refine (newD_run c HC.out F1 _).mono ?_); rintro e w2 ⟨v2, rfl, hr2, hb2⟩; obtain ⟨cs2, rfl, h62, h12⟩ := hr2.cells; have HP2 := Lib.hid (PS.start hH.out (hH.out.below HK1.out hb2) (Good.new c HC.out) hr2 (HX1.out.trans (Ext.below hb2))); have H62 := Lib.hid h62; have H12 := Lib.hid h12; clear hr2 hb2 h62 h12)
    | (refine wpList_store_row rfl 28 _ _ rfl w2.heap.size cs2 rfl rfl _ dz HP2.out.db.1 (by rw [H62.out]; exact disk_info) (by rw [H62.out]; rfl) H12.out ?_; have HP3 := Lib.hid (HP2.out.store hH.out H62.out).pt))
  obtain ⟨g, hg⟩ : ∃ g, w2.heap.size = g := ⟨_, rfl⟩
  rw [hg] at HP3 ⊢
  have HG3 := Lib.hid (Good.new c HC.out)
  clear HP2 hg
  go_loopw [7] (fun iv wr => ∃ (i : Nat) (d : AD) (cs : Array Value) (F M : Nat → Bool), iv = .int .i64 i ∧ i ≤ n ∧ Hid (PT DK W p g d d cs F M wr) ∧ Hid (Good d) ∧ Hid (cs.size = 6) ∧ Hid (cs.all (·.oneCell') = true)) (fun iv _ => n - (intOf iv).toNat)
  case atStart => exact ⟨0, _, _, _, _, rfl, by omega, HP3, HG3, H62, H12⟩
  case round =>
    obtain ⟨i, d, cs, F, M, rfl, hi, HP, HG, H6, H1⟩ := hrel
    by_cases hlt : (i : Int) < (n : Int)
    · obtain ⟨x, hx⟩ : ∃ x, l[i]? = some x := row_some (by rw [HN.out]; omega)
      obtain ⟨b, off, rfl, k0, k1, k2⟩ := HA.out.at_ i x hx
      have hgx := HGA.out x (List.mem_of_getElem? hx)
      obtain ⟨kd, nm, k⟩ := x
      have hkd := hgx.k0
      have HCX := Lib.hid (And.intro k0 (And.intro k1 k2))
      have hnm := hgx.name
      have hk63 := hgx.n
      simp only at HCX hkd hnm hk63
      have hkk : kd.tmod 6 = 0 ∨ kd.tmod 6 = 1 ∨ kd.tmod 6 = 2 ∨ kd.tmod 6 = 3 ∨ kd.tmod 6 = 4 ∨ kd.tmod 6 = 5 := by rw [Int.tmod_eq_emod_of_nonneg hkd]; omega
      obtain ⟨y0, y1, y2⟩ : wr.cell? ⟨b, off + i * 3, none⟩ = some (.int .u64 kd) ∧ wr.cell? ⟨b, off + i * 3 + 1, none⟩ = some (.string nm) ∧ wr.cell? ⟨b, off + i * 3 + 2, none⟩ = some (.int .i64 k) := ⟨HP.out.kinw _ _ HCX.out.1, HP.out.kinw _ _ HCX.out.2.1, HP.out.kinw _ _ HCX.out.2.2⟩
      clear k0 k1 k2 hgx hx hkd
      rcases hkk with hk | hk | hk | hk | hk | hk
      · obtain ⟨d', nn, er, HG2, HPR, HRF⟩ := plays_says0 H W d HG HP0
        go_wp2_with (first
          | (refine wpl_load_dbG (by rfl) _ rfl g rfl cs2 HP3.out.db ?_)
          | (refine wpl_load_dbG (by rfl) _ rfl g rfl cs HP1.out.db ?_)
          | (go_at_call 8; (with_reducible refine (HPR.out _ _ _ HP.out.dk HP.out.ex).mono ?_); rintro e w1 ⟨F1, rfl, hk1, hx1⟩; have HP1 := Lib.hid (HP.out.prog hH.out hk1 hx1); clear hk1 hx1)
          | (go_at_call 9; (with_reducible refine (HRF.out _ _ _ HP1.out.foot HP1.out.rd).mono ?_); rintro e w2 ⟨v2, rfl, hr2, hb⟩; obtain ⟨cs2, rfl, h62, h12⟩ := hr2.cells; have HP2 := Lib.hid (HP1.out.next hH.out hb); have HR2 := Lib.hid hr2; have HC6 := Lib.hid h62; have HC1 := Lib.hid h12; clear hr2 h62 h12)
          | (refine wpList_store_row rfl 28 _ _ rfl g cs2 rfl rfl _ cs HP2.out.db.1 (by rw [HC6.out]; exact disk_info) (by rw [HC6.out, H6.out]) HC1.out ?_; have HP3 := Lib.hid (HP2.out.put hH.out HR2.out HC6.out))
          | (go_at_call 20; (with_reducible refine (psame_any hH.out _ _ p _ d' HP3.out.dk HG2.out (HP3.out.rd.kin (unmask _ _)) (HP0.out.ext HP3.out.ex)).mono ?_); rintro e w4 ⟨rfl, hb⟩; have HP4 := Lib.hid (HP3.out.next hH.out hb); clear hb))
        exact ⟨⟨i + 1, d', cs2, _, _, by go_num, by omega, HP4, HG2, HC6, HC1⟩, by simp [intOf]; omega⟩
      · obtain ⟨d', er, HG2, HPR, HRF⟩ := plays_says1 H W d nm hnm HG HP0
        go_wp2_with (first
          | (go_at_call 10; (with_reducible refine (HPR.out _ _ _ HP.out.dk HP.out.ex).mono ?_); rintro e w1 ⟨F1, rfl, hk1, hx1⟩; have HP1 := Lib.hid (HP.out.prog hH.out hk1 hx1); clear hk1 hx1))
        have HPD := Lib.hid (HP1.out.next hH.out (Below.refl _ _).drew)
        refine wp_region_held_drew (S := (fun W' => Kin W W')) (by kernel_rfl) HPD.out.kinw (fun hS => ?_)
        refine wpAnyH_take (i := 1) (oi := ({ dst := some 73, op := Op.move (Operand.tmp 1), type := 22, pos := "law.go:56", after := #[], guard := none } : Oper)) (v := ?_) rfl (by kernel_rfl) (by kernel_rfl) (by kernel_rfl) (fun _ _ _ h => h) (Or.inl ⟨by rfl, ?_⟩) hS ?_
        rotate_left
        · (intro w hSw; (try dsimp only at hSw); go_simp; try with_reducible rfl)
        (try simp only [Act.put, List.setIfInBounds_toArray, List.set_cons_zero, List.set_cons_succ])
        refine wpAnyH_take (i := 2) (oi := ({ dst := some 74, op := Op.move (Operand.tmp 7), type := 3, pos := "law.go:56", after := #[], guard := none } : Oper)) (v := ?_) rfl (by kernel_rfl) (by kernel_rfl) (by kernel_rfl) (fun _ _ _ h => h) (Or.inl ⟨by rfl, ?_⟩) hS ?_
        rotate_left
        · (intro w hSw; (try dsimp only at hSw); go_simp; try with_reducible rfl)
        (try simp only [Act.put, List.setIfInBounds_toArray, List.set_cons_zero, List.set_cons_succ])
        refine wpAnyH_take (i := 3) (oi := ({ dst := some 75, op := Op.indexAddr 22 (Operand.tmp 73) (Operand.tmp 74), type := 0, pos := "law.go:56", after := #[{ on := 1, ground := Ground.data }, { on := 2, ground := Ground.data }], guard := none } : Oper)) (v := ?_) rfl (by kernel_rfl) (by kernel_rfl) (by kernel_rfl) (fun _ _ _ h => h) (Or.inl ⟨by rfl, ?_⟩) hS ?_
        rotate_left
        · (intro w hSw; (try dsimp only at hSw); go_simp; try with_reducible rfl)
        (try simp only [Act.put, List.setIfInBounds_toArray, List.set_cons_zero, List.set_cons_succ])
        refine wpAnyH_take (i := 4) (oi := ({ dst := some 76, op := Op.fieldAddr 33 (Operand.tmp 75) 1, type := 0, pos := "law.go:56", after := #[{ on := 3, ground := Ground.data }], guard := none } : Oper)) (v := ?_) rfl (by kernel_rfl) (by kernel_rfl) (by kernel_rfl) (fun _ _ _ h => h) (Or.inl ⟨by rfl, ?_⟩) hS ?_
        rotate_left
        · (intro w hSw; (try dsimp only at hSw); go_simp; try with_reducible rfl)
        (try simp only [Act.put, List.setIfInBounds_toArray, List.set_cons_zero, List.set_cons_succ])
        refine wpAnyH_take (i := 5) (oi := ({ dst := some 77, op := Op.load 9 (Operand.tmp 76), type := 9, pos := "law.go:56", after := #[{ on := 4, ground := Ground.data }], guard := none } : Oper)) (v := ?_) rfl (by kernel_rfl) (by kernel_rfl) (by kernel_rfl) (fun _ _ _ h => h) (Or.inl ⟨by rfl, ?_⟩) hS ?_
        rotate_left
        · (intro w hSw; (try dsimp only at hSw); obtain ⟨z0, z1, z2⟩ := HCX.out; have x0 := hSw _ _ z0; have x1 := hSw _ _ z1; have x2 := hSw _ _ z2; go_simp; try with_reducible rfl)
        (try simp only [Act.put, List.setIfInBounds_toArray, List.set_cons_zero, List.set_cons_succ])
        refine rg_one 0 ({ dst := some 72, op := Op.load 28 (Operand.tmp 6), type := 28, pos := "law.go:56", after := #[], guard := none } : Oper) (by kernel_rfl) rfl (fun K hK => ?_)
        rw [if_pos (by rfl)]; refine wp_load_row 28 (.tmp 6) rfl g rfl _ cs (0, 0) _ HPD.out.db.1 Tryd.underlying28 rfl HPD.out.db.info ?_
        refine hK.out _ _ ?_ (fun hS1 => ?_)
        · (first | exact hN | exact hS | exact hS.trans (Kin.below hb))
        clear hK K hS; have hS := hS1; clear hS1
        (try simp only [Act.put, List.setIfInBounds_toArray, List.set_cons_zero, List.set_cons_succ])
        refine rg_one 6 ({ dst := some 78, op := Op.call { callee := Callee.value (Operand.func 11), args := #[Operand.tmp 72, Operand.tmp 77], argTypes := #[28, 9] }, type := 39, pos := "law.go:56", after := #[{ on := 0, ground := Ground.data }, { on := 5, ground := Ground.data }], guard := none } : Oper) (by kernel_rfl) rfl (fun K hK => ?_)
        go_simp
        (go_at_call 11; (with_reducible refine (HRF.out _ _ _ HPD.out.foot HPD.out.rd).mono ?_); rintro e w2 ⟨v2, rfl, hr2, hb⟩; obtain ⟨cs2, rfl, h62, h12⟩ := hr2.cells; have HP2 := Lib.hid (HPD.out.next hH.out hb); have HR2 := Lib.hid hr2; have HC6 := Lib.hid h62; have HC1 := Lib.hid h12; clear hr2 h62 h12)
        refine hK.out _ _ ?_ (fun hS1 => ?_)
        · (first | exact hN | exact hS | exact hS.trans (Kin.below hb))
        clear hK K hS; have hS := hS1; clear hS1
        (try simp only [Act.put, List.setIfInBounds_toArray, List.set_cons_zero, List.set_cons_succ])
        refine wpAnyH_take (i := 7) (oi := ({ dst := some 71, op := Op.move (Operand.tmp 78), type := 39, pos := "law.go:56", after := #[{ on := 6, ground := Ground.data }], guard := none } : Oper)) (v := ?_) rfl (by kernel_rfl) (by kernel_rfl) (by kernel_rfl) (fun _ _ _ h => h) (Or.inl ⟨by rfl, ?_⟩) hS ?_
        rotate_left
        · (intro w hSw; (try dsimp only at hSw); go_simp; try with_reducible rfl)
        (try simp only [Act.put, List.setIfInBounds_toArray, List.set_cons_zero, List.set_cons_succ])
        refine wpAnyH_take (i := 8) (oi := ({ dst := some 79, op := Op.extract (Operand.tmp 71) 0, type := 28, pos := "law.go:56", after := #[{ on := 7, ground := Ground.data }], guard := none } : Oper)) (v := ?_) rfl (by kernel_rfl) (by kernel_rfl) (by kernel_rfl) (fun _ _ _ h => h) (Or.inl ⟨by rfl, ?_⟩) hS ?_
        rotate_left
        · (intro w hSw; (try dsimp only at hSw); go_simp; try with_reducible rfl)
        (try simp only [Act.put, List.setIfInBounds_toArray, List.set_cons_zero, List.set_cons_succ])
        refine wpAnyH_take (i := 9) (oi := ({ dst := some 80, op := Op.extract (Operand.tmp 71) 1, type := 30, pos := "law.go:56", after := #[{ on := 7, ground := Ground.data }, { on := 10, ground := Ground.gcOnly Departure.lateStores }], guard := none } : Oper)) (v := ?_) rfl (by kernel_rfl) (by kernel_rfl) (by kernel_rfl) (fun _ _ _ h => h) (Or.inl ⟨by rfl, ?_⟩) hS ?_
        rotate_left
        · (intro w hSw; (try dsimp only at hSw); go_simp; try with_reducible rfl)
        (try simp only [Act.put, List.setIfInBounds_toArray, List.set_cons_zero, List.set_cons_succ])
        refine rg_one 10 ({ dst := none, op := Op.store 28 (Operand.tmp 6) (Operand.tmp 79), type := 0, pos := "law.go:56", after := #[{ on := 8, ground := Ground.data }, { on := 6, ground := Ground.chain }, { on := 0, ground := Ground.phase }, { on := 1, ground := Ground.phase }, { on := 2, ground := Ground.phase }, { on := 3, ground := Ground.phase }, { on := 4, ground := Ground.phase }, { on := 5, ground := Ground.phase }, { on := 6, ground := Ground.phase }, { on := 7, ground := Ground.phase }, { on := 8, ground := Ground.phase }, { on := 9, ground := Ground.textOnly Departure.lateStores }], guard := none } : Oper) (by kernel_rfl) rfl (fun K hK => ?_)
        rw [if_pos (by rfl)]; refine wp_store_row 28 (.tmp 6) (.tmp 79) rfl g cs2 rfl rfl _ cs HP2.out.db.1 (by rw [HC6.out]; exact disk_info) (by rw [HC6.out, H6.out]) HC1.out ?_; have HP3 := Lib.hid (HP2.out.put hH.out HR2.out HC6.out); have hN := HP3.out.kinw
        refine hK.out _ _ ?_ (fun hS1 => ?_)
        · (first | exact hN | exact hS | exact hS.trans (Kin.below hb))
        clear hK K hS; have hS := hS1; clear hS1
        (try simp only [Act.put])
        refine wpAnyH_take (i := 11) (oi := ({ dst := some 9, op := Op.assign (Operand.tmp 80), type := 30, pos := "law.go:56", after := #[{ on := 9, ground := Ground.data }, { on := 10, ground := Ground.chain }, { on := 0, ground := Ground.phase }, { on := 1, ground := Ground.phase }, { on := 2, ground := Ground.phase }, { on := 3, ground := Ground.phase }, { on := 4, ground := Ground.phase }, { on := 5, ground := Ground.phase }, { on := 6, ground := Ground.phase }, { on := 7, ground := Ground.phase }, { on := 8, ground := Ground.phase }, { on := 9, ground := Ground.phase }, { on := 10, ground := Ground.phase }], guard := none } : Oper)) (v := ?_) rfl (by kernel_rfl) (by kernel_rfl) (by kernel_rfl) (fun _ _ _ h => h) (Or.inl ⟨by rfl, ?_⟩) hS ?_
        rotate_left
        · (intro w hSw; (try dsimp only at hSw); go_simp; try with_reducible rfl)
        (try simp only [Act.put, List.setIfInBounds_toArray, List.set_cons_zero, List.set_cons_succ])
        refine wpAnyH_done (by kernel_rfl) ?_ _
        clear hS hN
        go_wp2_with (first
          | (refine wpl_load_dbG (by rfl) _ rfl g rfl cs2 HP3.out.db ?_)
          | (go_at_call 20; (with_reducible refine (psame_any hH.out _ _ p _ d' HP3.out.dk HG2.out (HP3.out.rd.kin (unmask _ _)) (HP0.out.ext HP3.out.ex)).mono ?_); rintro e w4 ⟨rfl, hb⟩; have HP4 := Lib.hid (HP3.out.next hH.out hb); clear hb))
        exact ⟨⟨i + 1, d', cs2, _, _, by go_num, by omega, HP4, HG2, HC6, HC1⟩, by simp [intOf]; omega⟩
      · obtain ⟨d', er, HG2, HPR, HRF⟩ := plays_says2 H W d HG HP0
        go_wp2_with (first
          | (refine wpl_load_dbG (by rfl) _ rfl g rfl cs2 HP3.out.db ?_)
          | (refine wpl_load_dbG (by rfl) _ rfl g rfl cs HP1.out.db ?_)
          | (go_at_call 12; (with_reducible refine (HPR.out _ _ _ HP.out.dk HP.out.ex).mono ?_); rintro e w1 ⟨F1, rfl, hk1, hx1⟩; have HP1 := Lib.hid (HP.out.prog hH.out hk1 hx1); clear hk1 hx1)
          | (go_at_call 13; (with_reducible refine (HRF.out _ _ _ HP1.out.foot HP1.out.rd).mono ?_); rintro e w2 ⟨v2, rfl, hr2, hb⟩; obtain ⟨cs2, rfl, h62, h12⟩ := hr2.cells; have HP2 := Lib.hid (HP1.out.next hH.out hb); have HR2 := Lib.hid hr2; have HC6 := Lib.hid h62; have HC1 := Lib.hid h12; clear hr2 h62 h12)
          | (refine wpList_store_row rfl 28 _ _ rfl g cs2 rfl rfl _ cs HP2.out.db.1 (by rw [HC6.out]; exact disk_info) (by rw [HC6.out, H6.out]) HC1.out ?_; have HP3 := Lib.hid (HP2.out.put hH.out HR2.out HC6.out))
          | (go_at_call 20; (with_reducible refine (psame_any hH.out _ _ p _ d' HP3.out.dk HG2.out (HP3.out.rd.kin (unmask _ _)) (HP0.out.ext HP3.out.ex)).mono ?_); rintro e w4 ⟨rfl, hb⟩; have HP4 := Lib.hid (HP3.out.next hH.out hb); clear hb))
        exact ⟨⟨i + 1, d', cs2, _, _, by go_num, by omega, HP4, HG2, HC6, HC1⟩, by simp [intOf]; omega⟩
      · obtain ⟨d', er, HG2, HPR, HRF⟩ := plays_says3 H W d HG HP0
        go_wp2_with (first
          | (refine wpl_load_dbG (by rfl) _ rfl g rfl cs2 HP3.out.db ?_)
          | (refine wpl_load_dbG (by rfl) _ rfl g rfl cs HP1.out.db ?_)
          | (go_at_call 14; (with_reducible refine (HPR.out _ _ _ HP.out.dk HP.out.ex).mono ?_); rintro e w1 ⟨F1, rfl, hk1, hx1⟩; have HP1 := Lib.hid (HP.out.prog hH.out hk1 hx1); clear hk1 hx1)
          | (go_at_call 15; (with_reducible refine (HRF.out _ _ _ HP1.out.foot HP1.out.rd).mono ?_); rintro e w2 ⟨v2, rfl, hr2, hb⟩; obtain ⟨cs2, rfl, h62, h12⟩ := hr2.cells; have HP2 := Lib.hid (HP1.out.next hH.out hb); have HR2 := Lib.hid hr2; have HC6 := Lib.hid h62; have HC1 := Lib.hid h12; clear hr2 h62 h12)
          | (refine wpList_store_row rfl 28 _ _ rfl g cs2 rfl rfl _ cs HP2.out.db.1 (by rw [HC6.out]; exact disk_info) (by rw [HC6.out, H6.out]) HC1.out ?_; have HP3 := Lib.hid (HP2.out.put hH.out HR2.out HC6.out))
          | (go_at_call 20; (with_reducible refine (psame_any hH.out _ _ p _ d' HP3.out.dk HG2.out (HP3.out.rd.kin (unmask _ _)) (HP0.out.ext HP3.out.ex)).mono ?_); rintro e w4 ⟨rfl, hb⟩; have HP4 := Lib.hid (HP3.out.next hH.out hb); clear hb))
        exact ⟨⟨i + 1, d', cs2, _, _, by go_num, by omega, HP4, HG2, HC6, HC1⟩, by simp [intOf]; omega⟩
      · obtain ⟨d', er, HG2, HPR, HRF⟩ := plays_says4 H W d nm k hnm hk63 HG
        have HPD0 := Lib.hid (HP.out.next hH.out (Below.refl _ _).drew)
        go_wp2_with fail
        refine wp_region_held_drew (S := (fun W' => Kin W W')) (by kernel_rfl) HPD0.out.kinw (fun hS => ?_)
        refine wpAnyH_take (i := 0) (oi := ({ dst := some 101, op := Op.move (Operand.tmp 5), type := 24, pos := "law.go:64", after := #[], guard := none } : Oper)) (v := ?_) rfl (by kernel_rfl) (by kernel_rfl) (by kernel_rfl) (fun _ _ _ h => h) (Or.inl ⟨by rfl, ?_⟩) hS ?_
        rotate_left
        · (intro w hSw; (try dsimp only at hSw); go_simp; try with_reducible rfl)
        (try simp only [Act.put, List.setIfInBounds_toArray, List.set_cons_zero, List.set_cons_succ])
        refine wpAnyH_take (i := 1) (oi := ({ dst := some 102, op := Op.move (Operand.tmp 1), type := 22, pos := "law.go:64", after := #[], guard := none } : Oper)) (v := ?_) rfl (by kernel_rfl) (by kernel_rfl) (by kernel_rfl) (fun _ _ _ h => h) (Or.inl ⟨by rfl, ?_⟩) hS ?_
        rotate_left
        · (intro w hSw; (try dsimp only at hSw); go_simp; try with_reducible rfl)
        (try simp only [Act.put, List.setIfInBounds_toArray, List.set_cons_zero, List.set_cons_succ])
        refine wpAnyH_take (i := 2) (oi := ({ dst := some 103, op := Op.move (Operand.tmp 7), type := 3, pos := "law.go:64", after := #[], guard := none } : Oper)) (v := ?_) rfl (by kernel_rfl) (by kernel_rfl) (by kernel_rfl) (fun _ _ _ h => h) (Or.inl ⟨by rfl, ?_⟩) hS ?_
        rotate_left
        · (intro w hSw; (try dsimp only at hSw); go_simp; try with_reducible rfl)
        (try simp only [Act.put, List.setIfInBounds_toArray, List.set_cons_zero, List.set_cons_succ])
        refine wpAnyH_take (i := 3) (oi := ({ dst := some 104, op := Op.indexAddr 22 (Operand.tmp 102) (Operand.tmp 103), type := 0, pos := "law.go:64", after := #[{ on := 1, ground := Ground.data }, { on := 2, ground := Ground.data }], guard := none } : Oper)) (v := ?_) rfl (by kernel_rfl) (by kernel_rfl) (by kernel_rfl) (fun _ _ _ h => h) (Or.inl ⟨by rfl, ?_⟩) hS ?_
        rotate_left
        · (intro w hSw; (try dsimp only at hSw); go_simp; try with_reducible rfl)
        (try simp only [Act.put, List.setIfInBounds_toArray, List.set_cons_zero, List.set_cons_succ])
        refine wpAnyH_take (i := 4) (oi := ({ dst := some 105, op := Op.fieldAddr 33 (Operand.tmp 104) 1, type := 0, pos := "law.go:64", after := #[{ on := 3, ground := Ground.data }], guard := none } : Oper)) (v := ?_) rfl (by kernel_rfl) (by kernel_rfl) (by kernel_rfl) (fun _ _ _ h => h) (Or.inl ⟨by rfl, ?_⟩) hS ?_
        rotate_left
        · (intro w hSw; (try dsimp only at hSw); go_simp; try with_reducible rfl)
        (try simp only [Act.put, List.setIfInBounds_toArray, List.set_cons_zero, List.set_cons_succ])
        refine wpAnyH_take (i := 5) (oi := ({ dst := some 106, op := Op.load 9 (Operand.tmp 105), type := 9, pos := "law.go:64", after := #[{ on := 4, ground := Ground.data }], guard := none } : Oper)) (v := ?_) rfl (by kernel_rfl) (by kernel_rfl) (by kernel_rfl) (fun _ _ _ h => h) (Or.inl ⟨by rfl, ?_⟩) hS ?_
        rotate_left
        · (intro w hSw; (try dsimp only at hSw); obtain ⟨z0, z1, z2⟩ := HCX.out; have x0 := hSw _ _ z0; have x1 := hSw _ _ z1; have x2 := hSw _ _ z2; go_simp; try with_reducible rfl)
        (try simp only [Act.put, List.setIfInBounds_toArray, List.set_cons_zero, List.set_cons_succ])
        refine wpAnyH_take (i := 6) (oi := ({ dst := some 107, op := Op.move (Operand.tmp 1), type := 22, pos := "law.go:64", after := #[], guard := none } : Oper)) (v := ?_) rfl (by kernel_rfl) (by kernel_rfl) (by kernel_rfl) (fun _ _ _ h => h) (Or.inl ⟨by rfl, ?_⟩) hS ?_
        rotate_left
        · (intro w hSw; (try dsimp only at hSw); go_simp; try with_reducible rfl)
        (try simp only [Act.put, List.setIfInBounds_toArray, List.set_cons_zero, List.set_cons_succ])
        refine wpAnyH_take (i := 7) (oi := ({ dst := some 108, op := Op.move (Operand.tmp 7), type := 3, pos := "law.go:64", after := #[], guard := none } : Oper)) (v := ?_) rfl (by kernel_rfl) (by kernel_rfl) (by kernel_rfl) (fun _ _ _ h => h) (Or.inl ⟨by rfl, ?_⟩) hS ?_
        rotate_left
        · (intro w hSw; (try dsimp only at hSw); go_simp; try with_reducible rfl)
        (try simp only [Act.put, List.setIfInBounds_toArray, List.set_cons_zero, List.set_cons_succ])
        refine wpAnyH_take (i := 8) (oi := ({ dst := some 109, op := Op.indexAddr 22 (Operand.tmp 107) (Operand.tmp 108), type := 0, pos := "law.go:64", after := #[{ on := 6, ground := Ground.data }, { on := 7, ground := Ground.data }], guard := none } : Oper)) (v := ?_) rfl (by kernel_rfl) (by kernel_rfl) (by kernel_rfl) (fun _ _ _ h => h) (Or.inl ⟨by rfl, ?_⟩) hS ?_
        rotate_left
        · (intro w hSw; (try dsimp only at hSw); go_simp; try with_reducible rfl)
        (try simp only [Act.put, List.setIfInBounds_toArray, List.set_cons_zero, List.set_cons_succ])
        refine wpAnyH_take (i := 9) (oi := ({ dst := some 110, op := Op.fieldAddr 33 (Operand.tmp 109) 2, type := 0, pos := "law.go:64", after := #[{ on := 8, ground := Ground.data }], guard := none } : Oper)) (v := ?_) rfl (by kernel_rfl) (by kernel_rfl) (by kernel_rfl) (fun _ _ _ h => h) (Or.inl ⟨by rfl, ?_⟩) hS ?_
        rotate_left
        · (intro w hSw; (try dsimp only at hSw); go_simp; try with_reducible rfl)
        (try simp only [Act.put, List.setIfInBounds_toArray, List.set_cons_zero, List.set_cons_succ])
        refine wpAnyH_take (i := 10) (oi := ({ dst := some 111, op := Op.load 3 (Operand.tmp 110), type := 3, pos := "law.go:64", after := #[{ on := 9, ground := Ground.data }], guard := none } : Oper)) (v := ?_) rfl (by kernel_rfl) (by kernel_rfl) (by kernel_rfl) (fun _ _ _ h => h) (Or.inl ⟨by rfl, ?_⟩) hS ?_
        rotate_left
        · (intro w hSw; (try dsimp only at hSw); obtain ⟨z0, z1, z2⟩ := HCX.out; have x0 := hSw _ _ z0; have x1 := hSw _ _ z1; have x2 := hSw _ _ z2; go_simp; try with_reducible rfl)
        (try simp only [Act.put, List.setIfInBounds_toArray, List.set_cons_zero, List.set_cons_succ])
        refine rg_one 11 ({ dst := some 112, op := Op.call { callee := Callee.value (Operand.func 16), args := #[Operand.tmp 101, Operand.tmp 106, Operand.tmp 111], argTypes := #[24, 9, 3] }, type := 30, pos := "law.go:64", after := #[{ on := 0, ground := Ground.data }, { on := 5, ground := Ground.data }, { on := 10, ground := Ground.data }], guard := none } : Oper) (by kernel_rfl) rfl (fun K hK => ?_)
        go_simp
        go_at_call 16; (with_reducible refine (HPR.out _ _ _ HPD0.out.dk HPD0.out.ex).mono ?_); rintro e w1 ⟨F1, rfl, hk1, hx1⟩; have HP1 := Lib.hid (HPD0.out.prog hH.out hk1 hx1); clear hk1 hx1; have hN := HP1.out.kinw
        refine hK.out _ _ ?_ (fun hS1 => ?_)
        · (first | exact hN | exact hS)
        clear hK K hS; have hS := hS1; clear hS1
        (try simp only [Act.put, List.setIfInBounds_toArray, List.set_cons_zero, List.set_cons_succ])
        refine wpAnyH_take (i := 12) (oi := ({ dst := some 8, op := Op.assign (Operand.tmp 112), type := 30, pos := "law.go:64", after := #[{ on := 11, ground := Ground.data }, { on := 11, ground := Ground.chain }, { on := 0, ground := Ground.phase }, { on := 1, ground := Ground.phase }, { on := 2, ground := Ground.phase }, { on := 3, ground := Ground.phase }, { on := 4, ground := Ground.phase }, { on := 5, ground := Ground.phase }, { on := 6, ground := Ground.phase }, { on := 7, ground := Ground.phase }, { on := 8, ground := Ground.phase }, { on := 9, ground := Ground.phase }, { on := 10, ground := Ground.phase }, { on := 11, ground := Ground.phase }], guard := none } : Oper)) (v := ?_) rfl (by kernel_rfl) (by kernel_rfl) (by kernel_rfl) (fun _ _ _ h => h) (Or.inl ⟨by rfl, ?_⟩) hS ?_
        rotate_left
        · (intro w hSw; (try dsimp only at hSw); go_simp; try with_reducible rfl)
        (try simp only [Act.put, List.setIfInBounds_toArray, List.set_cons_zero, List.set_cons_succ])
        refine wpAnyH_done (by kernel_rfl) ?_ _
        clear hS hN
        go_wp2_with fail
        have HPD := Lib.hid (HP1.out.next hH.out (Below.refl _ _).drew)
        refine wp_region_held_drew (S := (fun W' => Kin W W')) (by kernel_rfl) HPD.out.kinw (fun hS => ?_)
        refine wpAnyH_take (i := 1) (oi := ({ dst := some 115, op := Op.move (Operand.tmp 1), type := 22, pos := "law.go:65", after := #[], guard := none } : Oper)) (v := ?_) rfl (by kernel_rfl) (by kernel_rfl) (by kernel_rfl) (fun _ _ _ h => h) (Or.inl ⟨by rfl, ?_⟩) hS ?_
        rotate_left
        · (intro w hSw; (try dsimp only at hSw); go_simp; try with_reducible rfl)
        (try simp only [Act.put, List.setIfInBounds_toArray, List.set_cons_zero, List.set_cons_succ])
        refine wpAnyH_take (i := 2) (oi := ({ dst := some 116, op := Op.move (Operand.tmp 7), type := 3, pos := "law.go:65", after := #[], guard := none } : Oper)) (v := ?_) rfl (by kernel_rfl) (by kernel_rfl) (by kernel_rfl) (fun _ _ _ h => h) (Or.inl ⟨by rfl, ?_⟩) hS ?_
        rotate_left
        · (intro w hSw; (try dsimp only at hSw); go_simp; try with_reducible rfl)
        (try simp only [Act.put, List.setIfInBounds_toArray, List.set_cons_zero, List.set_cons_succ])
        refine wpAnyH_take (i := 3) (oi := ({ dst := some 117, op := Op.indexAddr 22 (Operand.tmp 115) (Operand.tmp 116), type := 0, pos := "law.go:65", after := #[{ on := 1, ground := Ground.data }, { on := 2, ground := Ground.data }], guard := none } : Oper)) (v := ?_) rfl (by kernel_rfl) (by kernel_rfl) (by kernel_rfl) (fun _ _ _ h => h) (Or.inl ⟨by rfl, ?_⟩) hS ?_
        rotate_left
        · (intro w hSw; (try dsimp only at hSw); go_simp; try with_reducible rfl)
        (try simp only [Act.put, List.setIfInBounds_toArray, List.set_cons_zero, List.set_cons_succ])
        refine wpAnyH_take (i := 4) (oi := ({ dst := some 118, op := Op.fieldAddr 33 (Operand.tmp 117) 1, type := 0, pos := "law.go:65", after := #[{ on := 3, ground := Ground.data }], guard := none } : Oper)) (v := ?_) rfl (by kernel_rfl) (by kernel_rfl) (by kernel_rfl) (fun _ _ _ h => h) (Or.inl ⟨by rfl, ?_⟩) hS ?_
        rotate_left
        · (intro w hSw; (try dsimp only at hSw); go_simp; try with_reducible rfl)
        (try simp only [Act.put, List.setIfInBounds_toArray, List.set_cons_zero, List.set_cons_succ])
        refine wpAnyH_take (i := 5) (oi := ({ dst := some 119, op := Op.load 9 (Operand.tmp 118), type := 9, pos := "law.go:65", after := #[{ on := 4, ground := Ground.data }], guard := none } : Oper)) (v := ?_) rfl (by kernel_rfl) (by kernel_rfl) (by kernel_rfl) (fun _ _ _ h => h) (Or.inl ⟨by rfl, ?_⟩) hS ?_
        rotate_left
        · (intro w hSw; (try dsimp only at hSw); obtain ⟨z0, z1, z2⟩ := HCX.out; have x0 := hSw _ _ z0; have x1 := hSw _ _ z1; have x2 := hSw _ _ z2; go_simp; try with_reducible rfl)
        (try simp only [Act.put, List.setIfInBounds_toArray, List.set_cons_zero, List.set_cons_succ])
        refine wpAnyH_take (i := 6) (oi := ({ dst := some 120, op := Op.move (Operand.tmp 1), type := 22, pos := "law.go:65", after := #[], guard := none } : Oper)) (v := ?_) rfl (by kernel_rfl) (by kernel_rfl) (by kernel_rfl) (fun _ _ _ h => h) (Or.inl ⟨by rfl, ?_⟩) hS ?_
        rotate_left
        · (intro w hSw; (try dsimp only at hSw); go_simp; try with_reducible rfl)
        (try simp only [Act.put, List.setIfInBounds_toArray, List.set_cons_zero, List.set_cons_succ])
        refine wpAnyH_take (i := 7) (oi := ({ dst := some 121, op := Op.move (Operand.tmp 7), type := 3, pos := "law.go:65", after := #[], guard := none } : Oper)) (v := ?_) rfl (by kernel_rfl) (by kernel_rfl) (by kernel_rfl) (fun _ _ _ h => h) (Or.inl ⟨by rfl, ?_⟩) hS ?_
        rotate_left
        · (intro w hSw; (try dsimp only at hSw); go_simp; try with_reducible rfl)
        (try simp only [Act.put, List.setIfInBounds_toArray, List.set_cons_zero, List.set_cons_succ])
        refine wpAnyH_take (i := 8) (oi := ({ dst := some 122, op := Op.indexAddr 22 (Operand.tmp 120) (Operand.tmp 121), type := 0, pos := "law.go:65", after := #[{ on := 6, ground := Ground.data }, { on := 7, ground := Ground.data }], guard := none } : Oper)) (v := ?_) rfl (by kernel_rfl) (by kernel_rfl) (by kernel_rfl) (fun _ _ _ h => h) (Or.inl ⟨by rfl, ?_⟩) hS ?_
        rotate_left
        · (intro w hSw; (try dsimp only at hSw); go_simp; try with_reducible rfl)
        (try simp only [Act.put, List.setIfInBounds_toArray, List.set_cons_zero, List.set_cons_succ])
        refine wpAnyH_take (i := 9) (oi := ({ dst := some 123, op := Op.fieldAddr 33 (Operand.tmp 122) 2, type := 0, pos := "law.go:65", after := #[{ on := 8, ground := Ground.data }], guard := none } : Oper)) (v := ?_) rfl (by kernel_rfl) (by kernel_rfl) (by kernel_rfl) (fun _ _ _ h => h) (Or.inl ⟨by rfl, ?_⟩) hS ?_
        rotate_left
        · (intro w hSw; (try dsimp only at hSw); go_simp; try with_reducible rfl)
        (try simp only [Act.put, List.setIfInBounds_toArray, List.set_cons_zero, List.set_cons_succ])
        refine wpAnyH_take (i := 10) (oi := ({ dst := some 124, op := Op.load 3 (Operand.tmp 123), type := 3, pos := "law.go:65", after := #[{ on := 9, ground := Ground.data }], guard := none } : Oper)) (v := ?_) rfl (by kernel_rfl) (by kernel_rfl) (by kernel_rfl) (fun _ _ _ h => h) (Or.inl ⟨by rfl, ?_⟩) hS ?_
        rotate_left
        · (intro w hSw; (try dsimp only at hSw); obtain ⟨z0, z1, z2⟩ := HCX.out; have x0 := hSw _ _ z0; have x1 := hSw _ _ z1; have x2 := hSw _ _ z2; go_simp; try with_reducible rfl)
        (try simp only [Act.put, List.setIfInBounds_toArray, List.set_cons_zero, List.set_cons_succ])
        refine rg_one 0 ({ dst := some 114, op := Op.load 28 (Operand.tmp 6), type := 28, pos := "law.go:65", after := #[], guard := none } : Oper) (by kernel_rfl) rfl (fun K hK => ?_)
        rw [if_pos (by rfl)]; refine wp_load_row 28 (.tmp 6) rfl g rfl _ cs (0, 0) _ HPD.out.db.1 Tryd.underlying28 rfl HPD.out.db.info ?_
        refine hK.out _ _ ?_ (fun hS1 => ?_)
        · (first | exact hN | exact hS | exact hS.trans (Kin.below hb))
        clear hK K hS; have hS := hS1; clear hS1
        (try simp only [Act.put, List.setIfInBounds_toArray, List.set_cons_zero, List.set_cons_succ])
        refine rg_one 11 ({ dst := some 125, op := Op.call { callee := Callee.value (Operand.func 17), args := #[Operand.tmp 114, Operand.tmp 119, Operand.tmp 124], argTypes := #[28, 9, 3] }, type := 39, pos := "law.go:65", after := #[{ on := 0, ground := Ground.data }, { on := 5, ground := Ground.data }, { on := 10, ground := Ground.data }], guard := none } : Oper) (by kernel_rfl) rfl (fun K hK => ?_)
        go_simp
        (go_at_call 17; (with_reducible refine (HRF.out _ _ _ HPD.out.foot HPD.out.rd).mono ?_); rintro e w2 ⟨v2, rfl, hr2, hb⟩; obtain ⟨cs2, rfl, h62, h12⟩ := hr2.cells; have HP2 := Lib.hid (HPD.out.next hH.out hb); have HR2 := Lib.hid hr2; have HC6 := Lib.hid h62; have HC1 := Lib.hid h12; clear hr2 h62 h12)
        refine hK.out _ _ ?_ (fun hS1 => ?_)
        · (first | exact hN | exact hS | exact hS.trans (Kin.below hb))
        clear hK K hS; have hS := hS1; clear hS1
        (try simp only [Act.put, List.setIfInBounds_toArray, List.set_cons_zero, List.set_cons_succ])
        refine wpAnyH_take (i := 12) (oi := ({ dst := some 113, op := Op.move (Operand.tmp 125), type := 39, pos := "law.go:65", after := #[{ on := 11, ground := Ground.data }], guard := none } : Oper)) (v := ?_) rfl (by kernel_rfl) (by kernel_rfl) (by kernel_rfl) (fun _ _ _ h => h) (Or.inl ⟨by rfl, ?_⟩) hS ?_
        rotate_left
        · (intro w hSw; (try dsimp only at hSw); go_simp; try with_reducible rfl)
        (try simp only [Act.put, List.setIfInBounds_toArray, List.set_cons_zero, List.set_cons_succ])
        refine wpAnyH_take (i := 13) (oi := ({ dst := some 126, op := Op.extract (Operand.tmp 113) 0, type := 28, pos := "law.go:65", after := #[{ on := 12, ground := Ground.data }], guard := none } : Oper)) (v := ?_) rfl (by kernel_rfl) (by kernel_rfl) (by kernel_rfl) (fun _ _ _ h => h) (Or.inl ⟨by rfl, ?_⟩) hS ?_
        rotate_left
        · (intro w hSw; (try dsimp only at hSw); go_simp; try with_reducible rfl)
        (try simp only [Act.put, List.setIfInBounds_toArray, List.set_cons_zero, List.set_cons_succ])
        refine wpAnyH_take (i := 14) (oi := ({ dst := some 127, op := Op.extract (Operand.tmp 113) 1, type := 30, pos := "law.go:65", after := #[{ on := 12, ground := Ground.data }, { on := 15, ground := Ground.gcOnly Departure.lateStores }], guard := none } : Oper)) (v := ?_) rfl (by kernel_rfl) (by kernel_rfl) (by kernel_rfl) (fun _ _ _ h => h) (Or.inl ⟨by rfl, ?_⟩) hS ?_
        rotate_left
        · (intro w hSw; (try dsimp only at hSw); go_simp; try with_reducible rfl)
        (try simp only [Act.put, List.setIfInBounds_toArray, List.set_cons_zero, List.set_cons_succ])
        refine rg_one 15 ({ dst := none, op := Op.store 28 (Operand.tmp 6) (Operand.tmp 126), type := 0, pos := "law.go:65", after := #[{ on := 13, ground := Ground.data }, { on := 11, ground := Ground.chain }, { on := 0, ground := Ground.phase }, { on := 1, ground := Ground.phase }, { on := 2, ground := Ground.phase }, { on := 3, ground := Ground.phase }, { on := 4, ground := Ground.phase }, { on := 5, ground := Ground.phase }, { on := 6, ground := Ground.phase }, { on := 7, ground := Ground.phase }, { on := 8, ground := Ground.phase }, { on := 9, ground := Ground.phase }, { on := 10, ground := Ground.phase }, { on := 11, ground := Ground.phase }, { on := 12, ground := Ground.phase }, { on := 13, ground := Ground.phase }, { on := 14, ground := Ground.textOnly Departure.lateStores }], guard := none } : Oper) (by kernel_rfl) rfl (fun K hK => ?_)
        rw [if_pos (by rfl)]; refine wp_store_row 28 (.tmp 6) (.tmp 126) rfl g cs2 rfl rfl _ cs HP2.out.db.1 (by rw [HC6.out]; exact disk_info) (by rw [HC6.out, H6.out]) HC1.out ?_; have HP3 := Lib.hid (HP2.out.put hH.out HR2.out HC6.out); have hN := HP3.out.kinw
        refine hK.out _ _ ?_ (fun hS1 => ?_)
        · (first | exact hN | exact hS | exact hS.trans (Kin.below hb))
        clear hK K hS; have hS := hS1; clear hS1
        (try simp only [Act.put])
        refine wpAnyH_take (i := 16) (oi := ({ dst := some 9, op := Op.assign (Operand.tmp 127), type := 30, pos := "law.go:65", after := #[{ on := 14, ground := Ground.data }, { on := 15, ground := Ground.chain }, { on := 0, ground := Ground.phase }, { on := 1, ground := Ground.phase }, { on := 2, ground := Ground.phase }, { on := 3, ground := Ground.phase }, { on := 4, ground := Ground.phase }, { on := 5, ground := Ground.phase }, { on := 6, ground := Ground.phase }, { on := 7, ground := Ground.phase }, { on := 8, ground := Ground.phase }, { on := 9, ground := Ground.phase }, { on := 10, ground := Ground.phase }, { on := 11, ground := Ground.phase }, { on := 12, ground := Ground.phase }, { on := 13, ground := Ground.phase }, { on := 14, ground := Ground.phase }, { on := 15, ground := Ground.phase }], guard := none } : Oper)) (v := ?_) rfl (by kernel_rfl) (by kernel_rfl) (by kernel_rfl) (fun _ _ _ h => h) (Or.inl ⟨by rfl, ?_⟩) hS ?_
        rotate_left
        · (intro w hSw; (try dsimp only at hSw); go_simp; try with_reducible rfl)
        (try simp only [Act.put, List.setIfInBounds_toArray, List.set_cons_zero, List.set_cons_succ])
        refine wpAnyH_done (by kernel_rfl) ?_ _
        clear hS hN
        go_wp2_with (first
          | (refine wpl_load_dbG (by rfl) _ rfl g rfl cs2 HP3.out.db ?_)
          | (go_at_call 20; (with_reducible refine (psame_any hH.out _ _ p _ d' HP3.out.dk HG2.out (HP3.out.rd.kin (unmask _ _)) (HP0.out.ext HP3.out.ex)).mono ?_); rintro e w4 ⟨rfl, hb⟩; have HP4 := Lib.hid (HP3.out.next hH.out hb); clear hb))
        exact ⟨⟨i + 1, d', cs2, _, _, by go_num, by omega, HP4, HG2, HC6, HC1⟩, by simp [intOf]; omega⟩
      · obtain ⟨d', er, HG2, HPR, HRF⟩ := plays_says5 H W d k hk63 HG
        go_wp2_with (first
          | (go_at_call 18; (with_reducible refine (HPR.out _ _ _ HP.out.dk HP.out.ex).mono ?_); rintro e w1 ⟨F1, rfl, hk1, hx1⟩; have HP1 := Lib.hid (HP.out.prog hH.out hk1 hx1); clear hk1 hx1))
        have HPD := Lib.hid (HP1.out.next hH.out (Below.refl _ _).drew)
        refine wp_region_held_drew (S := (fun W' => Kin W W')) (by kernel_rfl) HPD.out.kinw (fun hS => ?_)
        refine wpAnyH_take (i := 1) (oi := ({ dst := some 41, op := Op.move (Operand.tmp 1), type := 22, pos := "law.go:68", after := #[], guard := none } : Oper)) (v := ?_) rfl (by kernel_rfl) (by kernel_rfl) (by kernel_rfl) (fun _ _ _ h => h) (Or.inl ⟨by rfl, ?_⟩) hS ?_
        rotate_left
        · (intro w hSw; (try dsimp only at hSw); go_simp; try with_reducible rfl)
        (try simp only [Act.put, List.setIfInBounds_toArray, List.set_cons_zero, List.set_cons_succ])
        refine wpAnyH_take (i := 2) (oi := ({ dst := some 42, op := Op.move (Operand.tmp 7), type := 3, pos := "law.go:68", after := #[], guard := none } : Oper)) (v := ?_) rfl (by kernel_rfl) (by kernel_rfl) (by kernel_rfl) (fun _ _ _ h => h) (Or.inl ⟨by rfl, ?_⟩) hS ?_
        rotate_left
        · (intro w hSw; (try dsimp only at hSw); go_simp; try with_reducible rfl)
        (try simp only [Act.put, List.setIfInBounds_toArray, List.set_cons_zero, List.set_cons_succ])
        refine wpAnyH_take (i := 3) (oi := ({ dst := some 43, op := Op.indexAddr 22 (Operand.tmp 41) (Operand.tmp 42), type := 0, pos := "law.go:68", after := #[{ on := 1, ground := Ground.data }, { on := 2, ground := Ground.data }], guard := none } : Oper)) (v := ?_) rfl (by kernel_rfl) (by kernel_rfl) (by kernel_rfl) (fun _ _ _ h => h) (Or.inl ⟨by rfl, ?_⟩) hS ?_
        rotate_left
        · (intro w hSw; (try dsimp only at hSw); go_simp; try with_reducible rfl)
        (try simp only [Act.put, List.setIfInBounds_toArray, List.set_cons_zero, List.set_cons_succ])
        refine wpAnyH_take (i := 4) (oi := ({ dst := some 44, op := Op.fieldAddr 33 (Operand.tmp 43) 2, type := 0, pos := "law.go:68", after := #[{ on := 3, ground := Ground.data }], guard := none } : Oper)) (v := ?_) rfl (by kernel_rfl) (by kernel_rfl) (by kernel_rfl) (fun _ _ _ h => h) (Or.inl ⟨by rfl, ?_⟩) hS ?_
        rotate_left
        · (intro w hSw; (try dsimp only at hSw); go_simp; try with_reducible rfl)
        (try simp only [Act.put, List.setIfInBounds_toArray, List.set_cons_zero, List.set_cons_succ])
        refine wpAnyH_take (i := 5) (oi := ({ dst := some 45, op := Op.load 3 (Operand.tmp 44), type := 3, pos := "law.go:68", after := #[{ on := 4, ground := Ground.data }], guard := none } : Oper)) (v := ?_) rfl (by kernel_rfl) (by kernel_rfl) (by kernel_rfl) (fun _ _ _ h => h) (Or.inl ⟨by rfl, ?_⟩) hS ?_
        rotate_left
        · (intro w hSw; (try dsimp only at hSw); obtain ⟨z0, z1, z2⟩ := HCX.out; have x0 := hSw _ _ z0; have x1 := hSw _ _ z1; have x2 := hSw _ _ z2; go_simp; try with_reducible rfl)
        (try simp only [Act.put, List.setIfInBounds_toArray, List.set_cons_zero, List.set_cons_succ])
        refine rg_one 0 ({ dst := some 40, op := Op.load 28 (Operand.tmp 6), type := 28, pos := "law.go:68", after := #[], guard := none } : Oper) (by kernel_rfl) rfl (fun K hK => ?_)
        rw [if_pos (by rfl)]; refine wp_load_row 28 (.tmp 6) rfl g rfl _ cs (0, 0) _ HPD.out.db.1 Tryd.underlying28 rfl HPD.out.db.info ?_
        refine hK.out _ _ ?_ (fun hS1 => ?_)
        · (first | exact hN | exact hS | exact hS.trans (Kin.below hb))
        clear hK K hS; have hS := hS1; clear hS1
        (try simp only [Act.put, List.setIfInBounds_toArray, List.set_cons_zero, List.set_cons_succ])
        refine rg_one 6 ({ dst := some 46, op := Op.call { callee := Callee.value (Operand.func 19), args := #[Operand.tmp 40, Operand.tmp 45], argTypes := #[28, 3] }, type := 39, pos := "law.go:68", after := #[{ on := 0, ground := Ground.data }, { on := 5, ground := Ground.data }], guard := none } : Oper) (by kernel_rfl) rfl (fun K hK => ?_)
        go_simp
        (go_at_call 19; (with_reducible refine (HRF.out _ _ _ HPD.out.foot HPD.out.rd).mono ?_); rintro e w2 ⟨v2, rfl, hr2, hb⟩; obtain ⟨cs2, rfl, h62, h12⟩ := hr2.cells; have HP2 := Lib.hid (HPD.out.next hH.out hb); have HR2 := Lib.hid hr2; have HC6 := Lib.hid h62; have HC1 := Lib.hid h12; clear hr2 h62 h12)
        refine hK.out _ _ ?_ (fun hS1 => ?_)
        · (first | exact hN | exact hS | exact hS.trans (Kin.below hb))
        clear hK K hS; have hS := hS1; clear hS1
        (try simp only [Act.put, List.setIfInBounds_toArray, List.set_cons_zero, List.set_cons_succ])
        refine wpAnyH_take (i := 7) (oi := ({ dst := some 39, op := Op.move (Operand.tmp 46), type := 39, pos := "law.go:68", after := #[{ on := 6, ground := Ground.data }], guard := none } : Oper)) (v := ?_) rfl (by kernel_rfl) (by kernel_rfl) (by kernel_rfl) (fun _ _ _ h => h) (Or.inl ⟨by rfl, ?_⟩) hS ?_
        rotate_left
        · (intro w hSw; (try dsimp only at hSw); go_simp; try with_reducible rfl)
        (try simp only [Act.put, List.setIfInBounds_toArray, List.set_cons_zero, List.set_cons_succ])
        refine wpAnyH_take (i := 8) (oi := ({ dst := some 47, op := Op.extract (Operand.tmp 39) 0, type := 28, pos := "law.go:68", after := #[{ on := 7, ground := Ground.data }], guard := none } : Oper)) (v := ?_) rfl (by kernel_rfl) (by kernel_rfl) (by kernel_rfl) (fun _ _ _ h => h) (Or.inl ⟨by rfl, ?_⟩) hS ?_
        rotate_left
        · (intro w hSw; (try dsimp only at hSw); go_simp; try with_reducible rfl)
        (try simp only [Act.put, List.setIfInBounds_toArray, List.set_cons_zero, List.set_cons_succ])
        refine wpAnyH_take (i := 9) (oi := ({ dst := some 48, op := Op.extract (Operand.tmp 39) 1, type := 30, pos := "law.go:68", after := #[{ on := 7, ground := Ground.data }, { on := 10, ground := Ground.gcOnly Departure.lateStores }], guard := none } : Oper)) (v := ?_) rfl (by kernel_rfl) (by kernel_rfl) (by kernel_rfl) (fun _ _ _ h => h) (Or.inl ⟨by rfl, ?_⟩) hS ?_
        rotate_left
        · (intro w hSw; (try dsimp only at hSw); go_simp; try with_reducible rfl)
        (try simp only [Act.put, List.setIfInBounds_toArray, List.set_cons_zero, List.set_cons_succ])
        refine rg_one 10 ({ dst := none, op := Op.store 28 (Operand.tmp 6) (Operand.tmp 47), type := 0, pos := "law.go:68", after := #[{ on := 8, ground := Ground.data }, { on := 6, ground := Ground.chain }, { on := 0, ground := Ground.phase }, { on := 1, ground := Ground.phase }, { on := 2, ground := Ground.phase }, { on := 3, ground := Ground.phase }, { on := 4, ground := Ground.phase }, { on := 5, ground := Ground.phase }, { on := 6, ground := Ground.phase }, { on := 7, ground := Ground.phase }, { on := 8, ground := Ground.phase }, { on := 9, ground := Ground.textOnly Departure.lateStores }], guard := none } : Oper) (by kernel_rfl) rfl (fun K hK => ?_)
        rw [if_pos (by rfl)]; refine wp_store_row 28 (.tmp 6) (.tmp 47) rfl g cs2 rfl rfl _ cs HP2.out.db.1 (by rw [HC6.out]; exact disk_info) (by rw [HC6.out, H6.out]) HC1.out ?_; have HP3 := Lib.hid (HP2.out.put hH.out HR2.out HC6.out); have hN := HP3.out.kinw
        refine hK.out _ _ ?_ (fun hS1 => ?_)
        · (first | exact hN | exact hS | exact hS.trans (Kin.below hb))
        clear hK K hS; have hS := hS1; clear hS1
        (try simp only [Act.put])
        refine wpAnyH_take (i := 11) (oi := ({ dst := some 9, op := Op.assign (Operand.tmp 48), type := 30, pos := "law.go:68", after := #[{ on := 9, ground := Ground.data }, { on := 10, ground := Ground.chain }, { on := 0, ground := Ground.phase }, { on := 1, ground := Ground.phase }, { on := 2, ground := Ground.phase }, { on := 3, ground := Ground.phase }, { on := 4, ground := Ground.phase }, { on := 5, ground := Ground.phase }, { on := 6, ground := Ground.phase }, { on := 7, ground := Ground.phase }, { on := 8, ground := Ground.phase }, { on := 9, ground := Ground.phase }, { on := 10, ground := Ground.phase }], guard := none } : Oper)) (v := ?_) rfl (by kernel_rfl) (by kernel_rfl) (by kernel_rfl) (fun _ _ _ h => h) (Or.inl ⟨by rfl, ?_⟩) hS ?_
        rotate_left
        · (intro w hSw; (try dsimp only at hSw); go_simp; try with_reducible rfl)
        (try simp only [Act.put, List.setIfInBounds_toArray, List.set_cons_zero, List.set_cons_succ])
        refine wpAnyH_done (by kernel_rfl) ?_ _
        clear hS hN
        go_wp2_with (first
          | (refine wpl_load_dbG (by rfl) _ rfl g rfl cs2 HP3.out.db ?_)
          | (go_at_call 20; (with_reducible refine (psame_any hH.out _ _ p _ d' HP3.out.dk HG2.out (HP3.out.rd.kin (unmask _ _)) (HP0.out.ext HP3.out.ex)).mono ?_); rintro e w4 ⟨rfl, hb⟩; have HP4 := Lib.hid (HP3.out.next hH.out hb); clear hb))
        exact ⟨⟨i + 1, d', cs2, _, _, by go_num, by omega, HP4, HG2, HC6, HC1⟩, by simp [intOf]; omega⟩
    · have hq : i = n := by omega
      subst hq
      go_wp2_with (first
        | (go_at_call 5; (with_reducible refine (pawake_any hH.out _ (HP0.out.ext HP.out.ex)).mono ?_); rintro e w1 ⟨rfl, hb⟩; have HB1 := Lib.hid (HP.out.ex.trans (Ext.below hb)).none; clear hb))
      go_ret
      exact ⟨rfl, HB1.out⟩
end Go.Proofs.YtoempaagpgoilaaDoor
