/-
  TEXTS JOINED: OpenB, Keep, Slices, ScanOpen, Region, Below, SpanNear. Each one's own words stand at its head.
-/
import Derived.Test.YtepaghohojomeaaDoorJ0
import Derived.Deep.Slices
import Derived.WalkKit
import Derived.Deep.RegionHeld3
import Derived.Deep.WholeRow
import Derived.Lib.SmallJoins
/-
  HOW ARGUMENTS ARE OPENED that are made of bytes, sectors (XOpenS) and crashes. No condition.
-/
namespace Go.Proofs.YtepaghohojomeaaDoor
open Go.RowKit Go.ChangeShapes Go.WideShapes
section
variable {H : Type} {enc : TypeId × Value → H} {W : World}
theorem c_crash : Tryd.prog.cellsOf 45 = 3 := by kernel_rfl
set_option maxRecDepth 8000 in
theorem rdc_crash {cs : List Value} {d : DataW H} (h : RdC enc Tryd.prog W 45 cs d) :
    ∃ vk klen kb torn cut, cs = [vk, .int .i64 torn, .int .i64 cut] ∧ RI .u8 W vk klen kb ∧ Bytes kb ∧ I63 torn ∧ I63 cut := by
  obtain ⟨ds, rfl, hn, hl, hf⟩ := rdc_struct Tryd.underlying45 h
  rw [c_crash] at hl
  have hn3 : ds.length = 3 := hn
  match cs, hl, ds, hn3, hf with
  | [c0, c1, c2], _, [x0, x1, x2], _, hf =>
    have h0 : RdC enc Tryd.prog W 43 (([c0, c1, c2].drop 0).take (Tryd.prog.cellsOf 43)) x0 := hf 0 _ _ rfl rfl
    rw [c_bytes] at h0
    have h1 : RdC enc Tryd.prog W 3 (([c0, c1, c2].drop 1).take (Tryd.prog.cellsOf 3)) x1 := hf 1 _ _ rfl rfl
    rw [c_int] at h1
    have h2 : RdC enc Tryd.prog W 3 (([c0, c1, c2].drop 2).take (Tryd.prog.cellsOf 3)) x2 := hf 2 _ _ rfl rfl
    rw [c_int] at h2
    obtain ⟨vk, klen, kb, e0, r0, b0⟩ := rdc_bytes (cs := [c0]) h0
    obtain ⟨torn, e1, _, w1⟩ := rdc_int (cs := [c1]) Tryd.underlying3 h1
    obtain ⟨cut, e2, _, w2⟩ := rdc_int (cs := [c2]) Tryd.underlying3 h2
    simp only [List.cons.injEq, and_true] at e0 e1 e2
    subst e0; subst e1; subst e2
    exact ⟨_, klen, kb, torn, cut, rfl, r0, b0, i63_wf w1, i63_wf w2⟩
set_option maxRecDepth 8000 in
theorem rd_crash {r : Reach} {b : Nat} {v : Value} {d : DataW H} (ho : Value.okWide Tryd.prog W r b 45 v) (h : RdC enc Tryd.prog W 45 v.cells.toList d) :
    ∃ ak klen ck kb torn cut, v = .agg #[.slice ak klen ck, .int .i64 torn, .int .i64 cut] ∧ RI .u8 W (.slice ak klen ck) klen kb ∧ Bytes kb ∧ I63 torn ∧ I63 cut := by
  obtain ⟨cs, rfl, _⟩ := okWide_struct Tryd.underlying45 ho
  obtain ⟨vk, klen, kb, torn, cut, e, r0, b0, w1, w2⟩ := rdc_crash h
  obtain ⟨ak, ck, rfl, _⟩ := id r0
  refine ⟨ak, klen, ck, kb, torn, cut, ?_, r0, b0, w1, w2⟩
  have e2 : cs.toList = _ := e
  rw [← Array.toArray_toList (xs := cs), e2]
end
end Go.Proofs.YtepaghohojomeaaDoor
/-
  A ROW THAT A CALL MADE STAYS where nothing that was there is changed. Nothing here speaks of the program's functions. No condition.
-/
namespace Go.Proofs.YtepaghohojomeaaDoor
open Go.RowKit
theorem own_keep {w w' : World} {base : Nat} {e : TypeId} {size : Nat} {v : Value} {n : Nat} {xs : List Value} (h : w.ownsRow base e size v n xs) (hb : Below w.heap.size w w') : w'.ownsRow base e size v n xs := by
  refine ⟨h.1, ?_⟩
  rcases h.2 with h2 | ⟨g, cap, cur, hv, hg, hcur, h3⟩
  · exact .inl h2
  · exact .inr ⟨g, cap, cur, hv, hg, by rw [hb.block g (Array.getElem?_eq_some_iff.1 hcur).1]; exact hcur, h3⟩
theorem drew_below (w : World) (m : Nat) : Below w.heap.size w (w.drewN m) := ⟨rfl, rfl, rfl, Nat.le_refl _, fun _ _ => rfl⟩
end Go.Proofs.YtepaghohojomeaaDoor
/-
  SLICES OF SLICES OF INTEGERS: what lies where (RV: elements of one cell each, whatever they are; RL: each of them a slice of integers), cuts of them, a list of slices that a call makes by append (UL), and the step of the walk for it. Nothing here speaks of the program's functions. No condition.
-/
namespace Go.Proofs.YtepaghohojomeaaDoor
open Go.RowKit
/-- in the world w the slice v has n elements of one cell each, the values es -/
def RV (w : World) (v : Value) (n : Nat) (es : List Value) : Prop :=
  ∃ a cap, v = .slice a n cap ∧ es.length = n ∧ n ≤ cap ∧ cap ≤ 9223372036854775807 ∧ (a = none → cap = 0) ∧
    (0 < n → ∃ b off, a = some ⟨b, off, none⟩ ∧ ∀ j, j < n → w.cell? ⟨b, off + j, none⟩ = es[j]?)
theorem RV.length {w : World} {v : Value} {n : Nat} {es : List Value} (h : RV w v n es) : es.length = n := h.choose_spec.choose_spec.2.1
theorem RV.le {w : World} {v : Value} {n : Nat} {es : List Value} (h : RV w v n es) : n ≤ 9223372036854775807 := by
  obtain ⟨_, _, _, _, h1, h2, _⟩ := h; omega
theorem RV.keep {w w' : World} (hb : Below w.heap.size w w') {v : Value} {n : Nat} {es : List Value} (h : RV w v n es) : RV w' v n es := by
  obtain ⟨a, cap, rfl, h1, h2, h3, h4, hc⟩ := h
  refine ⟨a, cap, rfl, h1, h2, h3, h4, fun h0 => ?_⟩
  obtain ⟨b, off, rfl, hcell⟩ := hc h0
  refine ⟨b, off, rfl, fun j hj => ?_⟩
  have hj2 : es[j]? = some es[j] := List.getElem?_eq_getElem (by omega)
  have := hcell j hj
  rw [hj2] at this ⊢
  exact cell_keep hb this
theorem RV.nil (w : World) : RV w (.slice none 0 0) 0 [] := ⟨none, 0, rfl, rfl, Nat.le_refl _, by omega, fun _ => rfl, fun h => absurd h (by omega)⟩
theorem RV.own {w : World} {base : Nat} {e : TypeId} {v : Value} {n : Nat} {es : List Value} (h : w.ownsRow base e 1 v n es) : RV w v n es := by
  have hl : es.length = n := by have := h.1; omega
  rcases h.2 with ⟨rfl, rfl⟩ | ⟨g, cap, cur, rfl, _, _, hnc, hcm, _⟩
  · exact ⟨none, 0, rfl, hl, Nat.le_refl _, by omega, fun _ => rfl, fun h => absurd h (by omega)⟩
  · refine ⟨_, cap, rfl, hl, hnc, by unfold maxLen at hcm; omega, fun h => by simp at h, fun _ => ⟨g, 0, rfl, fun j hj => ?_⟩⟩
    rw [Nat.zero_add, h.cellAt j (by omega)]
theorem RV.at_ {w : World} {a : Option Addr} {n cap : Nat} {es : List Value} (h : RV w (.slice a n cap) n es) (h0 : 0 < n) :
    ∃ b off, a = some ⟨b, off, none⟩ ∧ ∀ j, j < n → w.cell? ⟨b, off + j, none⟩ = es[j]? := by
  obtain ⟨a', cap', e, _, _, _, _, hc⟩ := h
  simp only [Value.slice.injEq, true_and] at e
  obtain ⟨rfl, rfl⟩ := e
  exact hc h0
/-- in the world w the slice v has n elements, slices of integers that lie somewhere, the numbers ls -/
def RL (k : IntKind) (w : World) (v : Value) (n : Nat) (ls : List (List Int)) : Prop :=
  ∃ es, RV w v n es ∧ ls.length = n ∧ ∀ (j : Nat) (e : Value) (l : List Int), es[j]? = some e → ls[j]? = some l → RI k w e l.length l
theorem RL.length {k : IntKind} {w : World} {v : Value} {n : Nat} {ls : List (List Int)} (h : RL k w v n ls) : ls.length = n := h.choose_spec.2.1
theorem RL.le {k : IntKind} {w : World} {v : Value} {n : Nat} {ls : List (List Int)} (h : RL k w v n ls) : n ≤ 9223372036854775807 := h.choose_spec.1.le
theorem RL.keep {k : IntKind} {w w' : World} (hb : Below w.heap.size w w') {v : Value} {n : Nat} {ls : List (List Int)} (h : RL k w v n ls) : RL k w' v n ls := by
  obtain ⟨es, h1, h2, h3⟩ := h
  exact ⟨es, h1.keep hb, h2, fun j e l he hl => (h3 j e l he hl).keep hb⟩
theorem RL.nil (k : IntKind) (w : World) : RL k w (.slice none 0 0) 0 [] := ⟨[], RV.nil w, rfl, fun j e l he => by simp at he⟩
theorem RL.form {k : IntKind} {w : World} {v : Value} {n : Nat} {ls : List (List Int)} (h : RL k w v n ls) : ∃ a cap, v = .slice a n cap ∧ n ≤ cap ∧ cap ≤ 9223372036854775807 ∧ (a = none → cap = 0) := by
  obtain ⟨_, ⟨a, cap, h1, _, h2, h3, h4, _⟩, _⟩ := h; exact ⟨a, cap, h1, h2, h3, h4⟩
/-- where a list that isn't empty lies, and what each of its elements is -/
theorem RL.at_ {k : IntKind} {w : World} {a : Option Addr} {n cap : Nat} {ls : List (List Int)} (h : RL k w (.slice a n cap) n ls) (h0 : 0 < n) :
    ∃ b off, a = some ⟨b, off, none⟩ ∧ ∀ j, j < n → ∃ x c, w.cell? ⟨b, off + j, none⟩ = some (.slice x (ls.getD j []).length c) ∧ RI k w (.slice x (ls.getD j []).length c) (ls.getD j []).length (ls.getD j []) := by
  obtain ⟨es, h1, h2, h3⟩ := h
  obtain ⟨b, off, rfl, hc⟩ := h1.at_ h0
  refine ⟨b, off, rfl, fun j hj => ?_⟩
  have he : es[j]? = some (es[j]'(by rw [h1.length]; exact hj)) := List.getElem?_eq_getElem _
  have hl : ls[j]? = some (ls.getD j []) := by simp [List.getD, h2, hj]
  have hr := h3 j _ _ he hl
  obtain ⟨x, c, hx, _⟩ := id hr
  refine ⟨x, c, ?_, ?_⟩
  · rw [hc j hj, he, hx]
  · rw [← hx]; exact hr
/-- cut: from m on, the first d of them -/
theorem RV.mid {w : World} {a : Option Addr} {n cap : Nat} {es : List Value} (h : RV w (.slice a n cap) n es) (m d : Nat) (hm : m + d ≤ n) (c : Nat) (hc : c = cap - m) : RV w (sliced a m (m + d) cap 1) d ((es.drop m).take d) := by
  obtain ⟨a', cap', e, h1, h2, h3, h4, hcell⟩ := h
  simp only [Value.slice.injEq, true_and] at e
  obtain ⟨rfl, rfl⟩ := e
  have hl : ((es.drop m).take d).length = d := by simp; omega
  unfold sliced
  rw [show m + d - m = d from by omega]
  by_cases h0 : cap = m
  · rw [if_pos h0]
    exact ⟨a, cap - m, rfl, hl, by omega, by omega, fun _ => by omega, fun h => absurd h (by omega)⟩
  · rw [if_neg h0]
    cases a with
    | none => have := h4 rfl; omega
    | some x =>
      refine ⟨some (x.add (m * 1)), cap - m, rfl, hl, by omega, by omega, fun h => by simp at h, fun hp => ?_⟩
      obtain ⟨b, off, hx, hcl⟩ := hcell (by omega)
      obtain rfl := Option.some.inj hx
      refine ⟨b, off + m, by simp [Addr.add], fun j hj => ?_⟩
      have := hcl (m + j) (by omega)
      rw [Nat.add_assoc, this]
      simp [hj]
theorem RL.mid {k : IntKind} {w : World} {a : Option Addr} {n cap : Nat} {ls : List (List Int)} (h : RL k w (.slice a n cap) n ls) (m d : Nat) (hm : m + d ≤ n) : RL k w (sliced a m (m + d) cap 1) d ((ls.drop m).take d) := by
  obtain ⟨es, h1, h2, h3⟩ := h
  refine ⟨_, h1.mid m d hm _ rfl, by simp; omega, fun j e l he hl => ?_⟩
  have hj : j < d := by
    have := (List.getElem?_eq_some_iff.1 hl).1; simp at this; omega
  rw [List.getElem?_take, if_pos hj, List.getElem?_drop] at he hl
  exact h3 (m + j) e l he hl
/-- the walk's spelling of such a cut, where m isn't the capacity -/
theorem RI.mid' {k : IntKind} {w : World} {a : Option Addr} {len cap : Nat} {zs : List Int} (h : RI k w (.slice a len cap) len zs) (m d : Nat) (hm : m + d ≤ len) :
    RI k w (.slice (Option.map (fun x => x.add m) a) (m + d - m) (cap - m)) d ((zs.drop m).take d) := by
  rw [Nat.add_sub_cancel_left]
  obtain ⟨a', cap', e, h1, h2, h3, h4, hc⟩ := h
  simp only [Value.slice.injEq, true_and] at e
  obtain ⟨rfl, rfl⟩ := e
  refine ⟨_, _, rfl, by simp; omega, by omega, by omega, fun h => ?_, fun h0 => ?_⟩
  · cases a with
    | none => have := h4 rfl; omega
    | some x => simp at h
  · obtain ⟨b, off, rfl, hcell⟩ := hc (by omega)
    refine ⟨b, off + m, by simp [Addr.add], fun j hj => ?_⟩
    rw [Nat.add_assoc, hcell (m + j) (by omega)]
    simp [List.getD, hj]
theorem RL.mid' {k : IntKind} {w : World} {a : Option Addr} {n cap : Nat} {ls : List (List Int)} (h : RL k w (.slice a n cap) n ls) (m d : Nat) (hm : m + d ≤ n) (hne : ¬ cap = m) :
    RL k w (.slice (Option.map (fun x => x.add m) a) (m + d - m) (cap - m)) d ((ls.drop m).take d) := by
  rw [Nat.add_sub_cancel_left]
  have := h.mid m d hm
  unfold sliced at this
  rw [if_neg hne, show m + d - m = d from by omega] at this
  simpa using this
/-- a block that a list under way, whose elements have type t, surely isn't in -/
def Apart (w : World) (base : Nat) (t : TypeId) (g : Nat) : Prop := g < base ∨ ∃ c t' fr, w.heap[g]? = some (.cells c t' fr) ∧ t' ≠ t
theorem Apart.ne {w : World} {base : Nat} {t : TypeId} {g : Nat} (h : Apart w base t g) {v : Value} {n : Nat} {es : List Value} (ho : w.ownsRow base t 1 v n es) : some g ≠ v.ownBlock := by
  rcases ho.2 with ⟨rfl, _⟩ | ⟨q, cap, cur, rfl, hq, hcur, _⟩
  · simp [Value.ownBlock]
  · simp only [Value.ownBlock]
    intro e
    obtain rfl := Option.some.inj e
    rcases h with h | ⟨c, t', fr, hc, ht⟩
    · exact Nat.lt_irrefl _ (Nat.lt_of_lt_of_le h hq)
    · rw [hcur] at hc
      simp only [Option.some.injEq, Obj.cells.injEq] at hc
      exact ht hc.2.1.symm
theorem RI.over {k : IntKind} {w w' : World} {v : Value} {n : Nat} {zs : List Int} (h : RI k w v n zs) (row : Option Nat) (hg : w.grownBy w' row) (hne : 0 < n → ∀ g, v.ownBlock = some g → some g ≠ row) : RI k w' v n zs := by
  obtain ⟨a, cap, rfl, h1, h2, h3, h4, hc⟩ := h
  refine ⟨a, cap, rfl, h1, h2, h3, h4, fun h0 => ?_⟩
  obtain ⟨b, off, rfl, hcell⟩ := hc h0
  exact ⟨b, off, rfl, fun j hj => hg.cell (hcell j hj) (hne h0 b rfl)⟩
/-- a list that a call makes: its row is the call's own, each element lies elsewhere -/
def UL (k : IntKind) (w : World) (base : Nat) (t : TypeId) (v : Value) (n : Nat) (ls : List (List Int)) : Prop :=
  ∃ es, w.ownsRow base t 1 v n es ∧ ls.length = n ∧ ∀ (j : Nat) (e : Value) (l : List Int), es[j]? = some e → ls[j]? = some l → RI k w e l.length l ∧ (0 < l.length → ∀ g, e.ownBlock = some g → Apart w base t g)
theorem UL.rl {k : IntKind} {w : World} {base : Nat} {t : TypeId} {v : Value} {n : Nat} {ls : List (List Int)} (h : UL k w base t v n ls) : RL k w v n ls := by
  obtain ⟨es, h1, h2, h3⟩ := h
  exact ⟨es, RV.own h1, h2, fun j e l he hl => (h3 j e l he hl).1⟩
theorem UL.none (k : IntKind) (w : World) (base : Nat) (t : TypeId) : UL k w base t (.slice Option.none 0 0) 0 [] := ⟨[], World.ownsRow_nil _ _ _ _, rfl, fun j e l he => by simp at he⟩
theorem Apart.keep {w w' : World} {base : Nat} {t : TypeId} {g : Nat} (h : Apart w base t g) (hb : Below w.heap.size w w') : Apart w' base t g := by
  rcases h with h | ⟨c, t', fr, hc, ht⟩
  · exact .inl h
  · exact .inr ⟨c, t', fr, by rw [hb.block g (Array.getElem?_eq_some_iff.1 hc).1]; exact hc, ht⟩
theorem UL.keep {k : IntKind} {w w' : World} {base : Nat} {t : TypeId} {v : Value} {n : Nat} {ls : List (List Int)} (h : UL k w base t v n ls) (hb : Below w.heap.size w w') : UL k w' base t v n ls := by
  obtain ⟨es, h1, h2, h3⟩ := h
  exact ⟨es, own_keep h1 hb, h2, fun j e l he hl => ⟨(h3 j e l he hl).1.keep hb, fun h0 g hg => ((h3 j e l he hl).2 h0 g hg).keep hb⟩⟩
/-- a row that a call made lies apart from a list of slices -/
theorem own_apart {w : World} {base base' : Nat} {e t : TypeId} {v : Value} {n : Nat} {xs : List Value} (h : w.ownsRow base e 1 v n xs) (hne : e ≠ t) : ∀ g, v.ownBlock = some g → Apart w base' t g := fun g hg => by
  rcases h.2 with ⟨rfl, _⟩ | ⟨q, cap, cur, rfl, _, hcur, _⟩
  · simp [Value.ownBlock] at hg
  · simp only [Value.ownBlock, Option.some.injEq] at hg
    subst hg
    exact .inr ⟨cur, e, _, hcur, hne⟩
theorem UL.append {k : IntKind} {w w' : World} {base : Nat} {t : TypeId} {v v' : Value} {n : Nat} {es : List Value} {ls : List (List Int)} (h1 : w.ownsRow base t 1 v n es) (h2 : ls.length = n)
    (h3 : ∀ (j : Nat) (e : Value) (l : List Int), es[j]? = some e → ls[j]? = some l → RI k w e l.length l ∧ (0 < l.length → ∀ g, e.ownBlock = some g → Apart w base t g))
    {y : Value} {l : List Int} (hy : RI k w y l.length l) (hya : 0 < l.length → ∀ g, y.ownBlock = some g → Apart w base t g)
    (ho : w'.ownsRow base t 1 v' (n + 1) (es ++ [y])) (hg : w.grownBy w' v.ownBlock) : UL k w' base t v' (n + 1) (ls ++ [l]) := by
  have hel : es.length = n := by have := h1.1; omega
  have hap : ∀ g, Apart w base t g → Apart w' base t g := fun g ha => by
    rcases id ha with h | ⟨c, t', fr, hc, ht⟩
    · exact .inl h
    · exact .inr ⟨c, t', fr, by rw [hg.block g (Array.getElem?_eq_some_iff.1 hc).1 (ha.ne h1)]; exact hc, ht⟩
  refine ⟨_, ho, by simp [h2], fun j e m he hm => ?_⟩
  by_cases hj : j < n
  · rw [List.getElem?_append_left (by omega)] at he hm
    obtain ⟨ha, hb⟩ := h3 j e m he hm
    exact ⟨ha.over _ hg fun h0 g hgg => (hb h0 g hgg).ne h1, fun h0 g hgg => hap g (hb h0 g hgg)⟩
  · rw [List.getElem?_append_right (by omega)] at he hm
    rw [hel] at he; rw [h2] at hm
    cases hk : j - n with
    | zero =>
      rw [hk] at he hm
      simp at he hm
      subst he hm
      exact ⟨hy.over _ hg fun h0 g hgg => (hya h0 g hgg).ne h1, fun h0 g hgg => hap g (hya h0 g hgg)⟩
    | succ q => rw [hk] at he; simp at he
section
variable {P : Program}
/-- where the row lies behind an append: where it was, or in a new block -/
theorem append_where (w : World) (base : Nat) (t ty e : TypeId) (i : TypeInfo) (z : Value) (size bytes : Nat) (ht : P.underlying t = some (.slice e)) (hi : P.info? e = some i) (hz : i.zero = some z)
    (hsize : i.size = size) (hby : i.bytes = bytes) (v : Value) (n : Nat) (xs : List Value) (hown : w.ownsRow base e size v n xs)
    (a : Addr) (m c : Nat) (news : List Value) (hl : news.length = m * size) (hnews : ∀ j u, news[j]? = some u → w.cell? (a.add j) = some u) (h1 : ∀ u ∈ news, u.oneCell' = true)
    (h63 : n + m ≤ maxLen) (hbytes : ((n + m) + (n + m) / 4 + 192) * bytes ≤ 281474976710656) {v' : Value} {w' : World} (hrun : (Builtin.append_ #[t, t] ty #[v, .slice (some a) m c]).run P w = .ok v' w') :
    v'.ownBlock = v.ownBlock ∨ v'.ownBlock = some w.heap.size := by
  subst hsize hby
  have hsmall : n + m ≤ 9223372036854775807 := by simp only [maxLen] at h63; omega
  rcases hown.2 with ⟨rfl, rfl⟩ | ⟨g, cap, cur, rfl, hbg, hg, hnc, hcm, hcs, htake⟩
  · by_cases hm : m = 0
    · subst hm
      have hn : news = [] := List.eq_nil_of_length_eq_zero (by simpa using hl)
      subst hn
      have : (Builtin.append_ #[t, t] ty #[.slice none 0 0, .slice (some a) 0 c]).run P w = .ok (.slice none 0 0) w := by
        simp [Builtin.append_, run_underlying ht, sizeOf, typeInfo, hi, Builtin.lenOf, Builtin.firstCells, loadCells, loadCellsFrom]
      rw [this] at hrun
      obtain ⟨rfl, _⟩ : Value.slice none 0 0 = v' ∧ w = w' := by simpa using hrun
      exact .inl rfl
    · have hr := run_append_nil (P := P) w t ty e i z ht hi hz a m c news hl hnews (by omega) (by omega) (by have hb := hbytes; simp only [Nat.zero_add] at hb; exact Nat.le_trans (Nat.mul_le_mul_right _ (by omega)) hb)
      rw [hr] at hrun
      simp only [Result.ok.injEq] at hrun
      exact .inr (by rw [← hrun.1]; rfl)
  · by_cases hroom : n + m ≤ cap
    · have hfit : n * i.size + news.length ≤ cur.size := by rw [hl, hcs, ← Nat.add_mul]; exact Nat.mul_le_mul_right _ hroom
      have hr := run_append_room (P := P) w t ty e i ht hi g n cap cur hg a m c news hl hnews h1 hroom hfit
      rw [hr] at hrun
      simp only [Result.ok.injEq] at hrun
      exact .inl (by rw [← hrun.1]; rfl)
    · have holds : ∀ j u, xs[j]? = some u → w.cell? ((⟨g, 0, none⟩ : Addr).add j) = some u := hown.cells (g := g) rfl
      have hr := run_append_grow (P := P) w t ty e i z ht hi hz ⟨g, 0, none⟩ n cap xs hown.1 holds a m c news hl hnews (by omega) (by omega) (growslice_fits_wide (by omega) hbytes)
      rw [hr] at hrun
      simp only [Result.ok.injEq] at hrun
      exact .inr (by rw [← hrun.1]; rfl)
/-- append of a slice's numbers to a row that the call made, as one operation; where it lies then -/
theorem wp_appn {w : World} {o : Oper} {a : Act} {K : Act → World → Prop} {Q : Exit → Act → World → Prop} (s x : Operand) (t : TypeId) (ho : o.op = .call { callee := .builtin .append, args := #[s, x], argTypes := #[t, t] })
    (e : TypeId) (k : IntKind) (bytes : Nat) (ht : P.underlying t = some (.slice e)) (hinfo : (P.info? e).map (fun i => (i.zero, i.size, i.bytes)) = some (some (.int k 0), 1, bytes))
    (base : Nat) (v : Value) (n : Nat) (xs : List Int) (hs : a.eval s = v) (hown : w.ownsRow base e 1 v n (il k xs))
    (v2 : Value) (m : Nat) (ys : List Int) (hx : a.eval x = v2) (hri : RI k w v2 m ys) (hbytes : ((n + m) + (n + m) / 4 + 192) * bytes ≤ 281474976710656) (h63 : n + m ≤ 9223372036854775807) (hbase : base ≤ w.heap.size)
    (h : ∀ v' w', w'.ownsRow base e 1 v' (n + m) (il k (xs ++ ys)) → w.grownBy w' v.ownBlock → (v'.ownBlock = v.ownBlock ∨ v'.ownBlock = some w.heap.size) → K (a.put o.dst v') w') : o.wp P a w K Q := by
  obtain ⟨i, hi, hz0, hz1, hz2⟩ := info_parts hinfo
  obtain ⟨ad, cap, rfl, hl, hlc, _, hnil, hc⟩ := hri
  cases ad with
  | none =>
    obtain rfl : cap = 0 := hnil rfl
    obtain rfl : m = 0 := by omega
    obtain rfl : ys = [] := List.length_eq_zero_iff.1 hl
    have hrun := run_append_owned_none (P := P) (w := w) base t o.type e i 1 ht hi v n _ hown
    unfold Oper.wp
    simp [execOp, ho, resolve, invoke, builtin, hs, hx, hrun, Result.andThen]
    exact h v w (by rw [List.append_nil]; exact hown) ⟨rfl, rfl, rfl, Nat.le_refl _, fun _ _ _ => rfl⟩ (.inl rfl)
  | some ad =>
    have hnews : ∀ (j : Nat) (u : Value), (il k ys)[j]? = some u → w.cell? (ad.add j) = some u := by
      intro j u hj
      have hjl : j < ys.length := by
        have := (List.getElem?_eq_some_iff.1 hj).1; rwa [il_length] at this
      obtain ⟨b, off, e1, hcell⟩ := hc (by omega)
      obtain rfl := Option.some.inj e1
      rw [il_get k ys j hjl] at hj
      obtain rfl := Option.some.inj hj
      have := hcell j (by omega)
      by_cases h0 : j = 0
      · subst h0; simpa [Addr.add] using this
      · simpa [Addr.add, h0] using this
    have hml : n + m ≤ maxLen := by unfold maxLen; omega
    obtain ⟨v', w', hr, h2, h3, _⟩ := run_append_own_wide (P := P) w base t o.type e i (.int k 0) 1 bytes ht hi hz0 hz1 hz2 rfl (by omega) v n (il k xs) hown ad m cap (il k ys) (by rw [il_length]; omega) hnews (il_one k _) hml hbytes hbase
    have h4 := append_where (P := P) w base t o.type e i (.int k 0) 1 bytes ht hi hz0 hz1 hz2 v n (il k xs) hown ad m cap (il k ys) (by rw [il_length]; omega) hnews (il_one k _) hml hbytes hr
    unfold Oper.wp execOp
    simp only [ho, resolve, invoke, builtin, Sem.run_bind, Sem.run_pure, Result.andThen_ok, List.map_toArray, List.map_cons, List.map_nil, hs, hx, hr]
    exact h v' w' (by rw [il_append]; exact h2) h3 h4
end
section
variable {P : Program} {w : World} {ops : Array Oper} {rest : List Oper} {o : Oper} {a : Act} {Q : Exit → Act → World → Prop}
/-- append of one slice to a list that the call makes; the slice lies in the cell ad -/
theorem wpl_app1l (hgd : o.guard = none) (s x : Operand) (t : TypeId) (ho : o.op = .call { callee := .builtin .append, args := #[s, x], argTypes := #[t, t] })
    (e : TypeId) (k : IntKind) (bytes : Nat) (ht : P.underlying t = some (.slice e)) (hinfo : (P.info? e).map (fun i => (i.zero, i.size, i.bytes)) = some (some (.slice none 0 0), 1, bytes))
    (base : Nat) (v : Value) (n : Nat) (ls : List (List Int)) (hs : a.eval s = v) (hown : Hid (UL k w base e v n ls))
    (ad : Addr) (y : Value) (l : List Int) (hx : a.eval x = .slice (some ad) 1 1) (hcell : w.cell? ad = some y) (hy : RI k w y l.length l) (hya : 0 < l.length → ∀ g, y.ownBlock = some g → Apart w base e g)
    (hbytes : ((n + 1) + (n + 1) / 4 + 192) * bytes ≤ 281474976710656) (h63 : n + 1 ≤ 9223372036854775807)
    (B : Nat) (W : World) (hb : Hid (Below B W w)) (hB : B ≤ base) (hbase : base ≤ w.heap.size)
    (h : ∀ v' w', Hid (UL k w' base e v' (n + 1) (ls ++ [l])) → Hid (Below B W w') → wpList P ops Q rest (a.put o.dst v') w') : wpList P ops Q (o :: rest) a w := by
  obtain ⟨i, hi, hzz⟩ := Option.map_eq_some_iff.1 hinfo
  simp only [Prod.mk.injEq] at hzz
  obtain ⟨hz0, hz1, hz2⟩ := hzz
  obtain ⟨es, h1, h2, h3⟩ := hown.out
  have hone : y.oneCell' = true := by obtain ⟨_, _, rfl, _⟩ := hy; rfl
  refine wpList_append_own_wide w hgd s x t ho base e i (.slice none 0 0) 1 bytes ht hi hz0 hz1 hz2 rfl (by omega) v n es hs h1 ad 1 1 [y] hx rfl ?_ (by simpa using hone) (by unfold maxLen; omega) hbytes hbase ?_
  · intro j u hj
    match j, hj with
    | 0, hj => simp at hj; subst hj; simpa [Addr.add] using hcell
  · intro v' w' ho' hg _
    exact h v' w' (UL.append h1 h2 h3 hy hya ho' hg) (hb.out.grown hg (by omega) (fun q hq => by have := (h1.lt q hq).1; omega))
end
section
variable {P : Program} {w : World} {ops : Array Oper} {rest : List Oper} {o : Oper} {a : Act} {Q : Exit → Act → World → Prop}
/-- the same, which tells besides that nothing but the list's own block has changed -/
theorem wpl_app1g (hgd : o.guard = none) (s x : Operand) (t : TypeId) (ho : o.op = .call { callee := .builtin .append, args := #[s, x], argTypes := #[t, t] })
    (e : TypeId) (k : IntKind) (bytes : Nat) (ht : P.underlying t = some (.slice e)) (hinfo : (P.info? e).map (fun i => (i.zero, i.size, i.bytes)) = some (some (.slice none 0 0), 1, bytes))
    (base : Nat) (v : Value) (n : Nat) (ls : List (List Int)) (hs : a.eval s = v) (hown : Hid (UL k w base e v n ls))
    (ad : Addr) (y : Value) (l : List Int) (hx : a.eval x = .slice (some ad) 1 1) (hcell : w.cell? ad = some y) (hy : RI k w y l.length l) (hya : 0 < l.length → ∀ g, y.ownBlock = some g → Apart w base e g)
    (hbytes : ((n + 1) + (n + 1) / 4 + 192) * bytes ≤ 281474976710656) (h63 : n + 1 ≤ 9223372036854775807)
    (B : Nat) (W : World) (hb : Hid (Below B W w)) (hB : B ≤ base) (hbase : base ≤ w.heap.size)
    (h : ∀ v' w', Hid (UL k w' base e v' (n + 1) (ls ++ [l])) → Hid (Below B W w') → Hid (w.grownBy w' v.ownBlock) → wpList P ops Q rest (a.put o.dst v') w') : wpList P ops Q (o :: rest) a w := by
  obtain ⟨i, hi, hzz⟩ := Option.map_eq_some_iff.1 hinfo
  simp only [Prod.mk.injEq] at hzz
  obtain ⟨hz0, hz1, hz2⟩ := hzz
  obtain ⟨es, h1, h2, h3⟩ := hown.out
  have hone : y.oneCell' = true := by obtain ⟨_, _, rfl, _⟩ := hy; rfl
  refine wpList_append_own_wide w hgd s x t ho base e i (.slice none 0 0) 1 bytes ht hi hz0 hz1 hz2 rfl (by omega) v n es hs h1 ad 1 1 [y] hx rfl ?_ (by simpa using hone) (by unfold maxLen; omega) hbytes hbase ?_
  · intro j u hj
    match j, hj with
    | 0, hj => simp at hj; subst hj; simpa [Addr.add] using hcell
  · intro v' w' ho' hg _
    exact h v' w' (UL.append h1 h2 h3 hy hya ho' hg) (hb.out.grown hg (by omega) (fun q hq => by have := (h1.lt q hq).1; omega)) hg
/-- a cut lies in the block of what it is cut from -/
theorem own_cut (a : Option Addr) (d n c n' c' : Nat) : (Value.slice (Option.map (fun x => x.add d) a) n c).ownBlock = (Value.slice a n' c').ownBlock := by
  cases a with
  | none => rfl
  | some x => by_cases hk : d = 0 <;> simp [Value.ownBlock, Addr.add, hk]
theorem own_same (a : Option Addr) (n c n' c' : Nat) : (Value.slice a n c).ownBlock = (Value.slice a n' c').ownBlock := by cases a <;> rfl
/-- what lies apart from the list stays, and stays apart -/
theorem UL.over {k j : IntKind} {w w' : World} {base : Nat} {t : TypeId} {v y : Value} {n m : Nat} {ls : List (List Int)} {l : List Int} (h : UL k w base t v n ls) (hg : w.grownBy w' v.ownBlock)
    (hr : RI j w y m l) (ha : ∀ g, y.ownBlock = some g → Apart w base t g) : RI j w' y m l ∧ ∀ g, y.ownBlock = some g → Apart w' base t g := by
  obtain ⟨es, h1, _, _⟩ := h
  refine ⟨hr.over _ hg fun _ g hgg => (ha g hgg).ne h1, fun g hgg => ?_⟩
  rcases id (ha g hgg) with h | ⟨c, t', fr, hc, ht⟩
  · exact .inl h
  · exact .inr ⟨c, t', fr, by rw [hg.block g (Array.getElem?_eq_some_iff.1 hc).1 ((ha g hgg).ne h1)]; exact hc, ht⟩
end
/-! the frame: slices of slices of integers that came in -/
section
open Go.ChangeShapes Go.WideShapes Go.Deep
variable {H : Type} {enc : TypeId × Value → H} {P : Program} {W : World} {t e q : TypeId} {k : IntKind}
theorem rd_rows {r : Reach} {b : Nat} {v : Value} {d : DataW H} (ht : P.underlying t = some (.slice e)) (he : P.underlying e = some (.slice q)) (hq : P.underlying q = some (.int k)) (hc : P.cellsOf e = 1) (hcq : P.cellsOf q = 1)
    (ho : Value.okWide P W r b t v) (h : RdC enc P W t v.cells.toList d) :
    ∃ a len cap ls, v = .slice a len cap ∧ RL k W (.slice a len cap) len ls ∧ ∀ l ∈ ls, ∀ x ∈ l, (Lit.int k x).wf = true := by
  obtain ⟨a, len, cap, rfl⟩ := okWide_slice ht ho
  obtain ⟨f, p, hf⟩ := h
  rcases open_slice1 ht hc hf with ⟨hcs, hx⟩ | ⟨A, l, c, m, n, V, D, Pl, hcs, _, hl, hm, hmm, hx, hV⟩
  · simp [Value.cells] at hcs
    obtain ⟨rfl, rfl, rfl⟩ := hcs
    exact ⟨none, 0, 0, [], rfl, RL.nil k W, by simp⟩
  · simp [Value.cells] at hcs
    obtain ⟨rfl, rfl, rfl⟩ := hcs
    have hlm : len ≤ m := by rw [hmm]; split <;> omega
    obtain ⟨L, hL⟩ := choose_lt (n := len) (α := List Int) (p := fun i zs => RI k W (V i) zs.length zs ∧ ∀ x ∈ zs, (Lit.int k x).wf = true) (fun i hi => by
      obtain ⟨a', len', cap', zs, h1, h2, _⟩ := rdc_ints he hq hcq ⟨n, Pl i, (hV i (by omega)).2⟩
      have hv : V i = .slice a' len' cap' := by simpa using h1
      have hr := h2.ri
      refine ⟨zs.take len', ?_, h2.wf⟩
      rw [hv, hr.length]; exact hr)
    refine ⟨some A, len, cap, (List.range len).map L, rfl, ⟨(List.range len).map V, ⟨some A, cap, rfl, by simp, hl, by unfold maxLen at hm; omega, fun h => by simp at h, fun h0 => ?_⟩, by simp, fun j e' l' he' hl' => ?_⟩, ?_⟩
    · obtain ⟨b', off, spot⟩ := A
      have h1 := (hV 0 (by omega)).1
      have hspot : spot = none := by simpa [Addr.add] using World.cell?_spot h1
      subst hspot
      refine ⟨b', off, rfl, fun j hj => ?_⟩
      rw [← Go.WideShapes.add_plain, (hV j (by omega)).1]
      simp [hj]
    · have hj : j < len := by have := (List.getElem?_eq_some_iff.1 hl').1; simpa using this
      simp [hj] at he' hl'
      subst he' hl'
      exact (hL j hj).1
    · intro l' hl'
      obtain ⟨j, hj, rfl⟩ := List.mem_map.1 hl'
      exact (hL j (by simpa using hj)).2
end
end Go.Proofs.YtepaghohojomeaaDoor
/-
  HOW ARGUMENTS ARE OPENED that are lists of slices inside a struct (layer 19's Synced). No condition.
-/
namespace Go.Proofs.YtepaghohojomeaaDoor
open Go.RowKit Go.ChangeShapes Go.WideShapes
section
variable {H : Type} {enc : TypeId × Value → H} {W : World}
theorem c_rows : Tryd.prog.cellsOf 23 = 1 := by kernel_rfl
theorem c_u64s : Tryd.prog.cellsOf 22 = 1 := by kernel_rfl
theorem c_uint : Tryd.prog.cellsOf 40 = 1 := by kernel_rfl
theorem c_syn : Tryd.prog.cellsOf 42 = 3 := by kernel_rfl
theorem ones_flatten : ∀ zs : List (Value × List Int), (zs.map fun z => [z.1]).flatten = zs.map Prod.fst
  | [] => rfl
  | z :: zs => by rw [List.map_cons, List.flatten_cons, ones_flatten zs]; rfl
/-- slices of bytes, in one cell -/
theorem rdc_rows {cs : List Value} {d : DataW H} (h : RdC enc Tryd.prog W 23 cs d) : ∃ a n cap ls, cs = [.slice a n cap] ∧ RL .u8 W (.slice a n cap) n ls ∧ ∀ l ∈ ls, ∀ x ∈ l, 0 ≤ x ∧ x ≤ 255 := by
  obtain ⟨v, n, es, ds, e1, hcs, hn, hd, _, hel, _⟩ := rdc_slice Tryd.underlying23 c_bytes (by omega) h
  obtain ⟨l, hl, hR⟩ := pick (R := fun e (z : Value × List Int) => e = [z.1] ∧ RI .u8 W z.1 z.2.length z.2 ∧ Bytes z.2) es fun e he => by
    obtain ⟨i, hi, rfl⟩ := List.getElem_of_mem he
    obtain ⟨v, len, zs, h1, h2, h3⟩ := rdc_bytes (hel i _ _ (List.getElem?_eq_getElem hi) (List.getElem?_eq_getElem (show i < ds.length by omega)))
    have hz : zs.length = len := h2.length
    subst hz
    exact ⟨(v, zs), h1, h2, h3⟩
  have he : es = l.map fun z => [z.1] := List.ext_getElem (by simp [hl]) fun i h1 h2 => by
    rw [List.getElem_map]
    exact (hR i es[i] _ (List.getElem?_eq_getElem h1) (List.getElem?_eq_getElem (by omega))).1
  have hR2 : ∀ (i : Nat) (z : Value × List Int), l[i]? = some z → RI .u8 W z.1 z.2.length z.2 ∧ Bytes z.2 := fun i z hz => by
    have hi := (List.getElem?_eq_some_iff.1 hz).1
    exact (hR i es[i] z (List.getElem?_eq_getElem (by omega)) hz).2
  rw [he, ones_flatten] at hcs
  obtain ⟨a, cap, rfl, k1, k2, k3, k4, k5⟩ := hcs
  rw [Nat.mul_one] at k1 k5
  refine ⟨a, n, cap, l.map Prod.snd, e1, ⟨l.map Prod.fst, ⟨a, cap, rfl, k1, k2, k3, k4, k5⟩, by rw [List.length_map]; omega, fun j e z he hz => ?_⟩, fun z hz => ?_⟩
  · rw [List.getElem?_map] at he hz
    simp only [Option.map_eq_some_iff] at he hz
    obtain ⟨y, hy, rfl⟩ := he
    obtain ⟨y2, hy2, rfl⟩ := hz
    rw [hy] at hy2
    obtain rfl := Option.some.inj hy2
    exact (hR2 j y hy).1
  · obtain ⟨y, hy, rfl⟩ := List.mem_map.1 hz
    obtain ⟨i, hi, rfl⟩ := List.getElem_of_mem hy
    exact (hR2 i _ (List.getElem?_eq_getElem hi)).2.mem
set_option maxRecDepth 8000 in
theorem rdc_syn {cs : List Value} {d : DataW H} (h : RdC enc Tryd.prog W 42 cs d) :
    ∃ x a n cap ls N, cs = [.int .u64 x, .slice a n cap, .int .u64 N] ∧ U64 x ∧ U64 N ∧ RL .u8 W (.slice a n cap) n ls ∧ ∀ l ∈ ls, ∀ x ∈ l, 0 ≤ x ∧ x ≤ 255 := by
  obtain ⟨ds, rfl, hn, hl, hf⟩ := rdc_struct Tryd.underlying42 h
  rw [c_syn] at hl
  have hn3 : ds.length = 3 := hn
  match cs, hl, ds, hn3, hf with
  | [c0, c1, c2], _, [x0, x1, x2], _, hf =>
    have h0 : RdC enc Tryd.prog W 22 (([c0, c1, c2].drop 0).take (Tryd.prog.cellsOf 22)) x0 := hf 0 _ _ rfl rfl
    rw [c_u64s] at h0
    have h1 : RdC enc Tryd.prog W 23 (([c0, c1, c2].drop 1).take (Tryd.prog.cellsOf 23)) x1 := hf 1 _ _ rfl rfl
    rw [c_rows] at h1
    have h2 : RdC enc Tryd.prog W 40 (([c0, c1, c2].drop 2).take (Tryd.prog.cellsOf 40)) x2 := hf 2 _ _ rfl rfl
    rw [c_uint] at h2
    obtain ⟨x, e0, _, w0⟩ := rdc_int (cs := [c0]) Tryd.underlying22 h0
    obtain ⟨a, n, cap, ls, e1, r1, b1⟩ := rdc_rows (cs := [c1]) h1
    obtain ⟨N, e2, _, w2⟩ := rdc_int (cs := [c2]) Tryd.underlying40 h2
    simp only [List.cons.injEq, and_true] at e0 e1 e2
    subst e0; subst e1; subst e2
    exact ⟨x, a, n, cap, ls, N, rfl, u64_of w0, u64_of w2, r1, b1⟩
set_option maxRecDepth 8000 in
theorem rd_syn {r : Reach} {b : Nat} {v : Value} {d : DataW H} (ho : Value.okWide Tryd.prog W r b 42 v) (h : RdC enc Tryd.prog W 42 v.cells.toList d) :
    ∃ x a n cap ls N, v = .agg #[.int .u64 x, .slice a n cap, .int .u64 N] ∧ U64 x ∧ U64 N ∧ RL .u8 W (.slice a n cap) n ls ∧ ∀ l ∈ ls, ∀ x ∈ l, 0 ≤ x ∧ x ≤ 255 := by
  obtain ⟨cs, rfl, _⟩ := okWide_struct Tryd.underlying42 ho
  obtain ⟨x, a, n, cap, ls, N, e, h1, h2, h3, h4⟩ := rdc_syn h
  refine ⟨x, a, n, cap, ls, N, ?_, h1, h2, h3, h4⟩
  have e2 : cs.toList = _ := e
  rw [← Array.toArray_toList (xs := cs), e2]
end
end Go.Proofs.YtepaghohojomeaaDoor
/-
  STEPS THROUGH A STATEMENT WHOSE ORDER IS OPEN and which calls functions that make memory: small laws over 'wpAnyH': one operation that alone may come up; two calls that may come up in either order and answer the same either way. Nothing here speaks of the program. No condition.
-/
namespace Go.Proofs.YtepaghohojomeaaDoor
open Go
section
variable {P : Program} {md : Region.Mode} {ops : Array Oper} {Q : Exit → Act → World → Prop} {S : World → Prop}

/-- One operation alone may come up: it is carried out, S is shown anew, and on. -/
theorem rg_one {fuel : Nat} {listed : Array Bool} {a : Act} {w : World} (i : Nat) (o : Oper) (hr : Region.ready md ops listed = [i]) (ho : ops[i]? = some o)
    (h : ∀ K' : Act → World → Prop, Shut (∀ a w, S w → (S w → wpAnyH P md ops Q S fuel (listed.setIfInBounds i true) a w) → K' a w) → if Region.wanted o (yielded ops a.tmps) = true then Oper.wp P o a w K' Q else K' (a.put o.dst undef) w) :
    wpAnyH P md ops Q S (fuel + 1) listed a w :=
  wpAnyH_ready hr (by simp) (AllReadyH.cons ho h AllReadyH.nil)

/-- An operation that, in every world that meets S, leaves v in its slot and a world that meets S. -/
def RgQuiet (P : Program) (ops : Array Oper) (Q : Exit → Act → World → Prop) (S : World → Prop) (o : Oper) (a : Act) (v : Value) : Prop :=
  ∀ w, S w → ∀ K' : Act → World → Prop, Shut (∀ w', S w' → K' (a.put o.dst v) w') → if Region.wanted o (yielded ops a.tmps) = true then Oper.wp P o a w K' Q else K' (a.put o.dst undef) w

/-- Two such operations, and no other, may come up, in either order; their slots are not one. -/
theorem rg_two {fuel : Nat} {listed : Array Bool} {a : Act} {w : World} (i j : Nat) (oi oj : Oper) (vi vj : Value)
    (hr : Region.ready md ops listed = [i, j]) (hri : Region.ready md ops (listed.setIfInBounds i true) = [j]) (hrj : Region.ready md ops (listed.setIfInBounds j true) = [i])
    (hoi : ops[i]? = some oi) (hoj : ops[j]? = some oj) (hS : S w)
    (hi : RgQuiet P ops Q S oi a vi) (hj : RgQuiet P ops Q S oj (a.put oi.dst vi) vj)
    (hj2 : RgQuiet P ops Q S oj a vj) (hi2 : RgQuiet P ops Q S oi (a.put oj.dst vj) vi)
    (hc : (a.put oj.dst vj).put oi.dst vi = (a.put oi.dst vi).put oj.dst vj)
    (h : ∀ w', S w' → wpAnyH P md ops Q S fuel ((listed.setIfInBounds i true).setIfInBounds j true) ((a.put oi.dst vi).put oj.dst vj) w') :
    wpAnyH P md ops Q S (fuel + 2) listed a w := by
  have hne : i ≠ j := fun e => by subst e; have h1 := hri; rw [← hrj] at h1; have := congrArg List.length (hr); have h3 : i ∈ Region.ready md ops (listed.setIfInBounds i true) := by rw [hri]; simp
                                  simp [Region.ready] at h3
  refine wpAnyH_ready hr (by simp) (AllReadyH.cons hoi (fun K hK => hi w hS K fun w1 h1 => hK _ _ h1 fun _ => ?_) (AllReadyH.cons hoj (fun K hK => hj2 w hS K fun w1 h1 => hK _ _ h1 fun _ => ?_) AllReadyH.nil))
  · exact wpAnyH_ready hri (by simp) (AllReadyH.cons hoj (fun K hK => hj w1 h1 K fun w2 h2 => hK _ _ h2 fun _ => h w2 h2) AllReadyH.nil)
  · refine wpAnyH_ready hrj (by simp) (AllReadyH.cons hoi (fun K hK => hi2 w1 h1 K fun w2 h2 => hK _ _ h2 fun _ => ?_) AllReadyH.nil)
    rw [hc, Array.setIfInBounds_comm _ _ (Ne.symm hne)]
    exact h w2 h2

/-- Two operations, and no other, may come up: each of them first. -/
theorem rg_both {fuel : Nat} {listed : Array Bool} {a : Act} {w : World} (i j : Nat) (oi oj : Oper) (hr : Region.ready md ops listed = [i, j]) (hoi : ops[i]? = some oi) (hoj : ops[j]? = some oj)
    (hi : ∀ K' : Act → World → Prop, Shut (∀ a w, S w → (S w → wpAnyH P md ops Q S fuel (listed.setIfInBounds i true) a w) → K' a w) → if Region.wanted oi (yielded ops a.tmps) = true then Oper.wp P oi a w K' Q else K' (a.put oi.dst undef) w)
    (hj : ∀ K' : Act → World → Prop, Shut (∀ a w, S w → (S w → wpAnyH P md ops Q S fuel (listed.setIfInBounds j true) a w) → K' a w) → if Region.wanted oj (yielded ops a.tmps) = true then Oper.wp P oj a w K' Q else K' (a.put oj.dst undef) w) :
    wpAnyH P md ops Q S (fuel + 1) listed a w :=
  wpAnyH_ready hr (by simp) (AllReadyH.cons hoi hi (AllReadyH.cons hoj hj AllReadyH.nil))
/-- Three operations, and no other, may come up: each of them first. -/
theorem rg_three {fuel : Nat} {listed : Array Bool} {a : Act} {w : World} (i j k : Nat) (oi oj ok : Oper) (hr : Region.ready md ops listed = [i, j, k]) (hoi : ops[i]? = some oi) (hoj : ops[j]? = some oj) (hok : ops[k]? = some ok)
    (hi : ∀ K' : Act → World → Prop, Shut (∀ a w, S w → (S w → wpAnyH P md ops Q S fuel (listed.setIfInBounds i true) a w) → K' a w) → if Region.wanted oi (yielded ops a.tmps) = true then Oper.wp P oi a w K' Q else K' (a.put oi.dst undef) w)
    (hj : ∀ K' : Act → World → Prop, Shut (∀ a w, S w → (S w → wpAnyH P md ops Q S fuel (listed.setIfInBounds j true) a w) → K' a w) → if Region.wanted oj (yielded ops a.tmps) = true then Oper.wp P oj a w K' Q else K' (a.put oj.dst undef) w)
    (hk : ∀ K' : Act → World → Prop, Shut (∀ a w, S w → (S w → wpAnyH P md ops Q S fuel (listed.setIfInBounds k true) a w) → K' a w) → if Region.wanted ok (yielded ops a.tmps) = true then Oper.wp P ok a w K' Q else K' (a.put ok.dst undef) w) :
    wpAnyH P md ops Q S (fuel + 1) listed a w :=
  wpAnyH_ready hr (by simp) (AllReadyH.cons hoi hi (AllReadyH.cons hoj hj (AllReadyH.cons hok hk AllReadyH.nil)))
/-- From here on more is kept than was said at the beginning. -/
theorem rg_strong {S' : World → Prop} (hs : ∀ w, S' w → S w) : ∀ (fuel : Nat) (listed : Array Bool) (a : Act) (w : World), wpAnyH P md ops Q S' fuel listed a w → wpAnyH P md ops Q S fuel listed a w
  | 0, _, _, _, h => h
  | fuel + 1, _, _, _, h => ⟨h.1, fun i hi => wpOp_mono (fun a' w' h' => ⟨hs w' h'.1, rg_strong hs fuel _ a' w' h'.2⟩) (h.2 i hi)⟩
end
end Go.Proofs.YtepaghohojomeaaDoor
/-
  WHAT LIES APART, AND WHAT IS NEW: small laws over 'Below', rows of a call's own, texts of bytes; results in a cell with numbers beside it. Nothing here speaks of the program's functions. No condition.
-/
namespace Go.Proofs.YtepaghohojomeaaDoor
open Go.RowKit
theorem own_mono {w : World} {base base' : Nat} {e : TypeId} {size : Nat} {v : Value} {n : Nat} {xs : List Value} (h : w.ownsRow base e size v n xs) (hb : base' ≤ base) : w.ownsRow base' e size v n xs := by
  refine ⟨h.1, ?_⟩
  rcases h.2 with h2 | ⟨g, cap, cur, hv, hg, h3⟩
  · exact .inl h2
  · exact .inr ⟨g, cap, cur, hv, Nat.le_trans hb hg, h3⟩
theorem own_form {w : World} {base : Nat} {e : TypeId} {size : Nat} {v : Value} {n : Nat} {xs : List Value} (h : w.ownsRow base e size v n xs) : ∃ a c, v = .slice a n c := by
  rcases h.2 with ⟨rfl, rfl⟩ | ⟨g, cap, cur, hv, _⟩
  · exact ⟨none, 0, rfl⟩
  · exact ⟨_, cap, hv⟩
theorem balloc (w : World) (o : Obj) : Below w.heap.size w (w.alloc o) := (Below.refl _ _).alloc (Nat.le_refl _) _
theorem bch {a b c : World} (h : Below a.heap.size a b) (k : Below b.heap.size b c) : Below a.heap.size a c := h.trans (k.mono h.size)
/-- a literal of one byte, as a row of the call's own -/
theorem own_lit1 {w w' : World} {base : Nat} {k : Int} (h : w.alloc (.cells #[.int .u8 k] 5) = w') (hb : base ≤ w.heap.size) : w'.ownsRow base 5 1 (.slice (some ⟨w.heap.size, 0, none⟩) 1 1) 1 (il .u8 [k]) := by
  subst h
  exact World.ownsRow_lit w #[.int .u8 k] 1 hb (by unfold maxLen; omega) rfl
theorem bdrew (w : World) (o : Obj) : Below w.drew.heap.size w.drew (w.alloc o).drew := let h := balloc w o; ⟨h.os, h.tape, h.output, h.size, h.block⟩
theorem own_lit1d {w w' : World} {base b : Nat} {k : Int} (h : (w.alloc (.cells #[.int .u8 k] 5)).drew = w') (hb : base ≤ w.heap.size) (hw : w.heap.size = b) : w'.ownsRow base 5 1 (.slice (some ⟨b, 0, none⟩) 1 1) 1 (il .u8 [k]) := by
  subst h
  subst hw
  exact World.ownsRow.drew (own_lit1 rfl hb)
theorem bdrew0 (w : World) (o : Obj) : Below w.heap.size w (w.alloc o).drew := let h := balloc w o; ⟨h.os, h.tape, h.output, h.size, h.block⟩
theorem brow {B b : Nat} {a w : World} (h : Below B a w) (hB : B ≤ b) (ha : B ≤ a.heap.size) (c : Array Value) : Below B a (w.setRow b c) :=
  h.grown ⟨rfl, rfl, rfl, by simp, fun i _ hne => setRow_other w b i c (fun e => hne (by rw [e]))⟩ (Nat.le_trans ha h.size) (fun k e => by cases e; exact hB)
theorem bset {B b : Nat} {a w : World} (h : Below B a w) (hB : B ≤ b) (ha : B ≤ a.heap.size) (j : Nat) (v : Value) : Below B a (w.setCell ⟨b, j, none⟩ v) :=
  h.grown ⟨rfl, rfl, rfl, by simp, fun i _ hne => heap_setCell_other w ⟨b, j, none⟩ i v (fun e => hne (by rw [e]))⟩ (Nat.le_trans ha h.size) (fun k e => by cases e; exact hB)
theorem results_row_tmp2 {fn : Func} {p u x : Tmp} {ty : TypeId} {P : Program} (h : fn.results = #[.cell p ty, .tmp u, .tmp x]) (tmps : Array Value) (w : World) (g : Nat) (v : Value)
    (hp : tmps.getD p undef = .pointer (some ⟨g, 0, none⟩)) (hl : (loadVar ty ⟨g, 0, none⟩).run P w = .ok v w) :
    (results fn tmps).run P w = .ok (.tuple #[v, tmps.getD u undef, tmps.getD x undef]) w := by
  have hp' : tmps[p]?.getD undef = .pointer (some ⟨g, 0, none⟩) := by simpa using hp
  simp [results, h, hp', asAddr, hl, Result.andThen]
theorem bnew (w : World) (o : Obj) (c : Array Value) : Below w.heap.size w ((w.alloc o).setRow w.heap.size c) := brow (balloc w o) (Nat.le_refl _) (Nat.le_refl _) c
/-- the text of what a slice of bytes holds -/
theorem conv_ri {w : World} {v : Value} {n : Nat} {zs : List Int} (h : RI .u8 w v n zs) : (convert 43 9 v).run Tryd.prog w = .ok (.string (strOfNums zs)) w :=
  conv_of Tryd.underlying43 Tryd.underlying5 Tryd.underlying9 h
theorem text_append (a b : List Int) : strOfNums a ++ strOfNums b = strOfNums (a ++ b) := by
  show (⟨_⟩ : ByteArray) ++ ⟨_⟩ = ⟨_⟩
  apply ByteArray.ext
  simp
/-- .. and an error -/
theorem results_row_tmp {fn : Func} {p u : Tmp} {ty : TypeId} {P : Program} (h : fn.results = #[.cell p ty, .tmp u]) (tmps : Array Value) (w : World) (g : Nat) (v : Value)
    (hp : tmps.getD p undef = .pointer (some ⟨g, 0, none⟩)) (hl : (loadVar ty ⟨g, 0, none⟩).run P w = .ok v w) :
    (results fn tmps).run P w = .ok (.tuple #[v, tmps.getD u undef]) w := by
  rw [results_cell_tmp h]
  simp only [hp, asAddr, Sem.run_pure, Result.andThen_ok, hl]
/-- a row that a call made stays, where another one grows -/
theorem own_over {w w' : World} {base : Nat} {e : TypeId} {size : Nat} {v : Value} {n : Nat} {xs : List Value} {row : Option Nat} (h : w.ownsRow base e size v n xs) (hg : w.grownBy w' row) (hne : ∀ g, v.ownBlock = some g → some g ≠ row) : w'.ownsRow base e size v n xs := by
  refine ⟨h.1, ?_⟩
  rcases h.2 with h2 | ⟨g, cap, cur, hv, hb, hcur, h3⟩
  · exact .inl h2
  · refine .inr ⟨g, cap, cur, hv, hb, ?_, h3⟩
    rw [hg.block g (Array.getElem?_eq_some_iff.1 hcur).1 (hne g (by rw [hv]; rfl))]; exact hcur
/-- rows of two types are not one -/
theorem own_types {w : World} {base base' : Nat} {e e' : TypeId} {size size' : Nat} {v v' : Value} {n n' : Nat} {xs xs' : List Value} (h : w.ownsRow base e size v n xs) (h' : w.ownsRow base' e' size' v' n' xs') (hne : e ≠ e') : ∀ g, v.ownBlock = some g → some g ≠ v'.ownBlock := by
  intro g hg he
  rcases h.2 with ⟨rfl, _⟩ | ⟨q, cap, cur, rfl, _, hcur, _⟩
  · simp [Value.ownBlock] at hg
  · simp only [Value.ownBlock, Option.some.injEq] at hg
    subst hg
    rcases h'.2 with ⟨rfl, _⟩ | ⟨q', cap', cur', rfl, _, hcur', _⟩
    · simp [Value.ownBlock] at he
    · simp only [Value.ownBlock, Option.some.injEq] at he
      subst he
      rw [hcur] at hcur'
      simp only [Option.some.injEq, Obj.cells.injEq] at hcur'
      exact hne hcur'.2.1
end Go.Proofs.YtepaghohojomeaaDoor
/-
  LAYER 7 (span): the place that is meant; the reference's Near. No condition.
-/
namespace Go.Proofs.YtepaghohojomeaaDoor
open Go.RowKit
/-- the place that is meant -/
def nr (n : Int) : Nat := (min (max n 0) 832).toNat
theorem nr_le (n : Int) : nr n ≤ 832 := by unfold nr; omega
theorem nr_nat (k : Nat) (h : k ≤ 832) : nr k = k := by unfold nr; omega
theorem near_any (n : Int) (h : I63 n) (w : World) : Calls Tryd.prog 56 #[.int .i64 n] w fun e w' => e = .returned (.int .i64 (nr n : Int)) ∧ w' = w := by
  unfold I63 at h
  go_enter Tryd.func56, Tryd.ntmps56
  go_wp2
  all_goals
    go_ret
    exact ⟨ret_int (by unfold nr; omega), rfl⟩
end Go.Proofs.YtepaghohojomeaaDoor
