/-
  SLICES OF SLICES OF INTEGERS: what lies where (RV: elements of one cell each, whatever they are; RL: each of them a slice of integers), cuts of them, a list of slices that a call makes by append (UL), and the step of the walk for it. Nothing here speaks of the program's functions. No condition.
-/
import Derived.Test.YthickhfbllddjaaDoorBase
import Derived.Test.YthickhfbllddjaaDoorKeep
import Derived.Test.YthickhfbllddjaaDoorFrame
import Derived.Deep.Slices
namespace Go.Proofs.YthickhfbllddjaaDoor
open Go.RowKit
/-- in the world w the slice v has n elements of one cell each, the values es -/
def RV (w : World) (v : Value) (n : Nat) (es : List Value) : Prop :=
  ∃ a cap, v = .slice a n cap ∧ es.length = n ∧ n ≤ cap ∧ cap ≤ 9223372036854775807 ∧ (a = none → cap = 0) ∧
    (0 < n → ∃ b off, a = some ⟨b, off, none⟩ ∧ ∀ j, j < n → w.cell? ⟨b, off + j, none⟩ = es[j]?)
theorem RV.length {w : World} {v : Value} {n : Nat} {es : List Value} (h : RV w v n es) : es.length = n := h.choose_spec.choose_spec.2.1
theorem RV.le {w : World} {v : Value} {n : Nat} {es : List Value} (h : RV w v n es) : n ≤ 9223372036854775807 := by
  obtain ⟨_, _, _, _, h1, h2, _⟩ := h; omega
theorem RV.keep {w w' : World} (hb : Below w.heap.size w w') {v : Value} {n : Nat} {es : List Value} (h : RV w v n es) : RV w' v n es := by
  obtain ⟨a, cap, rfl, h1, h2, h3, h4, hc⟩ := h
  refine ⟨a, cap, rfl, h1, h2, h3, h4, fun h0 => ?_⟩
  obtain ⟨b, off, rfl, hcell⟩ := hc h0
  refine ⟨b, off, rfl, fun j hj => ?_⟩
  have hj2 : es[j]? = some es[j] := List.getElem?_eq_getElem (by omega)
  have := hcell j hj
  rw [hj2] at this ⊢
  exact cell_keep hb this
theorem RV.nil (w : World) : RV w (.slice none 0 0) 0 [] := ⟨none, 0, rfl, rfl, Nat.le_refl _, by omega, fun _ => rfl, fun h => absurd h (by omega)⟩
theorem RV.own {w : World} {base : Nat} {e : TypeId} {v : Value} {n : Nat} {es : List Value} (h : w.ownsRow base e 1 v n es) : RV w v n es := by
  have hl : es.length = n := by have := h.1; omega
  rcases h.2 with ⟨rfl, rfl⟩ | ⟨g, cap, cur, rfl, _, _, hnc, hcm, _⟩
  · exact ⟨none, 0, rfl, hl, Nat.le_refl _, by omega, fun _ => rfl, fun h => absurd h (by omega)⟩
  · refine ⟨_, cap, rfl, hl, hnc, by unfold maxLen at hcm; omega, fun h => by simp at h, fun _ => ⟨g, 0, rfl, fun j hj => ?_⟩⟩
    rw [Nat.zero_add, h.cellAt j (by omega)]
theorem RV.at_ {w : World} {a : Option Addr} {n cap : Nat} {es : List Value} (h : RV w (.slice a n cap) n es) (h0 : 0 < n) :
    ∃ b off, a = some ⟨b, off, none⟩ ∧ ∀ j, j < n → w.cell? ⟨b, off + j, none⟩ = es[j]? := by
  obtain ⟨a', cap', e, _, _, _, _, hc⟩ := h
  simp only [Value.slice.injEq, true_and] at e
  obtain ⟨rfl, rfl⟩ := e
  exact hc h0
/-- in the world w the slice v has n elements, slices of integers that lie somewhere, the numbers ls -/
def RL (k : IntKind) (w : World) (v : Value) (n : Nat) (ls : List (List Int)) : Prop :=
  ∃ es, RV w v n es ∧ ls.length = n ∧ ∀ (j : Nat) (e : Value) (l : List Int), es[j]? = some e → ls[j]? = some l → RI k w e l.length l
theorem RL.length {k : IntKind} {w : World} {v : Value} {n : Nat} {ls : List (List Int)} (h : RL k w v n ls) : ls.length = n := h.choose_spec.2.1
theorem RL.le {k : IntKind} {w : World} {v : Value} {n : Nat} {ls : List (List Int)} (h : RL k w v n ls) : n ≤ 9223372036854775807 := h.choose_spec.1.le
theorem RL.keep {k : IntKind} {w w' : World} (hb : Below w.heap.size w w') {v : Value} {n : Nat} {ls : List (List Int)} (h : RL k w v n ls) : RL k w' v n ls := by
  obtain ⟨es, h1, h2, h3⟩ := h
  exact ⟨es, h1.keep hb, h2, fun j e l he hl => (h3 j e l he hl).keep hb⟩
theorem RL.nil (k : IntKind) (w : World) : RL k w (.slice none 0 0) 0 [] := ⟨[], RV.nil w, rfl, fun j e l he => by simp at he⟩
theorem RL.form {k : IntKind} {w : World} {v : Value} {n : Nat} {ls : List (List Int)} (h : RL k w v n ls) : ∃ a cap, v = .slice a n cap ∧ n ≤ cap ∧ cap ≤ 9223372036854775807 ∧ (a = none → cap = 0) := by
  obtain ⟨_, ⟨a, cap, h1, _, h2, h3, h4, _⟩, _⟩ := h; exact ⟨a, cap, h1, h2, h3, h4⟩
/-- where a list that isn't empty lies, and what each of its elements is -/
theorem RL.at_ {k : IntKind} {w : World} {a : Option Addr} {n cap : Nat} {ls : List (List Int)} (h : RL k w (.slice a n cap) n ls) (h0 : 0 < n) :
    ∃ b off, a = some ⟨b, off, none⟩ ∧ ∀ j, j < n → ∃ x c, w.cell? ⟨b, off + j, none⟩ = some (.slice x (ls.getD j []).length c) ∧ RI k w (.slice x (ls.getD j []).length c) (ls.getD j []).length (ls.getD j []) := by
  obtain ⟨es, h1, h2, h3⟩ := h
  obtain ⟨b, off, rfl, hc⟩ := h1.at_ h0
  refine ⟨b, off, rfl, fun j hj => ?_⟩
  have he : es[j]? = some (es[j]'(by rw [h1.length]; exact hj)) := List.getElem?_eq_getElem _
  have hl : ls[j]? = some (ls.getD j []) := by simp [List.getD, h2, hj]
  have hr := h3 j _ _ he hl
  obtain ⟨x, c, hx, _⟩ := id hr
  refine ⟨x, c, ?_, ?_⟩
  · rw [hc j hj, he, hx]
  · rw [← hx]; exact hr
/-- cut: from m on, the first d of them -/
theorem RV.mid {w : World} {a : Option Addr} {n cap : Nat} {es : List Value} (h : RV w (.slice a n cap) n es) (m d : Nat) (hm : m + d ≤ n) (c : Nat) (hc : c = cap - m) : RV w (sliced a m (m + d) cap 1) d ((es.drop m).take d) := by
  obtain ⟨a', cap', e, h1, h2, h3, h4, hcell⟩ := h
  simp only [Value.slice.injEq, true_and] at e
  obtain ⟨rfl, rfl⟩ := e
  have hl : ((es.drop m).take d).length = d := by simp; omega
  unfold sliced
  rw [show m + d - m = d from by omega]
  by_cases h0 : cap = m
  · rw [if_pos h0]
    exact ⟨a, cap - m, rfl, hl, by omega, by omega, fun _ => by omega, fun h => absurd h (by omega)⟩
  · rw [if_neg h0]
    cases a with
    | none => have := h4 rfl; omega
    | some x =>
      refine ⟨some (x.add (m * 1)), cap - m, rfl, hl, by omega, by omega, fun h => by simp at h, fun hp => ?_⟩
      obtain ⟨b, off, hx, hcl⟩ := hcell (by omega)
      obtain rfl := Option.some.inj hx
      refine ⟨b, off + m, by simp [Addr.add], fun j hj => ?_⟩
      have := hcl (m + j) (by omega)
      rw [Nat.add_assoc, this]
      simp [hj]
theorem RL.mid {k : IntKind} {w : World} {a : Option Addr} {n cap : Nat} {ls : List (List Int)} (h : RL k w (.slice a n cap) n ls) (m d : Nat) (hm : m + d ≤ n) : RL k w (sliced a m (m + d) cap 1) d ((ls.drop m).take d) := by
  obtain ⟨es, h1, h2, h3⟩ := h
  refine ⟨_, h1.mid m d hm _ rfl, by simp; omega, fun j e l he hl => ?_⟩
  have hj : j < d := by
    have := (List.getElem?_eq_some_iff.1 hl).1; simp at this; omega
  rw [List.getElem?_take, if_pos hj, List.getElem?_drop] at he hl
  exact h3 (m + j) e l he hl
/-- the walk's spelling of such a cut, where m isn't the capacity -/
theorem RI.mid' {k : IntKind} {w : World} {a : Option Addr} {len cap : Nat} {zs : List Int} (h : RI k w (.slice a len cap) len zs) (m d : Nat) (hm : m + d ≤ len) :
    RI k w (.slice (Option.map (fun x => x.add m) a) (m + d - m) (cap - m)) d ((zs.drop m).take d) := by
  rw [Nat.add_sub_cancel_left]
  obtain ⟨a', cap', e, h1, h2, h3, h4, hc⟩ := h
  simp only [Value.slice.injEq, true_and] at e
  obtain ⟨rfl, rfl⟩ := e
  refine ⟨_, _, rfl, by simp; omega, by omega, by omega, fun h => ?_, fun h0 => ?_⟩
  · cases a with
    | none => have := h4 rfl; omega
    | some x => simp at h
  · obtain ⟨b, off, rfl, hcell⟩ := hc (by omega)
    refine ⟨b, off + m, by simp [Addr.add], fun j hj => ?_⟩
    rw [Nat.add_assoc, hcell (m + j) (by omega)]
    simp [List.getD, hj]
theorem RL.mid' {k : IntKind} {w : World} {a : Option Addr} {n cap : Nat} {ls : List (List Int)} (h : RL k w (.slice a n cap) n ls) (m d : Nat) (hm : m + d ≤ n) (hne : ¬ cap = m) :
    RL k w (.slice (Option.map (fun x => x.add m) a) (m + d - m) (cap - m)) d ((ls.drop m).take d) := by
  rw [Nat.add_sub_cancel_left]
  have := h.mid m d hm
  unfold sliced at this
  rw [if_neg hne, show m + d - m = d from by omega] at this
  simpa using this
/-- a block that a list under way, whose elements have type t, surely isn't in -/
def Apart (w : World) (base : Nat) (t : TypeId) (g : Nat) : Prop := g < base ∨ ∃ c t' fr, w.heap[g]? = some (.cells c t' fr) ∧ t' ≠ t
theorem Apart.ne {w : World} {base : Nat} {t : TypeId} {g : Nat} (h : Apart w base t g) {v : Value} {n : Nat} {es : List Value} (ho : w.ownsRow base t 1 v n es) : some g ≠ v.ownBlock := by
  rcases ho.2 with ⟨rfl, _⟩ | ⟨q, cap, cur, rfl, hq, hcur, _⟩
  · simp [Value.ownBlock]
  · simp only [Value.ownBlock]
    intro e
    obtain rfl := Option.some.inj e
    rcases h with h | ⟨c, t', fr, hc, ht⟩
    · exact Nat.lt_irrefl _ (Nat.lt_of_lt_of_le h hq)
    · rw [hcur] at hc
      simp only [Option.some.injEq, Obj.cells.injEq] at hc
      exact ht hc.2.1.symm
theorem RI.over {k : IntKind} {w w' : World} {v : Value} {n : Nat} {zs : List Int} (h : RI k w v n zs) (row : Option Nat) (hg : w.grownBy w' row) (hne : 0 < n → ∀ g, v.ownBlock = some g → some g ≠ row) : RI k w' v n zs := by
  obtain ⟨a, cap, rfl, h1, h2, h3, h4, hc⟩ := h
  refine ⟨a, cap, rfl, h1, h2, h3, h4, fun h0 => ?_⟩
  obtain ⟨b, off, rfl, hcell⟩ := hc h0
  exact ⟨b, off, rfl, fun j hj => hg.cell (hcell j hj) (hne h0 b rfl)⟩
/-- a list that a call makes: its row is the call's own, each element lies elsewhere -/
def UL (k : IntKind) (w : World) (base : Nat) (t : TypeId) (v : Value) (n : Nat) (ls : List (List Int)) : Prop :=
  ∃ es, w.ownsRow base t 1 v n es ∧ ls.length = n ∧ ∀ (j : Nat) (e : Value) (l : List Int), es[j]? = some e → ls[j]? = some l → RI k w e l.length l ∧ (0 < l.length → ∀ g, e.ownBlock = some g → Apart w base t g)
theorem UL.rl {k : IntKind} {w : World} {base : Nat} {t : TypeId} {v : Value} {n : Nat} {ls : List (List Int)} (h : UL k w base t v n ls) : RL k w v n ls := by
  obtain ⟨es, h1, h2, h3⟩ := h
  exact ⟨es, RV.own h1, h2, fun j e l he hl => (h3 j e l he hl).1⟩
theorem UL.none (k : IntKind) (w : World) (base : Nat) (t : TypeId) : UL k w base t (.slice Option.none 0 0) 0 [] := ⟨[], World.ownsRow_nil _ _ _ _, rfl, fun j e l he => by simp at he⟩
theorem Apart.keep {w w' : World} {base : Nat} {t : TypeId} {g : Nat} (h : Apart w base t g) (hb : Below w.heap.size w w') : Apart w' base t g := by
  rcases h with h | ⟨c, t', fr, hc, ht⟩
  · exact .inl h
  · exact .inr ⟨c, t', fr, by rw [hb.block g (Array.getElem?_eq_some_iff.1 hc).1]; exact hc, ht⟩
theorem UL.keep {k : IntKind} {w w' : World} {base : Nat} {t : TypeId} {v : Value} {n : Nat} {ls : List (List Int)} (h : UL k w base t v n ls) (hb : Below w.heap.size w w') : UL k w' base t v n ls := by
  obtain ⟨es, h1, h2, h3⟩ := h
  exact ⟨es, own_keep h1 hb, h2, fun j e l he hl => ⟨(h3 j e l he hl).1.keep hb, fun h0 g hg => ((h3 j e l he hl).2 h0 g hg).keep hb⟩⟩
/-- a row that a call made lies apart from a list of slices -/
theorem own_apart {w : World} {base base' : Nat} {e t : TypeId} {v : Value} {n : Nat} {xs : List Value} (h : w.ownsRow base e 1 v n xs) (hne : e ≠ t) : ∀ g, v.ownBlock = some g → Apart w base' t g := fun g hg => by
  rcases h.2 with ⟨rfl, _⟩ | ⟨q, cap, cur, rfl, _, hcur, _⟩
  · simp [Value.ownBlock] at hg
  · simp only [Value.ownBlock, Option.some.injEq] at hg
    subst hg
    exact .inr ⟨cur, e, _, hcur, hne⟩
theorem UL.append {k : IntKind} {w w' : World} {base : Nat} {t : TypeId} {v v' : Value} {n : Nat} {es : List Value} {ls : List (List Int)} (h1 : w.ownsRow base t 1 v n es) (h2 : ls.length = n)
    (h3 : ∀ (j : Nat) (e : Value) (l : List Int), es[j]? = some e → ls[j]? = some l → RI k w e l.length l ∧ (0 < l.length → ∀ g, e.ownBlock = some g → Apart w base t g))
    {y : Value} {l : List Int} (hy : RI k w y l.length l) (hya : 0 < l.length → ∀ g, y.ownBlock = some g → Apart w base t g)
    (ho : w'.ownsRow base t 1 v' (n + 1) (es ++ [y])) (hg : w.grownBy w' v.ownBlock) : UL k w' base t v' (n + 1) (ls ++ [l]) := by
  have hel : es.length = n := by have := h1.1; omega
  have hap : ∀ g, Apart w base t g → Apart w' base t g := fun g ha => by
    rcases id ha with h | ⟨c, t', fr, hc, ht⟩
    · exact .inl h
    · exact .inr ⟨c, t', fr, by rw [hg.block g (Array.getElem?_eq_some_iff.1 hc).1 (ha.ne h1)]; exact hc, ht⟩
  refine ⟨_, ho, by simp [h2], fun j e m he hm => ?_⟩
  by_cases hj : j < n
  · rw [List.getElem?_append_left (by omega)] at he hm
    obtain ⟨ha, hb⟩ := h3 j e m he hm
    exact ⟨ha.over _ hg fun h0 g hgg => (hb h0 g hgg).ne h1, fun h0 g hgg => hap g (hb h0 g hgg)⟩
  · rw [List.getElem?_append_right (by omega)] at he hm
    rw [hel] at he; rw [h2] at hm
    cases hk : j - n with
    | zero =>
      rw [hk] at he hm
      simp at he hm
      subst he hm
      exact ⟨hy.over _ hg fun h0 g hgg => (hya h0 g hgg).ne h1, fun h0 g hgg => hap g (hya h0 g hgg)⟩
    | succ q => rw [hk] at he; simp at he
section
variable {P : Program}
/-- where the row lies behind an append: where it was, or in a new block -/
theorem append_where (w : World) (base : Nat) (t ty e : TypeId) (i : TypeInfo) (z : Value) (size bytes : Nat) (ht : P.underlying t = some (.slice e)) (hi : P.info? e = some i) (hz : i.zero = some z)
    (hsize : i.size = size) (hby : i.bytes = bytes) (v : Value) (n : Nat) (xs : List Value) (hown : w.ownsRow base e size v n xs)
    (a : Addr) (m c : Nat) (news : List Value) (hl : news.length = m * size) (hnews : ∀ j u, news[j]? = some u → w.cell? (a.add j) = some u) (h1 : ∀ u ∈ news, u.oneCell' = true)
    (h63 : n + m ≤ maxLen) (hbytes : ((n + m) + (n + m) / 4 + 192) * bytes ≤ 281474976710656) {v' : Value} {w' : World} (hrun : (Builtin.append_ #[t, t] ty #[v, .slice (some a) m c]).run P w = .ok v' w') :
    v'.ownBlock = v.ownBlock ∨ v'.ownBlock = some w.heap.size := by
  subst hsize hby
  have hsmall : n + m ≤ 9223372036854775807 := by simp only [maxLen] at h63; omega
  rcases hown.2 with ⟨rfl, rfl⟩ | ⟨g, cap, cur, rfl, hbg, hg, hnc, hcm, hcs, htake⟩
  · by_cases hm : m = 0
    · subst hm
      have hn : news = [] := List.eq_nil_of_length_eq_zero (by simpa using hl)
      subst hn
      have : (Builtin.append_ #[t, t] ty #[.slice none 0 0, .slice (some a) 0 c]).run P w = .ok (.slice none 0 0) w := by
        simp [Builtin.append_, run_underlying ht, sizeOf, typeInfo, hi, Builtin.lenOf, Builtin.firstCells, loadCells, loadCellsFrom]
      rw [this] at hrun
      obtain ⟨rfl, _⟩ : Value.slice none 0 0 = v' ∧ w = w' := by simpa using hrun
      exact .inl rfl
    · have hr := run_append_nil (P := P) w t ty e i z ht hi hz a m c news hl hnews (by omega) (by omega) (by have hb := hbytes; simp only [Nat.zero_add] at hb; exact Nat.le_trans (Nat.mul_le_mul_right _ (by omega)) hb)
      rw [hr] at hrun
      simp only [Result.ok.injEq] at hrun
      exact .inr (by rw [← hrun.1]; rfl)
  · by_cases hroom : n + m ≤ cap
    · have hfit : n * i.size + news.length ≤ cur.size := by rw [hl, hcs, ← Nat.add_mul]; exact Nat.mul_le_mul_right _ hroom
      have hr := run_append_room (P := P) w t ty e i ht hi g n cap cur hg a m c news hl hnews h1 hroom hfit
      rw [hr] at hrun
      simp only [Result.ok.injEq] at hrun
      exact .inl (by rw [← hrun.1]; rfl)
    · have holds : ∀ j u, xs[j]? = some u → w.cell? ((⟨g, 0, none⟩ : Addr).add j) = some u := hown.cells (g := g) rfl
      have hr := run_append_grow (P := P) w t ty e i z ht hi hz ⟨g, 0, none⟩ n cap xs hown.1 holds a m c news hl hnews (by omega) (by omega) (growslice_fits_wide (by omega) hbytes)
      rw [hr] at hrun
      simp only [Result.ok.injEq] at hrun
      exact .inr (by rw [← hrun.1]; rfl)
/-- append of a slice's numbers to a row that the call made, as one operation; where it lies then -/
theorem wp_appn {w : World} {o : Oper} {a : Act} {K : Act → World → Prop} {Q : Exit → Act → World → Prop} (s x : Operand) (t : TypeId) (ho : o.op = .call { callee := .builtin .append, args := #[s, x], argTypes := #[t, t] })
    (e : TypeId) (k : IntKind) (bytes : Nat) (ht : P.underlying t = some (.slice e)) (hinfo : (P.info? e).map (fun i => (i.zero, i.size, i.bytes)) = some (some (.int k 0), 1, bytes))
    (base : Nat) (v : Value) (n : Nat) (xs : List Int) (hs : a.eval s = v) (hown : w.ownsRow base e 1 v n (il k xs))
    (v2 : Value) (m : Nat) (ys : List Int) (hx : a.eval x = v2) (hri : RI k w v2 m ys) (hbytes : ((n + m) + (n + m) / 4 + 192) * bytes ≤ 281474976710656) (h63 : n + m ≤ 9223372036854775807) (hbase : base ≤ w.heap.size)
    (h : ∀ v' w', w'.ownsRow base e 1 v' (n + m) (il k (xs ++ ys)) → w.grownBy w' v.ownBlock → (v'.ownBlock = v.ownBlock ∨ v'.ownBlock = some w.heap.size) → K (a.put o.dst v') w') : o.wp P a w K Q := by
  obtain ⟨i, hi, hz0, hz1, hz2⟩ := info_parts hinfo
  obtain ⟨ad, cap, rfl, hl, hlc, _, hnil, hc⟩ := hri
  cases ad with
  | none =>
    obtain rfl : cap = 0 := hnil rfl
    obtain rfl : m = 0 := by omega
    obtain rfl : ys = [] := List.length_eq_zero_iff.1 hl
    have hrun := run_append_owned_none (P := P) (w := w) base t o.type e i 1 ht hi v n _ hown
    unfold Oper.wp
    simp [execOp, ho, resolve, invoke, builtin, hs, hx, hrun, Result.andThen]
    exact h v w (by rw [List.append_nil]; exact hown) ⟨rfl, rfl, rfl, Nat.le_refl _, fun _ _ _ => rfl⟩ (.inl rfl)
  | some ad =>
    have hnews : ∀ (j : Nat) (u : Value), (il k ys)[j]? = some u → w.cell? (ad.add j) = some u := by
      intro j u hj
      have hjl : j < ys.length := by
        have := (List.getElem?_eq_some_iff.1 hj).1; rwa [il_length] at this
      obtain ⟨b, off, e1, hcell⟩ := hc (by omega)
      obtain rfl := Option.some.inj e1
      rw [il_get k ys j hjl] at hj
      obtain rfl := Option.some.inj hj
      have := hcell j (by omega)
      by_cases h0 : j = 0
      · subst h0; simpa [Addr.add] using this
      · simpa [Addr.add, h0] using this
    have hml : n + m ≤ maxLen := by unfold maxLen; omega
    obtain ⟨v', w', hr, h2, h3, _⟩ := run_append_own_wide (P := P) w base t o.type e i (.int k 0) 1 bytes ht hi hz0 hz1 hz2 rfl (by omega) v n (il k xs) hown ad m cap (il k ys) (by rw [il_length]; omega) hnews (il_one k _) hml hbytes hbase
    have h4 := append_where (P := P) w base t o.type e i (.int k 0) 1 bytes ht hi hz0 hz1 hz2 v n (il k xs) hown ad m cap (il k ys) (by rw [il_length]; omega) hnews (il_one k _) hml hbytes hr
    unfold Oper.wp execOp
    simp only [ho, resolve, invoke, builtin, Sem.run_bind, Sem.run_pure, Result.andThen_ok, List.map_toArray, List.map_cons, List.map_nil, hs, hx, hr]
    exact h v' w' (by rw [il_append]; exact h2) h3 h4
end
section
variable {P : Program} {w : World} {ops : Array Oper} {rest : List Oper} {o : Oper} {a : Act} {Q : Exit → Act → World → Prop}
/-- append of one slice to a list that the call makes; the slice lies in the cell ad -/
theorem wpl_app1l (hgd : o.guard = none) (s x : Operand) (t : TypeId) (ho : o.op = .call { callee := .builtin .append, args := #[s, x], argTypes := #[t, t] })
    (e : TypeId) (k : IntKind) (bytes : Nat) (ht : P.underlying t = some (.slice e)) (hinfo : (P.info? e).map (fun i => (i.zero, i.size, i.bytes)) = some (some (.slice none 0 0), 1, bytes))
    (base : Nat) (v : Value) (n : Nat) (ls : List (List Int)) (hs : a.eval s = v) (hown : Hid (UL k w base e v n ls))
    (ad : Addr) (y : Value) (l : List Int) (hx : a.eval x = .slice (some ad) 1 1) (hcell : w.cell? ad = some y) (hy : RI k w y l.length l) (hya : 0 < l.length → ∀ g, y.ownBlock = some g → Apart w base e g)
    (hbytes : ((n + 1) + (n + 1) / 4 + 192) * bytes ≤ 281474976710656) (h63 : n + 1 ≤ 9223372036854775807)
    (B : Nat) (W : World) (hb : Hid (Below B W w)) (hB : B ≤ base) (hbase : base ≤ w.heap.size)
    (h : ∀ v' w', Hid (UL k w' base e v' (n + 1) (ls ++ [l])) → Hid (Below B W w') → wpList P ops Q rest (a.put o.dst v') w') : wpList P ops Q (o :: rest) a w := by
  obtain ⟨i, hi, hzz⟩ := Option.map_eq_some_iff.1 hinfo
  simp only [Prod.mk.injEq] at hzz
  obtain ⟨hz0, hz1, hz2⟩ := hzz
  obtain ⟨es, h1, h2, h3⟩ := hown.out
  have hone : y.oneCell' = true := by obtain ⟨_, _, rfl, _⟩ := hy; rfl
  refine wpList_append_own_wide w hgd s x t ho base e i (.slice none 0 0) 1 bytes ht hi hz0 hz1 hz2 rfl (by omega) v n es hs h1 ad 1 1 [y] hx rfl ?_ (by simpa using hone) (by unfold maxLen; omega) hbytes hbase ?_
  · intro j u hj
    match j, hj with
    | 0, hj => simp at hj; subst hj; simpa [Addr.add] using hcell
  · intro v' w' ho' hg _
    exact h v' w' (UL.append h1 h2 h3 hy hya ho' hg) (hb.out.grown hg (by omega) (fun q hq => by have := (h1.lt q hq).1; omega))
end
section
variable {P : Program} {w : World} {ops : Array Oper} {rest : List Oper} {o : Oper} {a : Act} {Q : Exit → Act → World → Prop}
/-- the same, which tells besides that nothing but the list's own block has changed -/
theorem wpl_app1g (hgd : o.guard = none) (s x : Operand) (t : TypeId) (ho : o.op = .call { callee := .builtin .append, args := #[s, x], argTypes := #[t, t] })
    (e : TypeId) (k : IntKind) (bytes : Nat) (ht : P.underlying t = some (.slice e)) (hinfo : (P.info? e).map (fun i => (i.zero, i.size, i.bytes)) = some (some (.slice none 0 0), 1, bytes))
    (base : Nat) (v : Value) (n : Nat) (ls : List (List Int)) (hs : a.eval s = v) (hown : Hid (UL k w base e v n ls))
    (ad : Addr) (y : Value) (l : List Int) (hx : a.eval x = .slice (some ad) 1 1) (hcell : w.cell? ad = some y) (hy : RI k w y l.length l) (hya : 0 < l.length → ∀ g, y.ownBlock = some g → Apart w base e g)
    (hbytes : ((n + 1) + (n + 1) / 4 + 192) * bytes ≤ 281474976710656) (h63 : n + 1 ≤ 9223372036854775807)
    (B : Nat) (W : World) (hb : Hid (Below B W w)) (hB : B ≤ base) (hbase : base ≤ w.heap.size)
    (h : ∀ v' w', Hid (UL k w' base e v' (n + 1) (ls ++ [l])) → Hid (Below B W w') → Hid (w.grownBy w' v.ownBlock) → wpList P ops Q rest (a.put o.dst v') w') : wpList P ops Q (o :: rest) a w := by
  obtain ⟨i, hi, hzz⟩ := Option.map_eq_some_iff.1 hinfo
  simp only [Prod.mk.injEq] at hzz
  obtain ⟨hz0, hz1, hz2⟩ := hzz
  obtain ⟨es, h1, h2, h3⟩ := hown.out
  have hone : y.oneCell' = true := by obtain ⟨_, _, rfl, _⟩ := hy; rfl
  refine wpList_append_own_wide w hgd s x t ho base e i (.slice none 0 0) 1 bytes ht hi hz0 hz1 hz2 rfl (by omega) v n es hs h1 ad 1 1 [y] hx rfl ?_ (by simpa using hone) (by unfold maxLen; omega) hbytes hbase ?_
  · intro j u hj
    match j, hj with
    | 0, hj => simp at hj; subst hj; simpa [Addr.add] using hcell
  · intro v' w' ho' hg _
    exact h v' w' (UL.append h1 h2 h3 hy hya ho' hg) (hb.out.grown hg (by omega) (fun q hq => by have := (h1.lt q hq).1; omega)) hg
/-- a cut lies in the block of what it is cut from -/
theorem own_cut (a : Option Addr) (d n c n' c' : Nat) : (Value.slice (Option.map (fun x => x.add d) a) n c).ownBlock = (Value.slice a n' c').ownBlock := by
  cases a with
  | none => rfl
  | some x => by_cases hk : d = 0 <;> simp [Value.ownBlock, Addr.add, hk]
theorem own_same (a : Option Addr) (n c n' c' : Nat) : (Value.slice a n c).ownBlock = (Value.slice a n' c').ownBlock := by cases a <;> rfl
/-- what lies apart from the list stays, and stays apart -/
theorem UL.over {k j : IntKind} {w w' : World} {base : Nat} {t : TypeId} {v y : Value} {n m : Nat} {ls : List (List Int)} {l : List Int} (h : UL k w base t v n ls) (hg : w.grownBy w' v.ownBlock)
    (hr : RI j w y m l) (ha : ∀ g, y.ownBlock = some g → Apart w base t g) : RI j w' y m l ∧ ∀ g, y.ownBlock = some g → Apart w' base t g := by
  obtain ⟨es, h1, _, _⟩ := h
  refine ⟨hr.over _ hg fun _ g hgg => (ha g hgg).ne h1, fun g hgg => ?_⟩
  rcases id (ha g hgg) with h | ⟨c, t', fr, hc, ht⟩
  · exact .inl h
  · exact .inr ⟨c, t', fr, by rw [hg.block g (Array.getElem?_eq_some_iff.1 hc).1 ((ha g hgg).ne h1)]; exact hc, ht⟩
end
/-! the frame: slices of slices of integers that came in -/
section
open Go.ChangeShapes Go.WideShapes Go.Deep
variable {H : Type} {enc : TypeId × Value → H} {P : Program} {W : World} {t e q : TypeId} {k : IntKind}
theorem rd_rows {r : Reach} {b : Nat} {v : Value} {d : DataW H} (ht : P.underlying t = some (.slice e)) (he : P.underlying e = some (.slice q)) (hq : P.underlying q = some (.int k)) (hc : P.cellsOf e = 1) (hcq : P.cellsOf q = 1)
    (ho : Value.okWide P W r b t v) (h : RdC enc P W t v.cells.toList d) :
    ∃ a len cap ls, v = .slice a len cap ∧ RL k W (.slice a len cap) len ls ∧ ∀ l ∈ ls, ∀ x ∈ l, (Lit.int k x).wf = true := by
  obtain ⟨a, len, cap, rfl⟩ := okWide_slice ht ho
  obtain ⟨f, p, hf⟩ := h
  rcases open_slice1 ht hc hf with ⟨hcs, hx⟩ | ⟨A, l, c, m, n, V, D, Pl, hcs, _, hl, hm, hmm, hx, hV⟩
  · simp [Value.cells] at hcs
    obtain ⟨rfl, rfl, rfl⟩ := hcs
    exact ⟨none, 0, 0, [], rfl, RL.nil k W, by simp⟩
  · simp [Value.cells] at hcs
    obtain ⟨rfl, rfl, rfl⟩ := hcs
    have hlm : len ≤ m := by rw [hmm]; split <;> omega
    obtain ⟨L, hL⟩ := choose_lt (n := len) (α := List Int) (p := fun i zs => RI k W (V i) zs.length zs ∧ ∀ x ∈ zs, (Lit.int k x).wf = true) (fun i hi => by
      obtain ⟨a', len', cap', zs, h1, h2, _⟩ := rdc_ints he hq hcq ⟨n, Pl i, (hV i (by omega)).2⟩
      have hv : V i = .slice a' len' cap' := by simpa using h1
      have hr := h2.ri
      refine ⟨zs.take len', ?_, h2.wf⟩
      rw [hv, hr.length]; exact hr)
    refine ⟨some A, len, cap, (List.range len).map L, rfl, ⟨(List.range len).map V, ⟨some A, cap, rfl, by simp, hl, by unfold maxLen at hm; omega, fun h => by simp at h, fun h0 => ?_⟩, by simp, fun j e' l' he' hl' => ?_⟩, ?_⟩
    · obtain ⟨b', off, spot⟩ := A
      have h1 := (hV 0 (by omega)).1
      have hspot : spot = none := by simpa [Addr.add] using World.cell?_spot h1
      subst hspot
      refine ⟨b', off, rfl, fun j hj => ?_⟩
      rw [← Go.WideShapes.add_plain, (hV j (by omega)).1]
      simp [hj]
    · have hj : j < len := by have := (List.getElem?_eq_some_iff.1 hl').1; simpa using this
      simp [hj] at he' hl'
      subst he' hl'
      exact (hL j hj).1
    · intro l' hl'
      obtain ⟨j, hj, rfl⟩ := List.mem_map.1 hl'
      exact (hL j (by simpa using hj)).2
end
end Go.Proofs.YthickhfbllddjaaDoor
