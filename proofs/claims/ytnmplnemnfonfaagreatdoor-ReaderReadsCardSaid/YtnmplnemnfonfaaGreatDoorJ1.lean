/-
  TEXTS JOINED: OpenB, Keep, Slices, ScanOpen, RdOpen, View, Below. Each one's own words stand at its head.
-/
import Derived.Test.YtnmplnemnfonfaaGreatDoorJ0
import Derived.Deep.Slices
import Derived.Deep.WholeRow
import Derived.Lib.SmallJoins
namespace Go.Proofs.YtnmplnemnfonfaaGreatDoor
open Go.RowKit Go.ChangeShapes Go.WideShapes
end Go.Proofs.YtnmplnemnfonfaaGreatDoor
namespace Go.Proofs.YtnmplnemnfonfaaGreatDoor
open Go.RowKit
theorem own_keep {w w' : World} {base : Nat} {e : TypeId} {size : Nat} {v : Value} {n : Nat} {xs : List Value} (h : w.ownsRow base e size v n xs) (hb : Below w.heap.size w w') : w'.ownsRow base e size v n xs := by
  refine ⟨h.1, ?_⟩
  rcases h.2 with h2 | ⟨g, cap, cur, hv, hg, hcur, h3⟩
  · exact .inl h2
  · exact .inr ⟨g, cap, cur, hv, hg, by rw [hb.block g (Array.getElem?_eq_some_iff.1 hcur).1]; exact hcur, h3⟩
theorem drew_below (w : World) (m : Nat) : Below w.heap.size w (w.drewN m) := ⟨rfl, rfl, rfl, Nat.le_refl _, fun _ _ => rfl⟩
end Go.Proofs.YtnmplnemnfonfaaGreatDoor
namespace Go.Proofs.YtnmplnemnfonfaaGreatDoor
open Go.RowKit
def RV (w : World) (v : Value) (n : Nat) (es : List Value) : Prop :=
  ∃ a cap, v = .slice a n cap ∧ es.length = n ∧ n ≤ cap ∧ cap ≤ 9223372036854775807 ∧ (a = none → cap = 0) ∧
    (0 < n → ∃ b off, a = some ⟨b, off, none⟩ ∧ ∀ j, j < n → w.cell? ⟨b, off + j, none⟩ = es[j]?)
theorem RV.length {w : World} {v : Value} {n : Nat} {es : List Value} (h : RV w v n es) : es.length = n := h.choose_spec.choose_spec.2.1
theorem RV.le {w : World} {v : Value} {n : Nat} {es : List Value} (h : RV w v n es) : n ≤ 9223372036854775807 := by
  obtain ⟨_, _, _, _, h1, h2, _⟩ := h; omega
theorem RV.keep {w w' : World} (hb : Below w.heap.size w w') {v : Value} {n : Nat} {es : List Value} (h : RV w v n es) : RV w' v n es := by
  obtain ⟨a, cap, rfl, h1, h2, h3, h4, hc⟩ := h
  refine ⟨a, cap, rfl, h1, h2, h3, h4, fun h0 => ?_⟩
  obtain ⟨b, off, rfl, hcell⟩ := hc h0
  refine ⟨b, off, rfl, fun j hj => ?_⟩
  have hj2 : es[j]? = some es[j] := List.getElem?_eq_getElem (by omega)
  have := hcell j hj
  rw [hj2] at this ⊢
  exact cell_keep hb this
theorem RV.nil (w : World) : RV w (.slice none 0 0) 0 [] := ⟨none, 0, rfl, rfl, Nat.le_refl _, by omega, fun _ => rfl, fun h => absurd h (by omega)⟩
theorem RV.own {w : World} {base : Nat} {e : TypeId} {v : Value} {n : Nat} {es : List Value} (h : w.ownsRow base e 1 v n es) : RV w v n es := by
  have hl : es.length = n := by have := h.1; omega
  rcases h.2 with ⟨rfl, rfl⟩ | ⟨g, cap, cur, rfl, _, _, hnc, hcm, _⟩
  · exact ⟨none, 0, rfl, hl, Nat.le_refl _, by omega, fun _ => rfl, fun h => absurd h (by omega)⟩
  · refine ⟨_, cap, rfl, hl, hnc, by unfold maxLen at hcm; omega, fun h => by simp at h, fun _ => ⟨g, 0, rfl, fun j hj => ?_⟩⟩
    rw [Nat.zero_add, h.cellAt j (by omega)]
theorem RV.at_ {w : World} {a : Option Addr} {n cap : Nat} {es : List Value} (h : RV w (.slice a n cap) n es) (h0 : 0 < n) :
    ∃ b off, a = some ⟨b, off, none⟩ ∧ ∀ j, j < n → w.cell? ⟨b, off + j, none⟩ = es[j]? := by
  obtain ⟨a', cap', e, _, _, _, _, hc⟩ := h
  simp only [Value.slice.injEq, true_and] at e
  obtain ⟨rfl, rfl⟩ := e
  exact hc h0
def RL (k : IntKind) (w : World) (v : Value) (n : Nat) (ls : List (List Int)) : Prop :=
  ∃ es, RV w v n es ∧ ls.length = n ∧ ∀ (j : Nat) (e : Value) (l : List Int), es[j]? = some e → ls[j]? = some l → RI k w e l.length l
theorem RL.length {k : IntKind} {w : World} {v : Value} {n : Nat} {ls : List (List Int)} (h : RL k w v n ls) : ls.length = n := h.choose_spec.2.1
theorem RL.le {k : IntKind} {w : World} {v : Value} {n : Nat} {ls : List (List Int)} (h : RL k w v n ls) : n ≤ 9223372036854775807 := h.choose_spec.1.le
theorem RL.keep {k : IntKind} {w w' : World} (hb : Below w.heap.size w w') {v : Value} {n : Nat} {ls : List (List Int)} (h : RL k w v n ls) : RL k w' v n ls := by
  obtain ⟨es, h1, h2, h3⟩ := h
  exact ⟨es, h1.keep hb, h2, fun j e l he hl => (h3 j e l he hl).keep hb⟩
theorem RL.nil (k : IntKind) (w : World) : RL k w (.slice none 0 0) 0 [] := ⟨[], RV.nil w, rfl, fun j e l he => by simp at he⟩
theorem RL.form {k : IntKind} {w : World} {v : Value} {n : Nat} {ls : List (List Int)} (h : RL k w v n ls) : ∃ a cap, v = .slice a n cap ∧ n ≤ cap ∧ cap ≤ 9223372036854775807 ∧ (a = none → cap = 0) := by
  obtain ⟨_, ⟨a, cap, h1, _, h2, h3, h4, _⟩, _⟩ := h; exact ⟨a, cap, h1, h2, h3, h4⟩
theorem RL.at_ {k : IntKind} {w : World} {a : Option Addr} {n cap : Nat} {ls : List (List Int)} (h : RL k w (.slice a n cap) n ls) (h0 : 0 < n) :
    ∃ b off, a = some ⟨b, off, none⟩ ∧ ∀ j, j < n → ∃ x c, w.cell? ⟨b, off + j, none⟩ = some (.slice x (ls.getD j []).length c) ∧ RI k w (.slice x (ls.getD j []).length c) (ls.getD j []).length (ls.getD j []) := by
  obtain ⟨es, h1, h2, h3⟩ := h
  obtain ⟨b, off, rfl, hc⟩ := h1.at_ h0
  refine ⟨b, off, rfl, fun j hj => ?_⟩
  have he : es[j]? = some (es[j]'(by rw [h1.length]; exact hj)) := List.getElem?_eq_getElem _
  have hl : ls[j]? = some (ls.getD j []) := by simp [List.getD, h2, hj]
  have hr := h3 j _ _ he hl
  obtain ⟨x, c, hx, _⟩ := id hr
  refine ⟨x, c, ?_, ?_⟩
  · rw [hc j hj, he, hx]
  · rw [← hx]; exact hr
theorem RV.mid {w : World} {a : Option Addr} {n cap : Nat} {es : List Value} (h : RV w (.slice a n cap) n es) (m d : Nat) (hm : m + d ≤ n) (c : Nat) (hc : c = cap - m) : RV w (sliced a m (m + d) cap 1) d ((es.drop m).take d) := by
  obtain ⟨a', cap', e, h1, h2, h3, h4, hcell⟩ := h
  simp only [Value.slice.injEq, true_and] at e
  obtain ⟨rfl, rfl⟩ := e
  have hl : ((es.drop m).take d).length = d := by simp; omega
  unfold sliced
  rw [show m + d - m = d from by omega]
  by_cases h0 : cap = m
  · rw [if_pos h0]
    exact ⟨a, cap - m, rfl, hl, by omega, by omega, fun _ => by omega, fun h => absurd h (by omega)⟩
  · rw [if_neg h0]
    cases a with
    | none => have := h4 rfl; omega
    | some x =>
      refine ⟨some (x.add (m * 1)), cap - m, rfl, hl, by omega, by omega, fun h => by simp at h, fun hp => ?_⟩
      obtain ⟨b, off, hx, hcl⟩ := hcell (by omega)
      obtain rfl := Option.some.inj hx
      refine ⟨b, off + m, by simp [Addr.add], fun j hj => ?_⟩
      have := hcl (m + j) (by omega)
      rw [Nat.add_assoc, this]
      simp [hj]
theorem RL.mid {k : IntKind} {w : World} {a : Option Addr} {n cap : Nat} {ls : List (List Int)} (h : RL k w (.slice a n cap) n ls) (m d : Nat) (hm : m + d ≤ n) : RL k w (sliced a m (m + d) cap 1) d ((ls.drop m).take d) := by
  obtain ⟨es, h1, h2, h3⟩ := h
  refine ⟨_, h1.mid m d hm _ rfl, by simp; omega, fun j e l he hl => ?_⟩
  have hj : j < d := by
    have := (List.getElem?_eq_some_iff.1 hl).1; simp at this; omega
  rw [List.getElem?_take, if_pos hj, List.getElem?_drop] at he hl
  exact h3 (m + j) e l he hl
def Apart (w : World) (base : Nat) (t : TypeId) (g : Nat) : Prop := g < base ∨ ∃ c t' fr, w.heap[g]? = some (.cells c t' fr) ∧ t' ≠ t
theorem Apart.ne {w : World} {base : Nat} {t : TypeId} {g : Nat} (h : Apart w base t g) {v : Value} {n : Nat} {es : List Value} (ho : w.ownsRow base t 1 v n es) : some g ≠ v.ownBlock := by
  rcases ho.2 with ⟨rfl, _⟩ | ⟨q, cap, cur, rfl, hq, hcur, _⟩
  · simp [Value.ownBlock]
  · simp only [Value.ownBlock]
    intro e
    obtain rfl := Option.some.inj e
    rcases h with h | ⟨c, t', fr, hc, ht⟩
    · exact Nat.lt_irrefl _ (Nat.lt_of_lt_of_le h hq)
    · rw [hcur] at hc
      simp only [Option.some.injEq, Obj.cells.injEq] at hc
      exact ht hc.2.1.symm
theorem RI.over {k : IntKind} {w w' : World} {v : Value} {n : Nat} {zs : List Int} (h : RI k w v n zs) (row : Option Nat) (hg : w.grownBy w' row) (hne : 0 < n → ∀ g, v.ownBlock = some g → some g ≠ row) : RI k w' v n zs := by
  obtain ⟨a, cap, rfl, h1, h2, h3, h4, hc⟩ := h
  refine ⟨a, cap, rfl, h1, h2, h3, h4, fun h0 => ?_⟩
  obtain ⟨b, off, rfl, hcell⟩ := hc h0
  exact ⟨b, off, rfl, fun j hj => hg.cell (hcell j hj) (hne h0 b rfl)⟩
def UL (k : IntKind) (w : World) (base : Nat) (t : TypeId) (v : Value) (n : Nat) (ls : List (List Int)) : Prop :=
  ∃ es, w.ownsRow base t 1 v n es ∧ ls.length = n ∧ ∀ (j : Nat) (e : Value) (l : List Int), es[j]? = some e → ls[j]? = some l → RI k w e l.length l ∧ (0 < l.length → ∀ g, e.ownBlock = some g → Apart w base t g)
theorem UL.rl {k : IntKind} {w : World} {base : Nat} {t : TypeId} {v : Value} {n : Nat} {ls : List (List Int)} (h : UL k w base t v n ls) : RL k w v n ls := by
  obtain ⟨es, h1, h2, h3⟩ := h
  exact ⟨es, RV.own h1, h2, fun j e l he hl => (h3 j e l he hl).1⟩
theorem UL.none (k : IntKind) (w : World) (base : Nat) (t : TypeId) : UL k w base t (.slice Option.none 0 0) 0 [] := ⟨[], World.ownsRow_nil _ _ _ _, rfl, fun j e l he => by simp at he⟩
theorem Apart.keep {w w' : World} {base : Nat} {t : TypeId} {g : Nat} (h : Apart w base t g) (hb : Below w.heap.size w w') : Apart w' base t g := by
  rcases h with h | ⟨c, t', fr, hc, ht⟩
  · exact .inl h
  · exact .inr ⟨c, t', fr, by rw [hb.block g (Array.getElem?_eq_some_iff.1 hc).1]; exact hc, ht⟩
theorem UL.keep {k : IntKind} {w w' : World} {base : Nat} {t : TypeId} {v : Value} {n : Nat} {ls : List (List Int)} (h : UL k w base t v n ls) (hb : Below w.heap.size w w') : UL k w' base t v n ls := by
  obtain ⟨es, h1, h2, h3⟩ := h
  exact ⟨es, own_keep h1 hb, h2, fun j e l he hl => ⟨(h3 j e l he hl).1.keep hb, fun h0 g hg => ((h3 j e l he hl).2 h0 g hg).keep hb⟩⟩
theorem UL.append {k : IntKind} {w w' : World} {base : Nat} {t : TypeId} {v v' : Value} {n : Nat} {es : List Value} {ls : List (List Int)} (h1 : w.ownsRow base t 1 v n es) (h2 : ls.length = n)
    (h3 : ∀ (j : Nat) (e : Value) (l : List Int), es[j]? = some e → ls[j]? = some l → RI k w e l.length l ∧ (0 < l.length → ∀ g, e.ownBlock = some g → Apart w base t g))
    {y : Value} {l : List Int} (hy : RI k w y l.length l) (hya : 0 < l.length → ∀ g, y.ownBlock = some g → Apart w base t g)
    (ho : w'.ownsRow base t 1 v' (n + 1) (es ++ [y])) (hg : w.grownBy w' v.ownBlock) : UL k w' base t v' (n + 1) (ls ++ [l]) := by
  have hel : es.length = n := by have := h1.1; omega
  have hap : ∀ g, Apart w base t g → Apart w' base t g := fun g ha => by
    rcases id ha with h | ⟨c, t', fr, hc, ht⟩
    · exact .inl h
    · exact .inr ⟨c, t', fr, by rw [hg.block g (Array.getElem?_eq_some_iff.1 hc).1 (ha.ne h1)]; exact hc, ht⟩
  refine ⟨_, ho, by simp [h2], fun j e m he hm => ?_⟩
  by_cases hj : j < n
  · rw [List.getElem?_append_left (by omega)] at he hm
    obtain ⟨ha, hb⟩ := h3 j e m he hm
    exact ⟨ha.over _ hg fun h0 g hgg => (hb h0 g hgg).ne h1, fun h0 g hgg => hap g (hb h0 g hgg)⟩
  · rw [List.getElem?_append_right (by omega)] at he hm
    rw [hel] at he; rw [h2] at hm
    cases hk : j - n with
    | zero =>
      rw [hk] at he hm
      simp at he hm
      subst he hm
      exact ⟨hy.over _ hg fun h0 g hgg => (hya h0 g hgg).ne h1, fun h0 g hgg => hap g (hya h0 g hgg)⟩
    | succ q => rw [hk] at he; simp at he
section
variable {P : Program}
theorem append_where (w : World) (base : Nat) (t ty e : TypeId) (i : TypeInfo) (z : Value) (size bytes : Nat) (ht : P.underlying t = some (.slice e)) (hi : P.info? e = some i) (hz : i.zero = some z)
    (hsize : i.size = size) (hby : i.bytes = bytes) (v : Value) (n : Nat) (xs : List Value) (hown : w.ownsRow base e size v n xs)
    (a : Addr) (m c : Nat) (news : List Value) (hl : news.length = m * size) (hnews : ∀ j u, news[j]? = some u → w.cell? (a.add j) = some u) (h1 : ∀ u ∈ news, u.oneCell' = true)
    (h63 : n + m ≤ maxLen) (hbytes : ((n + m) + (n + m) / 4 + 192) * bytes ≤ 281474976710656) {v' : Value} {w' : World} (hrun : (Builtin.append_ #[t, t] ty #[v, .slice (some a) m c]).run P w = .ok v' w') :
    v'.ownBlock = v.ownBlock ∨ v'.ownBlock = some w.heap.size := by
  subst hsize hby
  have hsmall : n + m ≤ 9223372036854775807 := by simp only [maxLen] at h63; omega
  rcases hown.2 with ⟨rfl, rfl⟩ | ⟨g, cap, cur, rfl, hbg, hg, hnc, hcm, hcs, htake⟩
  · by_cases hm : m = 0
    · subst hm
      have hn : news = [] := List.eq_nil_of_length_eq_zero (by simpa using hl)
      subst hn
      have : (Builtin.append_ #[t, t] ty #[.slice none 0 0, .slice (some a) 0 c]).run P w = .ok (.slice none 0 0) w := by
        simp [Builtin.append_, run_underlying ht, sizeOf, typeInfo, hi, Builtin.lenOf, Builtin.firstCells, loadCells, loadCellsFrom]
      rw [this] at hrun
      obtain ⟨rfl, _⟩ : Value.slice none 0 0 = v' ∧ w = w' := by simpa using hrun
      exact .inl rfl
    · have hr := run_append_nil (P := P) w t ty e i z ht hi hz a m c news hl hnews (by omega) (by omega) (by have hb := hbytes; simp only [Nat.zero_add] at hb; exact Nat.le_trans (Nat.mul_le_mul_right _ (by omega)) hb)
      rw [hr] at hrun
      simp only [Result.ok.injEq] at hrun
      exact .inr (by rw [← hrun.1]; rfl)
  · by_cases hroom : n + m ≤ cap
    · have hfit : n * i.size + news.length ≤ cur.size := by rw [hl, hcs, ← Nat.add_mul]; exact Nat.mul_le_mul_right _ hroom
      have hr := run_append_room (P := P) w t ty e i ht hi g n cap cur hg a m c news hl hnews h1 hroom hfit
      rw [hr] at hrun
      simp only [Result.ok.injEq] at hrun
      exact .inl (by rw [← hrun.1]; rfl)
    · have holds : ∀ j u, xs[j]? = some u → w.cell? ((⟨g, 0, none⟩ : Addr).add j) = some u := hown.cells (g := g) rfl
      have hr := run_append_grow (P := P) w t ty e i z ht hi hz ⟨g, 0, none⟩ n cap xs hown.1 holds a m c news hl hnews (by omega) (by omega) (growslice_fits_wide (by omega) hbytes)
      rw [hr] at hrun
      simp only [Result.ok.injEq] at hrun
      exact .inr (by rw [← hrun.1]; rfl)
theorem wp_appn {w : World} {o : Oper} {a : Act} {K : Act → World → Prop} {Q : Exit → Act → World → Prop} (s x : Operand) (t : TypeId) (ho : o.op = .call { callee := .builtin .append, args := #[s, x], argTypes := #[t, t] })
    (e : TypeId) (k : IntKind) (bytes : Nat) (ht : P.underlying t = some (.slice e)) (hinfo : (P.info? e).map (fun i => (i.zero, i.size, i.bytes)) = some (some (.int k 0), 1, bytes))
    (base : Nat) (v : Value) (n : Nat) (xs : List Int) (hs : a.eval s = v) (hown : w.ownsRow base e 1 v n (il k xs))
    (v2 : Value) (m : Nat) (ys : List Int) (hx : a.eval x = v2) (hri : RI k w v2 m ys) (hbytes : ((n + m) + (n + m) / 4 + 192) * bytes ≤ 281474976710656) (h63 : n + m ≤ 9223372036854775807) (hbase : base ≤ w.heap.size)
    (h : ∀ v' w', w'.ownsRow base e 1 v' (n + m) (il k (xs ++ ys)) → w.grownBy w' v.ownBlock → (v'.ownBlock = v.ownBlock ∨ v'.ownBlock = some w.heap.size) → K (a.put o.dst v') w') : o.wp P a w K Q := by
  obtain ⟨i, hi, hz0, hz1, hz2⟩ := info_parts hinfo
  obtain ⟨ad, cap, rfl, hl, hlc, _, hnil, hc⟩ := hri
  cases ad with
  | none =>
    obtain rfl : cap = 0 := hnil rfl
    obtain rfl : m = 0 := by omega
    obtain rfl : ys = [] := List.length_eq_zero_iff.1 hl
    have hrun := run_append_owned_none (P := P) (w := w) base t o.type e i 1 ht hi v n _ hown
    unfold Oper.wp
    simp [execOp, ho, resolve, invoke, builtin, hs, hx, hrun, Result.andThen]
    exact h v w (by rw [List.append_nil]; exact hown) ⟨rfl, rfl, rfl, Nat.le_refl _, fun _ _ _ => rfl⟩ (.inl rfl)
  | some ad =>
    have hnews : ∀ (j : Nat) (u : Value), (il k ys)[j]? = some u → w.cell? (ad.add j) = some u := by
      intro j u hj
      have hjl : j < ys.length := by
        have := (List.getElem?_eq_some_iff.1 hj).1; rwa [il_length] at this
      obtain ⟨b, off, e1, hcell⟩ := hc (by omega)
      obtain rfl := Option.some.inj e1
      rw [il_get k ys j hjl] at hj
      obtain rfl := Option.some.inj hj
      have := hcell j (by omega)
      by_cases h0 : j = 0
      · subst h0; simpa [Addr.add] using this
      · simpa [Addr.add, h0] using this
    have hml : n + m ≤ maxLen := by unfold maxLen; omega
    obtain ⟨v', w', hr, h2, h3, _⟩ := run_append_own_wide (P := P) w base t o.type e i (.int k 0) 1 bytes ht hi hz0 hz1 hz2 rfl (by omega) v n (il k xs) hown ad m cap (il k ys) (by rw [il_length]; omega) hnews (il_one k _) hml hbytes hbase
    have h4 := append_where (P := P) w base t o.type e i (.int k 0) 1 bytes ht hi hz0 hz1 hz2 v n (il k xs) hown ad m cap (il k ys) (by rw [il_length]; omega) hnews (il_one k _) hml hbytes hr
    unfold Oper.wp execOp
    simp only [ho, resolve, invoke, builtin, Sem.run_bind, Sem.run_pure, Result.andThen_ok, List.map_toArray, List.map_cons, List.map_nil, hs, hx, hr]
    exact h v' w' (by rw [il_append]; exact h2) h3 h4
end
section
variable {P : Program} {w : World} {ops : Array Oper} {rest : List Oper} {o : Oper} {a : Act} {Q : Exit → Act → World → Prop}
theorem UL.over {k j : IntKind} {w w' : World} {base : Nat} {t : TypeId} {v y : Value} {n m : Nat} {ls : List (List Int)} {l : List Int} (h : UL k w base t v n ls) (hg : w.grownBy w' v.ownBlock)
    (hr : RI j w y m l) (ha : ∀ g, y.ownBlock = some g → Apart w base t g) : RI j w' y m l ∧ ∀ g, y.ownBlock = some g → Apart w' base t g := by
  obtain ⟨es, h1, _, _⟩ := h
  refine ⟨hr.over _ hg fun _ g hgg => (ha g hgg).ne h1, fun g hgg => ?_⟩
  rcases id (ha g hgg) with h | ⟨c, t', fr, hc, ht⟩
  · exact .inl h
  · exact .inr ⟨c, t', fr, by rw [hg.block g (Array.getElem?_eq_some_iff.1 hc).1 ((ha g hgg).ne h1)]; exact hc, ht⟩
end
section
open Go.ChangeShapes Go.WideShapes Go.Deep
variable {H : Type} {enc : TypeId × Value → H} {P : Program} {W : World} {t e q : TypeId} {k : IntKind}
end
end Go.Proofs.YtnmplnemnfonfaaGreatDoor
namespace Go.Proofs.YtnmplnemnfonfaaGreatDoor
open Go.RowKit Go.ChangeShapes Go.WideShapes
section
variable {H : Type} {enc : TypeId × Value → H} {W : World}
theorem c_rows : Tryz.prog.cellsOf 23 = 1 := by kernel_rfl
theorem c_u64s : Tryz.prog.cellsOf 22 = 1 := by kernel_rfl
theorem c_uint : Tryz.prog.cellsOf 24 = 1 := by kernel_rfl
theorem c_syn : Tryz.prog.cellsOf 26 = 3 := by kernel_rfl
theorem ones_flatten : ∀ zs : List (Value × List Int), (zs.map fun z => [z.1]).flatten = zs.map Prod.fst
  | [] => rfl
  | z :: zs => by rw [List.map_cons, List.flatten_cons, ones_flatten zs]; rfl
theorem rdc_rows {cs : List Value} {d : DataW H} (h : RdC enc Tryz.prog W 23 cs d) : ∃ a n cap ls, cs = [.slice a n cap] ∧ RL .u8 W (.slice a n cap) n ls ∧ ∀ l ∈ ls, ∀ x ∈ l, 0 ≤ x ∧ x ≤ 255 := by
  obtain ⟨v, n, es, ds, e1, hcs, hn, hd, _, hel, _⟩ := rdc_slice Tryz.underlying23 c_bytes (by omega) h
  obtain ⟨l, hl, hR⟩ := pick (R := fun e (z : Value × List Int) => e = [z.1] ∧ RI .u8 W z.1 z.2.length z.2 ∧ Bytes z.2) es fun e he => by
    obtain ⟨i, hi, rfl⟩ := List.getElem_of_mem he
    obtain ⟨v, len, zs, h1, h2, h3⟩ := rdc_bytes (hel i _ _ (List.getElem?_eq_getElem hi) (List.getElem?_eq_getElem (show i < ds.length by omega)))
    have hz : zs.length = len := h2.length
    subst hz
    exact ⟨(v, zs), h1, h2, h3⟩
  have he : es = l.map fun z => [z.1] := List.ext_getElem (by simp [hl]) fun i h1 h2 => by
    rw [List.getElem_map]
    exact (hR i es[i] _ (List.getElem?_eq_getElem h1) (List.getElem?_eq_getElem (by omega))).1
  have hR2 : ∀ (i : Nat) (z : Value × List Int), l[i]? = some z → RI .u8 W z.1 z.2.length z.2 ∧ Bytes z.2 := fun i z hz => by
    have hi := (List.getElem?_eq_some_iff.1 hz).1
    exact (hR i es[i] z (List.getElem?_eq_getElem (by omega)) hz).2
  rw [he, ones_flatten] at hcs
  obtain ⟨a, cap, rfl, k1, k2, k3, k4, k5⟩ := hcs
  rw [Nat.mul_one] at k1 k5
  refine ⟨a, n, cap, l.map Prod.snd, e1, ⟨l.map Prod.fst, ⟨a, cap, rfl, k1, k2, k3, k4, k5⟩, by rw [List.length_map]; omega, fun j e z he hz => ?_⟩, fun z hz => ?_⟩
  · rw [List.getElem?_map] at he hz
    simp only [Option.map_eq_some_iff] at he hz
    obtain ⟨y, hy, rfl⟩ := he
    obtain ⟨y2, hy2, rfl⟩ := hz
    rw [hy] at hy2
    obtain rfl := Option.some.inj hy2
    exact (hR2 j y hy).1
  · obtain ⟨y, hy, rfl⟩ := List.mem_map.1 hz
    obtain ⟨i, hi, rfl⟩ := List.getElem_of_mem hy
    exact (hR2 i _ (List.getElem?_eq_getElem hi)).2.mem
set_option maxRecDepth 8000 in
theorem rdc_syn {cs : List Value} {d : DataW H} (h : RdC enc Tryz.prog W 26 cs d) :
    ∃ x a n cap ls N, cs = [.int .u64 x, .slice a n cap, .int .u64 N] ∧ U64 x ∧ U64 N ∧ RL .u8 W (.slice a n cap) n ls ∧ ∀ l ∈ ls, ∀ x ∈ l, 0 ≤ x ∧ x ≤ 255 := by
  obtain ⟨ds, rfl, hn, hl, hf⟩ := rdc_struct Tryz.underlying26 h
  rw [c_syn] at hl
  have hn3 : ds.length = 3 := hn
  match cs, hl, ds, hn3, hf with
  | [c0, c1, c2], _, [x0, x1, x2], _, hf =>
    have h0 : RdC enc Tryz.prog W 22 (([c0, c1, c2].drop 0).take (Tryz.prog.cellsOf 22)) x0 := hf 0 _ _ rfl rfl
    rw [c_u64s] at h0
    have h1 : RdC enc Tryz.prog W 23 (([c0, c1, c2].drop 1).take (Tryz.prog.cellsOf 23)) x1 := hf 1 _ _ rfl rfl
    rw [c_rows] at h1
    have h2 : RdC enc Tryz.prog W 24 (([c0, c1, c2].drop 2).take (Tryz.prog.cellsOf 24)) x2 := hf 2 _ _ rfl rfl
    rw [c_uint] at h2
    obtain ⟨x, e0, _, w0⟩ := rdc_int (cs := [c0]) Tryz.underlying22 h0
    obtain ⟨a, n, cap, ls, e1, r1, b1⟩ := rdc_rows (cs := [c1]) h1
    obtain ⟨N, e2, _, w2⟩ := rdc_int (cs := [c2]) Tryz.underlying24 h2
    simp only [List.cons.injEq, and_true] at e0 e1 e2
    subst e0; subst e1; subst e2
    exact ⟨x, a, n, cap, ls, N, rfl, u64_of w0, u64_of w2, r1, b1⟩
set_option maxRecDepth 8000 in
theorem rd_syn {r : Reach} {b : Nat} {v : Value} {d : DataW H} (ho : Value.okWide Tryz.prog W r b 26 v) (h : RdC enc Tryz.prog W 26 v.cells.toList d) :
    ∃ x a n cap ls N, v = .agg #[.int .u64 x, .slice a n cap, .int .u64 N] ∧ U64 x ∧ U64 N ∧ RL .u8 W (.slice a n cap) n ls ∧ ∀ l ∈ ls, ∀ x ∈ l, 0 ≤ x ∧ x ≤ 255 := by
  obtain ⟨cs, rfl, _⟩ := okWide_struct Tryz.underlying26 ho
  obtain ⟨x, a, n, cap, ls, N, e, h1, h2, h3, h4⟩ := rdc_syn h
  refine ⟨x, a, n, cap, ls, N, ?_, h1, h2, h3, h4⟩
  have e2 : cs.toList = _ := e
  rw [← Array.toArray_toList (xs := cs), e2]
end
end Go.Proofs.YtnmplnemnfonfaaGreatDoor
namespace Go.Proofs.YtnmplnemnfonfaaGreatDoor
open Go.RowKit Go.ChangeShapes Go.WideShapes
section
variable {H : Type} {enc : TypeId × Value → H} {W : World}
theorem c_place : Tryz.prog.cellsOf 28 = 2 := by kernel_rfl
theorem c_intp : Tryz.prog.cellsOf 3 = 1 := by kernel_rfl
set_option maxRecDepth 8000 in
theorem rd_place {r : Reach} {b : Nat} {v : Value} {d : DataW H} (ho : Value.okWide Tryz.prog W r b 28 v) (h : RdC enc Tryz.prog W 28 v.cells.toList d) :
    ∃ q a, v = .agg #[.int .i64 q, .int .i64 a] ∧ I63 q ∧ I63 a := by
  obtain ⟨cs, rfl, _⟩ := okWide_struct Tryz.underlying28 ho
  obtain ⟨q, a, e, w1, w2⟩ : ∃ q a, cs.toList = [.int .i64 q, .int .i64 a] ∧ I63 q ∧ I63 a := by
    have h : RdC enc Tryz.prog W 28 cs.toList d := h
    generalize cs.toList = l at h ⊢
    obtain ⟨ds, rfl, hn, hl, hf⟩ := rdc_struct Tryz.underlying28 h
    rw [c_place] at hl
    have hn2 : ds.length = 2 := hn
    match l, hl, ds, hn2, hf with
    | [c0, c1], _, [x0, x1], _, hf =>
      have h0 : RdC enc Tryz.prog W 3 (([c0, c1].drop 0).take (Tryz.prog.cellsOf 3)) x0 := hf 0 _ _ rfl rfl
      rw [c_intp] at h0
      have h1 : RdC enc Tryz.prog W 3 (([c0, c1].drop 1).take (Tryz.prog.cellsOf 3)) x1 := hf 1 _ _ rfl rfl
      rw [c_intp] at h1
      obtain ⟨q, e0, _, w0⟩ := rdc_int (cs := [c0]) Tryz.underlying3 h0
      obtain ⟨a, e1, _, w1⟩ := rdc_int (cs := [c1]) Tryz.underlying3 h1
      simp only [List.cons.injEq, and_true] at e0 e1
      subst e0; subst e1
      exact ⟨q, a, rfl, i63_wf w0, i63_wf w1⟩
  refine ⟨q, a, ?_, w1, w2⟩
  rw [← Array.toArray_toList (xs := cs), e]
end
end Go.Proofs.YtnmplnemnfonfaaGreatDoor
namespace Go.Proofs.YtnmplnemnfonfaaGreatDoor
open Go.RowKit
theorem FS.kin {w w' : World} (hb : Kin w w') {v : Value} {n : Nat} {fs : List Int} (h : FS w v n fs) : FS w' v n fs := by
  obtain ⟨a, cap, rfl, h1, h2, h3, h4, hc⟩ := h
  refine ⟨a, cap, rfl, h1, h2, h3, h4, fun h0 => ?_⟩
  obtain ⟨b, off, rfl, hcell⟩ := hc h0
  exact ⟨b, off, rfl, fun j hj => hb _ _ (hcell j hj)⟩
def mask (F : Nat → Bool) (w : World) : World := { w with heap := w.heap.mapIdx fun k o => bif F k then .cells #[] 0 (0, 0) else o }
theorem mask_heap (F : Nat → Bool) (w : World) (k : Nat) : (mask F w).heap[k]? = (w.heap[k]?).map fun o => bif F k then .cells #[] 0 (0, 0) else o := by
  simp [mask]
theorem unmask (F : Nat → Bool) (w : World) : Kin (mask F w) w := by
  intro a v h
  unfold World.cell? at h ⊢
  rw [mask_heap] at h
  cases hq : w.heap[a.block]? with
  | none => simp [hq] at h
  | some o =>
    cases hf : F a.block with
    | true => simp [hq, hf] at h
    | false => simpa [hq, hf] using h
def Foot (F : Nat → Bool) (n : Nat) : Prop := ∀ k, F k = true → k < n
theorem Foot.mono {F : Nat → Bool} {n m : Nat} (h : Foot F n) (hm : n ≤ m) : Foot F m := fun k hk => Nat.lt_of_lt_of_le (h k hk) hm
theorem Foot.none (n : Nat) : Foot (fun _ => false) n := fun _ h => by simp at h
structure Ext (F : Nat → Bool) (w w' : World) (F' : Nat → Bool) : Prop where
  os : w'.os = w.os
  tape : w'.tape = w.tape
  output : w'.output = w.output
  size : w.heap.size ≤ w'.heap.size
  block : ∀ k, k < w.heap.size → F k = false → w'.heap[k]? = w.heap[k]?
  foot : ∀ k, k < w.heap.size → F' k = F k
theorem Ext.refl (F : Nat → Bool) (w : World) : Ext F w w F := ⟨rfl, rfl, rfl, Nat.le_refl _, fun _ _ _ => rfl, fun _ _ => rfl⟩
theorem Ext.trans {F F' F'' : Nat → Bool} {a b c : World} (h : Ext F a b F') (k : Ext F' b c F'') : Ext F a c F'' :=
  ⟨k.os.trans h.os, k.tape.trans h.tape, k.output.trans h.output, Nat.le_trans h.size k.size,
    fun i hi hf => (k.block i (Nat.lt_of_lt_of_le hi h.size) (by rw [h.foot i hi]; exact hf)).trans (h.block i hi hf),
    fun i hi => (k.foot i (Nat.lt_of_lt_of_le hi h.size)).trans (h.foot i hi)⟩
theorem Ext.below {F : Nat → Bool} {w w' : World} (h : Below w.heap.size w w') : Ext F w w' F := ⟨h.os, h.tape, h.output, h.size, fun k hk _ => h.block k hk, fun _ _ => rfl⟩
theorem Ext.kin {F F' : Nat → Bool} {w w' : World} (h : Ext F w w' F') : Kin (mask F w) (mask F' w') := by
  intro a v hx
  unfold World.cell? at hx ⊢
  rw [mask_heap] at hx ⊢
  have hlt : a.block < w.heap.size := by
    rcases Nat.lt_or_ge a.block w.heap.size with hl | hl
    · exact hl
    · simp [Array.getElem?_eq_none hl] at hx
  cases hf : F a.block with
  | true => rw [Array.getElem?_eq_getElem hlt] at hx; simp [hf] at hx
  | false => rw [h.block _ hlt hf, h.foot _ hlt]; exact hx
theorem kin_mask {F : Nat → Bool} {w w' : World} (h : Below w.heap.size w w') : Kin (mask F w) (mask F w') := (Ext.below h).kin
def plusF (F : Nat → Bool) (n m : Nat) : Nat → Bool := fun k => F k || (decide (n ≤ k) && decide (k < m))
theorem plusF_mono (F : Nat → Bool) (n m k : Nat) (h : F k = true) : plusF F n m k = true := by simp [plusF, h]
theorem plusF_foot {F : Nat → Bool} {n m : Nat} (h : Foot F n) (hm : n ≤ m) : Foot (plusF F n m) m := by
  intro k hk
  simp only [plusF, Bool.or_eq_true, Bool.and_eq_true, decide_eq_true_eq] at hk
  rcases hk with hk | hk
  · have := h k hk; omega
  · exact hk.2
theorem plusF_in (F : Nat → Bool) (n m k : Nat) (h : n ≤ k) (h2 : k < m) : plusF F n m k = true := by simp [plusF, h, h2]
theorem Ext.setRow {F : Nat → Bool} {w w' : World} (h : Ext F w w' F) (b : Nat) (hb : F b = true) (cs : Array Value) : Ext F w (w'.setRow b cs) F :=
  h.trans ⟨rfl, rfl, rfl, by simp, fun k _ hf => setRow_other w' b k cs (by rintro rfl; rw [hb] at hf; simp at hf), fun _ _ => rfl⟩
theorem mask_none (w : World) : mask (fun _ => false) w = w := by
  unfold mask
  have : (w.heap.mapIdx fun k o => bif (fun _ => false) k then Obj.cells #[] 0 (0, 0) else o) = w.heap := by
    refine Array.ext (by simp) fun i h1 h2 => by simp
  rw [this]
theorem Ext.bel {F' : Nat → Bool} {w w' : World} (h : Ext (fun _ => false) w w' F') : Below w.heap.size w w' := ⟨h.os, h.tape, h.output, h.size, fun k hk => h.block k hk rfl⟩
end Go.Proofs.YtnmplnemnfonfaaGreatDoor
namespace Go.Proofs.YtnmplnemnfonfaaGreatDoor
open Go.RowKit
theorem own_mono {w : World} {base base' : Nat} {e : TypeId} {size : Nat} {v : Value} {n : Nat} {xs : List Value} (h : w.ownsRow base e size v n xs) (hb : base' ≤ base) : w.ownsRow base' e size v n xs := by
  refine ⟨h.1, ?_⟩
  rcases h.2 with h2 | ⟨g, cap, cur, hv, hg, h3⟩
  · exact .inl h2
  · exact .inr ⟨g, cap, cur, hv, Nat.le_trans hb hg, h3⟩
theorem own_form {w : World} {base : Nat} {e : TypeId} {size : Nat} {v : Value} {n : Nat} {xs : List Value} (h : w.ownsRow base e size v n xs) : ∃ a c, v = .slice a n c := by
  rcases h.2 with ⟨rfl, rfl⟩ | ⟨g, cap, cur, hv, _⟩
  · exact ⟨none, 0, rfl⟩
  · exact ⟨_, cap, hv⟩
theorem balloc (w : World) (o : Obj) : Below w.heap.size w (w.alloc o) := (Below.refl _ _).alloc (Nat.le_refl _) _
theorem bch {a b c : World} (h : Below a.heap.size a b) (k : Below b.heap.size b c) : Below a.heap.size a c := h.trans (k.mono h.size)
theorem bdrew0 (w : World) (o : Obj) : Below w.heap.size w (w.alloc o).drew := let h := balloc w o; ⟨h.os, h.tape, h.output, h.size, h.block⟩
theorem brow {B b : Nat} {a w : World} (h : Below B a w) (hB : B ≤ b) (ha : B ≤ a.heap.size) (c : Array Value) : Below B a (w.setRow b c) :=
  h.grown ⟨rfl, rfl, rfl, by simp, fun i _ hne => setRow_other w b i c (fun e => hne (by rw [e]))⟩ (Nat.le_trans ha h.size) (fun k e => by cases e; exact hB)
theorem bset {B b : Nat} {a w : World} (h : Below B a w) (hB : B ≤ b) (ha : B ≤ a.heap.size) (j : Nat) (v : Value) : Below B a (w.setCell ⟨b, j, none⟩ v) :=
  h.grown ⟨rfl, rfl, rfl, by simp, fun i _ hne => heap_setCell_other w ⟨b, j, none⟩ i v (fun e => hne (by rw [e]))⟩ (Nat.le_trans ha h.size) (fun k e => by cases e; exact hB)
theorem results_row_tmp2 {fn : Func} {p u x : Tmp} {ty : TypeId} {P : Program} (h : fn.results = #[.cell p ty, .tmp u, .tmp x]) (tmps : Array Value) (w : World) (g : Nat) (v : Value)
    (hp : tmps.getD p undef = .pointer (some ⟨g, 0, none⟩)) (hl : (loadVar ty ⟨g, 0, none⟩).run P w = .ok v w) :
    (results fn tmps).run P w = .ok (.tuple #[v, tmps.getD u undef, tmps.getD x undef]) w := by
  have hp' : tmps[p]?.getD undef = .pointer (some ⟨g, 0, none⟩) := by simpa using hp
  simp [results, h, hp', asAddr, hl, Result.andThen]
theorem bnew (w : World) (o : Obj) (c : Array Value) : Below w.heap.size w ((w.alloc o).setRow w.heap.size c) := brow (balloc w o) (Nat.le_refl _) (Nat.le_refl _) c
theorem conv_ri {w : World} {v : Value} {n : Nat} {zs : List Int} (h : RI .u8 w v n zs) : (convert 49 9 v).run Tryz.prog w = .ok (.string (strOfNums zs)) w :=
  conv_of Tryz.underlying49 Tryz.underlying5 Tryz.underlying9 h
theorem results_row_tmp {fn : Func} {p u : Tmp} {ty : TypeId} {P : Program} (h : fn.results = #[.cell p ty, .tmp u]) (tmps : Array Value) (w : World) (g : Nat) (v : Value)
    (hp : tmps.getD p undef = .pointer (some ⟨g, 0, none⟩)) (hl : (loadVar ty ⟨g, 0, none⟩).run P w = .ok v w) :
    (results fn tmps).run P w = .ok (.tuple #[v, tmps.getD u undef]) w := by
  rw [results_cell_tmp h]
  simp only [hp, asAddr, Sem.run_pure, Result.andThen_ok, hl]
theorem own_over {w w' : World} {base : Nat} {e : TypeId} {size : Nat} {v : Value} {n : Nat} {xs : List Value} {row : Option Nat} (h : w.ownsRow base e size v n xs) (hg : w.grownBy w' row) (hne : ∀ g, v.ownBlock = some g → some g ≠ row) : w'.ownsRow base e size v n xs := by
  refine ⟨h.1, ?_⟩
  rcases h.2 with h2 | ⟨g, cap, cur, hv, hb, hcur, h3⟩
  · exact .inl h2
  · refine .inr ⟨g, cap, cur, hv, hb, ?_, h3⟩
    rw [hg.block g (Array.getElem?_eq_some_iff.1 hcur).1 (hne g (by rw [hv]; rfl))]; exact hcur
theorem own_types {w : World} {base base' : Nat} {e e' : TypeId} {size size' : Nat} {v v' : Value} {n n' : Nat} {xs xs' : List Value} (h : w.ownsRow base e size v n xs) (h' : w.ownsRow base' e' size' v' n' xs') (hne : e ≠ e') : ∀ g, v.ownBlock = some g → some g ≠ v'.ownBlock := by
  intro g hg he
  rcases h.2 with ⟨rfl, _⟩ | ⟨q, cap, cur, rfl, _, hcur, _⟩
  · simp [Value.ownBlock] at hg
  · simp only [Value.ownBlock, Option.some.injEq] at hg
    subst hg
    rcases h'.2 with ⟨rfl, _⟩ | ⟨q', cap', cur', rfl, _, hcur', _⟩
    · simp [Value.ownBlock] at he
    · simp only [Value.ownBlock, Option.some.injEq] at he
      subst he
      rw [hcur] at hcur'
      simp only [Option.some.injEq, Obj.cells.injEq] at hcur'
      exact hne hcur'.2.1
end Go.Proofs.YtnmplnemnfonfaaGreatDoor
