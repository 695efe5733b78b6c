/-
  APPEND OF A LIST OF VALUES OF ONE CELL EACH TO A ROW THAT A CALL MADE, as a step of the walk; a list of slices copied so, and grown by one (rl_grow). Nothing here speaks of the program's functions. No condition.
-/
import Derived.Test.YtjlnceldnbpapaaDoorSlices
namespace Go.Proofs.YtjlnceldnbpapaaDoor
open Go.RowKit
theorem wpl_appv {P : Program} {w : World} {ops : Array Oper} {rest : List Oper} {o : Oper} {a : Act} {Q : Exit → Act → World → Prop} (hgd : o.guard = none) (s x : Operand) (t : TypeId) (ho : o.op = .call { callee := .builtin .append, args := #[s, x], argTypes := #[t, t] })
    (e : TypeId) (z : Value) (bytes : Nat) (ht : P.underlying t = some (.slice e)) (hinfo : (P.info? e).map (fun i => (i.zero, i.size, i.bytes)) = some (some z, 1, bytes)) (hz : z.cells.size = 1)
    (base : Nat) (v : Value) (n : Nat) (es : List Value) (hs : a.eval s = v) (hown : w.ownsRow base e 1 v n es)
    (v2 : Value) (m : Nat) (fs : List Value) (hx : a.eval x = v2) (hrv : RV w v2 m fs) (hone : ∀ u ∈ fs, u.oneCell' = true) (hbytes : ((n + m) + (n + m) / 4 + 192) * bytes ≤ 281474976710656) (h63 : n + m ≤ 9223372036854775807) (hbase : base ≤ w.heap.size)
    (h : ∀ v' w', Hid (w'.ownsRow base e 1 v' (n + m) (es ++ fs)) → Hid (w.grownBy w' v.ownBlock) → wpList P ops Q rest (a.put o.dst v') w') : wpList P ops Q (o :: rest) a w := by
  obtain ⟨i, hi, hz0, hz1, hz2⟩ := info_parts hinfo
  obtain ⟨ad, cap, rfl, hl, hlc, _, hnil, hc⟩ := hrv
  cases ad with
  | none =>
    obtain rfl : cap = 0 := hnil rfl
    obtain rfl : m = 0 := by omega
    obtain rfl : fs = [] := List.length_eq_zero_iff.1 hl
    refine wpList_append_own_none hgd s x t ho base e i 1 ht hi v n es hs hown hx ?_
    exact h v w (by rw [List.append_nil]; exact hown) ⟨rfl, rfl, rfl, Nat.le_refl _, fun _ _ _ => rfl⟩
  | some ad =>
    refine wpList_append_own_wide w hgd s x t ho base e i z 1 bytes ht hi hz0 hz1 hz2 hz (by omega) v n es hs hown ad m cap fs hx (by omega) ?_ hone (by unfold maxLen; omega) hbytes hbase ?_
    · intro j u hj
      have hjl := (List.getElem?_eq_some_iff.1 hj).1
      obtain ⟨b, off, e1, hcell⟩ := hc (by omega)
      obtain rfl := Option.some.inj e1
      have := hcell j (by omega)
      rw [hj] at this
      have e2 : (⟨b, off, none⟩ : Addr).add j = ⟨b, off + j, none⟩ := by unfold Addr.add; split <;> simp_all
      rw [e2]; exact this
    · intro v' w' h1 h2 _
      exact h v' w' h1 h2
theorem rl_grow {k : IntKind} {W w' : World} {base : Nat} {t : TypeId} {v' : Value} {n m : Nat} {es : List Value} {ls : List (List Int)} {y : Value} {l : List Int} (hl : ls.length = n) (hes : es.length = n)
    (h : ∀ (j : Nat) (e : Value) (l : List Int), es[j]? = some e → ls[j]? = some l → RI k W e l.length l) (hy : RI k W y m l) (hm : l.length = m) (hb : Below W.heap.size W w') (ho : w'.ownsRow base t 1 v' (n + 1) (es ++ [y])) : RL k w' v' (n + 1) (ls ++ [l]) := by
  refine ⟨_, RV.own ho, by simp [hl], fun j e x he hx => ?_⟩
  by_cases hj : j < n
  · rw [List.getElem?_append_left (by omega)] at he hx
    exact (h j e x he hx).keep hb
  · rw [List.getElem?_append_right (by omega)] at he hx
    rw [hes] at he; rw [hl] at hx
    cases hk : j - n with
    | zero =>
      rw [hk] at he hx
      simp at he hx
      subst he hx
      rw [hm]
      exact hy.keep hb
    | succ q => rw [hk] at he; simp at he
theorem ri_one {k : IntKind} {w : World} {e : Value} {n : Nat} {l : List Int} (h : RI k w e n l) : e.oneCell' = true := by
  obtain ⟨a, c, rfl, _⟩ := h; rfl
end Go.Proofs.YtjlnceldnbpapaaDoor
