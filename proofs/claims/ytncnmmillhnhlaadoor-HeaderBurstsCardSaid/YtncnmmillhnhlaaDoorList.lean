/-
  LISTS IN MEMORY: cells that stay what they are from one world to another (Kin); slices of structs, told by their cells (CS); slices of bools (BS). Nothing here speaks of the program's functions. No condition.
-/
import Derived.Test.YtncnmmillhnhlaaDoorBase
namespace Go.Proofs.YtncnmmillhnhlaaDoor
open Go.RowKit
/-- each cell of w is in w' what it is in w -/
def Kin (w w' : World) : Prop := ∀ (a : Addr) (v : Value), w.cell? a = some v → w'.cell? a = some v
theorem Kin.refl (w : World) : Kin w w := fun _ _ h => h
theorem Kin.trans {a b c : World} (h : Kin a b) (k : Kin b c) : Kin a c := fun x v hx => k x v (h x v hx)
theorem Kin.below {w w' : World} (h : Below w.heap.size w w') : Kin w w' := fun _ _ hx => cell_keep h hx
theorem RI.kin {k : IntKind} {w w' : World} (hb : Kin w w') {v : Value} {len : Nat} {zs : List Int} (h : RI k w v len zs) : RI k w' v len zs := by
  obtain ⟨a, cap, rfl, h1, h2, h3, h4, hc⟩ := h
  refine ⟨a, cap, rfl, h1, h2, h3, h4, fun h0 => ?_⟩
  obtain ⟨b, off, rfl, hcell⟩ := hc h0
  exact ⟨b, off, rfl, fun j hj => hb _ _ (hcell j hj)⟩
/-- a slice of n elements of k cells each, told by all their cells -/
def CS (k : Nat) (w : World) (v : Value) (n : Nat) (cs : List Value) : Prop :=
  ∃ a cap, v = .slice a n cap ∧ cs.length = n * k ∧ n ≤ cap ∧ cap ≤ 9223372036854775807 ∧ (a = none → cap = 0) ∧
    (0 < n → ∃ b off, a = some ⟨b, off, none⟩ ∧ ∀ j, j < n * k → w.cell? ⟨b, off + j, none⟩ = cs[j]?)
theorem CS.length {k : Nat} {w : World} {v : Value} {n : Nat} {cs : List Value} (h : CS k w v n cs) : cs.length = n * k := h.choose_spec.choose_spec.2.1
theorem CS.le {k : Nat} {w : World} {v : Value} {n : Nat} {cs : List Value} (h : CS k w v n cs) : n ≤ 9223372036854775807 := by
  obtain ⟨_, _, _, _, h1, h2, _⟩ := h; omega
theorem CS.form {k : Nat} {w : World} {v : Value} {n : Nat} {cs : List Value} (h : CS k w v n cs) : ∃ a cap, v = .slice a n cap ∧ n ≤ cap ∧ cap ≤ 9223372036854775807 ∧ (a = none → cap = 0) := by
  obtain ⟨a, cap, h1, _, h2, h3, h4, _⟩ := h; exact ⟨a, cap, h1, h2, h3, h4⟩
theorem CS.nil (k : Nat) (w : World) : CS k w (.slice none 0 0) 0 [] := ⟨none, 0, rfl, by simp, Nat.le_refl _, by omega, fun _ => rfl, fun h => absurd h (by omega)⟩
theorem CS.kin {k : Nat} {w w' : World} (hb : Kin w w') {v : Value} {n : Nat} {cs : List Value} (h : CS k w v n cs) : CS k w' v n cs := by
  obtain ⟨a, cap, rfl, h1, h2, h3, h4, hc⟩ := h
  refine ⟨a, cap, rfl, h1, h2, h3, h4, fun h0 => ?_⟩
  obtain ⟨b, off, rfl, hcell⟩ := hc h0
  refine ⟨b, off, rfl, fun j hj => ?_⟩
  have hj2 : cs[j]? = some cs[j] := List.getElem?_eq_getElem (by omega)
  have := hcell j hj
  rw [hj2] at this ⊢
  exact hb _ _ this
theorem CS.own {w : World} {base k : Nat} {e : TypeId} {v : Value} {n : Nat} {cs : List Value} (h : w.ownsRow base e k v n cs) : CS k w v n cs := by
  have hl : cs.length = n * k := h.1
  rcases h.2 with ⟨rfl, rfl⟩ | ⟨g, cap, cur, rfl, _, _, hnc, hcm, _⟩
  · exact ⟨none, 0, rfl, hl, Nat.le_refl _, by omega, fun _ => rfl, fun h => absurd h (by omega)⟩
  · refine ⟨_, cap, rfl, hl, hnc, by unfold maxLen at hcm; omega, fun h => by simp at h, fun _ => ⟨g, 0, rfl, fun j hj => ?_⟩⟩
    rw [Nat.zero_add, h.cellAt j (by omega)]
/-- where an element lies -/
theorem CS.at_ {k : Nat} {w : World} {a : Option Addr} {n cap : Nat} {cs : List Value} (h : CS k w (.slice a n cap) n cs) (i : Nat) (hi : i < n) :
    ∃ b off, a = some ⟨b, off, none⟩ ∧ ∀ j, j < k → w.cell? ⟨b, off + i * k + j, none⟩ = cs[i * k + j]? := by
  obtain ⟨a', cap', e, _, _, _, _, hc⟩ := h
  simp only [Value.slice.injEq, true_and] at e
  obtain ⟨rfl, rfl⟩ := e
  obtain ⟨b, off, rfl, hcell⟩ := hc (by omega)
  refine ⟨b, off, rfl, fun j hj => ?_⟩
  rw [Nat.add_assoc]
  refine hcell (i * k + j) ?_
  have : (i + 1) * k ≤ n * k := Nat.mul_le_mul_right k hi
  rw [Nat.add_mul, Nat.one_mul] at this
  omega
/-- a slice of bools -/
def BS (w : World) (v : Value) (n : Nat) (bs : List Bool) : Prop := CS 1 w v n (bs.map .bool)
theorem BS.length {w : World} {v : Value} {n : Nat} {bs : List Bool} (h : BS w v n bs) : bs.length = n := by have := CS.length h; simpa using this
theorem BS.kin {w w' : World} (hb : Kin w w') {v : Value} {n : Nat} {bs : List Bool} (h : BS w v n bs) : BS w' v n bs := CS.kin hb h
theorem BS.at_ {w : World} {a : Option Addr} {n cap : Nat} {bs : List Bool} (h : BS w (.slice a n cap) n bs) (i : Nat) (hi : i < n) :
    ∃ b off, a = some ⟨b, off, none⟩ ∧ w.cell? ⟨b, off + i, none⟩ = some (.bool (bs.getD i false)) := by
  obtain ⟨b, off, rfl, hc⟩ := CS.at_ h i hi
  refine ⟨b, off, rfl, ?_⟩
  have h1 := hc 0 (by omega)
  have hl := h.length
  have hi2 : i < bs.length := by omega
  simpa [hi2, List.getD] using h1
theorem flat_length (k : Nat) : ∀ es : List (List Value), (∀ e ∈ es, e.length = k) → es.flatten.length = es.length * k
  | [], _ => by simp
  | e :: es, h => by
    rw [List.flatten_cons, List.length_append, flat_length k es (fun x hx => h x (List.mem_cons_of_mem _ hx)), h e (List.mem_cons_self ..), List.length_cons, Nat.add_mul]; omega
theorem flat_get (k : Nat) : ∀ (es : List (List Value)) (i j : Nat), (∀ e ∈ es, e.length = k) → j < k → ∀ e, es[i]? = some e → es.flatten[i * k + j]? = e[j]?
  | [], i, j, _, _, e, he => by simp at he
  | a :: es, 0, j, h, hj, e, he => by
    simp at he; subst he
    rw [List.flatten_cons, Nat.zero_mul, Nat.zero_add, List.getElem?_append_left (by rw [h a (List.mem_cons_self ..)]; exact hj)]
  | a :: es, i + 1, j, h, hj, e, he => by
    have ha := h a (List.mem_cons_self ..)
    rw [List.flatten_cons, List.getElem?_append_right (by rw [ha, Nat.add_mul]; omega), ha, show (i + 1) * k + j - k = i * k + j from by rw [Nat.add_mul]; omega]
    exact flat_get k es i j (fun x hx => h x (List.mem_cons_of_mem _ hx)) hj e (by simpa using he)
end Go.Proofs.YtncnmmillhnhlaaDoor
