/-
  WHAT IS SEEN OF A WORLD: cells that stay what they are from one world to another (Kin); a world without some blocks (mask), so that what is said of it is said of the others alone; slices of structs, told by their cells (CS); slices of bools (BS). Nothing here speaks of the program's functions. No condition.
-/
import Derived.Test.YtdadeloojblekaaSecs
namespace Go.Proofs.Ytdadeloojblekaa
open Go.RowKit
/-- each cell of w is in w' what it is in w -/
def Kin (w w' : World) : Prop := ∀ (a : Addr) (v : Value), w.cell? a = some v → w'.cell? a = some v
theorem Kin.refl (w : World) : Kin w w := fun _ _ h => h
theorem Kin.trans {a b c : World} (h : Kin a b) (k : Kin b c) : Kin a c := fun x v hx => k x v (h x v hx)
theorem Kin.below {w w' : World} (h : Below w.heap.size w w') : Kin w w' := fun _ _ hx => cell_keep h hx
theorem RI.kin {k : IntKind} {w w' : World} (hb : Kin w w') {v : Value} {len : Nat} {zs : List Int} (h : RI k w v len zs) : RI k w' v len zs := by
  obtain ⟨a, cap, rfl, h1, h2, h3, h4, hc⟩ := h
  refine ⟨a, cap, rfl, h1, h2, h3, h4, fun h0 => ?_⟩
  obtain ⟨b, off, rfl, hcell⟩ := hc h0
  exact ⟨b, off, rfl, fun j hj => hb _ _ (hcell j hj)⟩
theorem FS.kin {w w' : World} (hb : Kin w w') {v : Value} {n : Nat} {fs : List Int} (h : FS w v n fs) : FS w' v n fs := by
  obtain ⟨a, cap, rfl, h1, h2, h3, h4, hc⟩ := h
  refine ⟨a, cap, rfl, h1, h2, h3, h4, fun h0 => ?_⟩
  obtain ⟨b, off, rfl, hcell⟩ := hc h0
  exact ⟨b, off, rfl, fun j hj => hb _ _ (hcell j hj)⟩
/-- w without the blocks of F -/
def mask (F : Nat → Bool) (w : World) : World := { w with heap := w.heap.mapIdx fun k o => bif F k then .cells #[] 0 (0, 0) else o }
theorem mask_heap (F : Nat → Bool) (w : World) (k : Nat) : (mask F w).heap[k]? = (w.heap[k]?).map fun o => bif F k then .cells #[] 0 (0, 0) else o := by
  simp [mask]
theorem mask_size (F : Nat → Bool) (w : World) : (mask F w).heap.size = w.heap.size := by simp [mask]
theorem unmask (F : Nat → Bool) (w : World) : Kin (mask F w) w := by
  intro a v h
  unfold World.cell? at h ⊢
  rw [mask_heap] at h
  cases hq : w.heap[a.block]? with
  | none => simp [hq] at h
  | some o =>
    cases hf : F a.block with
    | true => simp [hq, hf] at h
    | false => simpa [hq, hf] using h
/-- the blocks of F stand in w -/
def Foot (F : Nat → Bool) (n : Nat) : Prop := ∀ k, F k = true → k < n
theorem Foot.mono {F : Nat → Bool} {n m : Nat} (h : Foot F n) (hm : n ≤ m) : Foot F m := fun k hk => Nat.lt_of_lt_of_le (h k hk) hm
theorem Foot.none (n : Nat) : Foot (fun _ => false) n := fun _ h => by simp at h
/-- w' is w but for the blocks of F, and for new ones; F' has no others of the old ones than F -/
structure Ext (F : Nat → Bool) (w w' : World) (F' : Nat → Bool) : Prop where
  os : w'.os = w.os
  tape : w'.tape = w.tape
  output : w'.output = w.output
  size : w.heap.size ≤ w'.heap.size
  block : ∀ k, k < w.heap.size → F k = false → w'.heap[k]? = w.heap[k]?
  foot : ∀ k, k < w.heap.size → F' k = F k
theorem Ext.refl (F : Nat → Bool) (w : World) : Ext F w w F := ⟨rfl, rfl, rfl, Nat.le_refl _, fun _ _ _ => rfl, fun _ _ => rfl⟩
theorem Ext.trans {F F' F'' : Nat → Bool} {a b c : World} (h : Ext F a b F') (k : Ext F' b c F'') : Ext F a c F'' :=
  ⟨k.os.trans h.os, k.tape.trans h.tape, k.output.trans h.output, Nat.le_trans h.size k.size,
    fun i hi hf => (k.block i (Nat.lt_of_lt_of_le hi h.size) (by rw [h.foot i hi]; exact hf)).trans (h.block i hi hf),
    fun i hi => (k.foot i (Nat.lt_of_lt_of_le hi h.size)).trans (h.foot i hi)⟩
theorem Ext.below {F : Nat → Bool} {w w' : World} (h : Below w.heap.size w w') : Ext F w w' F := ⟨h.os, h.tape, h.output, h.size, fun k hk _ => h.block k hk, fun _ _ => rfl⟩
theorem Ext.kin {F F' : Nat → Bool} {w w' : World} (h : Ext F w w' F') : Kin (mask F w) (mask F' w') := by
  intro a v hx
  unfold World.cell? at hx ⊢
  rw [mask_heap] at hx ⊢
  have hlt : a.block < w.heap.size := by
    rcases Nat.lt_or_ge a.block w.heap.size with hl | hl
    · exact hl
    · simp [Array.getElem?_eq_none hl] at hx
  cases hf : F a.block with
  | true => rw [Array.getElem?_eq_getElem hlt] at hx; simp [hf] at hx
  | false => rw [h.block _ hlt hf, h.foot _ hlt]; exact hx
theorem kin_mask {F : Nat → Bool} {w w' : World} (h : Below w.heap.size w w') : Kin (mask F w) (mask F w') := (Ext.below h).kin
theorem kin_drew (F : Nat → Bool) (w : World) : Kin (mask F w) (mask F w.drew) := kin_mask (Below.refl _ _).drew
/-- what is said of fewer blocks holds of more -/
theorem mask_mono {F F' : Nat → Bool} (h : ∀ k, F k = true → F' k = true) (w : World) : Kin (mask F' w) (mask F w) := by
  intro a v hx
  unfold World.cell? at hx ⊢
  rw [mask_heap] at hx ⊢
  cases hq : w.heap[a.block]? with
  | none => simp [hq] at hx
  | some o =>
    cases hf' : F' a.block with
    | true => simp [hq, hf'] at hx
    | false =>
      have hf : F a.block = false := by
        cases hf : F a.block with
        | false => rfl
        | true => rw [h _ hf] at hf'; simp at hf'
      simpa [hq, hf, hf'] using hx
/-- F, and the blocks from n on -/
def plusF (F : Nat → Bool) (n m : Nat) : Nat → Bool := fun k => F k || (decide (n ≤ k) && decide (k < m))
theorem plusF_mono (F : Nat → Bool) (n m k : Nat) (h : F k = true) : plusF F n m k = true := by simp [plusF, h]
theorem plusF_foot {F : Nat → Bool} {n m : Nat} (h : Foot F n) (hm : n ≤ m) : Foot (plusF F n m) m := by
  intro k hk
  simp only [plusF, Bool.or_eq_true, Bool.and_eq_true, decide_eq_true_eq] at hk
  rcases hk with hk | hk
  · have := h k hk; omega
  · exact hk.2
theorem plusF_ext {F : Nat → Bool} {w w' : World} (h : Below w.heap.size w w') : Ext F w w' (plusF F w.heap.size w'.heap.size) :=
  ⟨h.os, h.tape, h.output, h.size, fun k hk _ => h.block k hk, fun k hk => by simp [plusF]; intro h1; omega⟩
theorem plusF_in (F : Nat → Bool) (n m k : Nat) (h : n ≤ k) (h2 : k < m) : plusF F n m k = true := by simp [plusF, h, h2]
theorem Ext.setRow {F : Nat → Bool} {w w' : World} (h : Ext F w w' F) (b : Nat) (hb : F b = true) (cs : Array Value) : Ext F w (w'.setRow b cs) F :=
  h.trans ⟨rfl, rfl, rfl, by simp, fun k _ hf => setRow_other w' b k cs (by rintro rfl; rw [hb] at hf; simp at hf), fun _ _ => rfl⟩
/-- what a call made lies apart from the blocks that stood ahead of it -/
theorem own_mask {F : Nat → Bool} {w : World} {base : Nat} {e : TypeId} {size : Nat} {v : Value} {n : Nat} {xs : List Value} (hF : Foot F base) (h : w.ownsRow base e size v n xs) : (mask F w).ownsRow base e size v n xs := by
  refine ⟨h.1, ?_⟩
  rcases h.2 with h2 | ⟨g, cap, cur, hv, hg, hcur, h3⟩
  · exact .inl h2
  · refine .inr ⟨g, cap, cur, hv, hg, ?_, h3⟩
    have hf : F g = false := by
      cases hq : F g with
      | false => rfl
      | true => have := hF g hq; omega
    rw [mask_heap, hcur]; simp [hf]
theorem mask_none (w : World) : mask (fun _ => false) w = w := by
  unfold mask
  have : (w.heap.mapIdx fun k o => bif (fun _ => false) k then Obj.cells #[] 0 (0, 0) else o) = w.heap := by
    refine Array.ext (by simp) fun i h1 h2 => by simp
  rw [this]
/-- a slice of n elements of k cells each, told by all their cells -/
def CS (k : Nat) (w : World) (v : Value) (n : Nat) (cs : List Value) : Prop :=
  ∃ a cap, v = .slice a n cap ∧ cs.length = n * k ∧ n ≤ cap ∧ cap ≤ 9223372036854775807 ∧ (a = none → cap = 0) ∧
    (0 < n → ∃ b off, a = some ⟨b, off, none⟩ ∧ ∀ j, j < n * k → w.cell? ⟨b, off + j, none⟩ = cs[j]?)
theorem CS.length {k : Nat} {w : World} {v : Value} {n : Nat} {cs : List Value} (h : CS k w v n cs) : cs.length = n * k := h.choose_spec.choose_spec.2.1
theorem CS.le {k : Nat} {w : World} {v : Value} {n : Nat} {cs : List Value} (h : CS k w v n cs) : n ≤ 9223372036854775807 := by
  obtain ⟨_, _, _, _, h1, h2, _⟩ := h; omega
theorem CS.form {k : Nat} {w : World} {v : Value} {n : Nat} {cs : List Value} (h : CS k w v n cs) : ∃ a cap, v = .slice a n cap ∧ n ≤ cap ∧ cap ≤ 9223372036854775807 ∧ (a = none → cap = 0) := by
  obtain ⟨a, cap, h1, _, h2, h3, h4, _⟩ := h; exact ⟨a, cap, h1, h2, h3, h4⟩
theorem CS.nil (k : Nat) (w : World) : CS k w (.slice none 0 0) 0 [] := ⟨none, 0, rfl, by simp, Nat.le_refl _, by omega, fun _ => rfl, fun h => absurd h (by omega)⟩
theorem CS.kin {k : Nat} {w w' : World} (hb : Kin w w') {v : Value} {n : Nat} {cs : List Value} (h : CS k w v n cs) : CS k w' v n cs := by
  obtain ⟨a, cap, rfl, h1, h2, h3, h4, hc⟩ := h
  refine ⟨a, cap, rfl, h1, h2, h3, h4, fun h0 => ?_⟩
  obtain ⟨b, off, rfl, hcell⟩ := hc h0
  refine ⟨b, off, rfl, fun j hj => ?_⟩
  have hj2 : cs[j]? = some cs[j] := List.getElem?_eq_getElem (by omega)
  have := hcell j hj
  rw [hj2] at this ⊢
  exact hb _ _ this
theorem CS.own {w : World} {base k : Nat} {e : TypeId} {v : Value} {n : Nat} {cs : List Value} (h : w.ownsRow base e k v n cs) : CS k w v n cs := by
  have hl : cs.length = n * k := h.1
  rcases h.2 with ⟨rfl, rfl⟩ | ⟨g, cap, cur, rfl, _, _, hnc, hcm, _⟩
  · exact ⟨none, 0, rfl, hl, Nat.le_refl _, by omega, fun _ => rfl, fun h => absurd h (by omega)⟩
  · refine ⟨_, cap, rfl, hl, hnc, by unfold maxLen at hcm; omega, fun h => by simp at h, fun _ => ⟨g, 0, rfl, fun j hj => ?_⟩⟩
    rw [Nat.zero_add, h.cellAt j (by omega)]
/-- where an element lies -/
theorem CS.at_ {k : Nat} {w : World} {a : Option Addr} {n cap : Nat} {cs : List Value} (h : CS k w (.slice a n cap) n cs) (i : Nat) (hi : i < n) :
    ∃ b off, a = some ⟨b, off, none⟩ ∧ ∀ j, j < k → w.cell? ⟨b, off + i * k + j, none⟩ = cs[i * k + j]? := by
  obtain ⟨a', cap', e, _, _, _, _, hc⟩ := h
  simp only [Value.slice.injEq, true_and] at e
  obtain ⟨rfl, rfl⟩ := e
  obtain ⟨b, off, rfl, hcell⟩ := hc (by omega)
  refine ⟨b, off, rfl, fun j hj => ?_⟩
  rw [Nat.add_assoc]
  refine hcell (i * k + j) ?_
  have : (i + 1) * k ≤ n * k := Nat.mul_le_mul_right k hi
  rw [Nat.add_mul, Nat.one_mul] at this
  omega
/-- a slice of bools -/
def BS (w : World) (v : Value) (n : Nat) (bs : List Bool) : Prop := CS 1 w v n (bs.map .bool)
theorem BS.length {w : World} {v : Value} {n : Nat} {bs : List Bool} (h : BS w v n bs) : bs.length = n := by have := CS.length h; simpa using this
theorem BS.kin {w w' : World} (hb : Kin w w') {v : Value} {n : Nat} {bs : List Bool} (h : BS w v n bs) : BS w' v n bs := CS.kin hb h
theorem BS.at_ {w : World} {a : Option Addr} {n cap : Nat} {bs : List Bool} (h : BS w (.slice a n cap) n bs) (i : Nat) (hi : i < n) :
    ∃ b off, a = some ⟨b, off, none⟩ ∧ w.cell? ⟨b, off + i, none⟩ = some (.bool (bs.getD i false)) := by
  obtain ⟨b, off, rfl, hc⟩ := CS.at_ h i hi
  refine ⟨b, off, rfl, ?_⟩
  have h1 := hc 0 (by omega)
  have hl := h.length
  have hi2 : i < bs.length := by omega
  simpa [hi2, List.getD] using h1
end Go.Proofs.Ytdadeloojblekaa
