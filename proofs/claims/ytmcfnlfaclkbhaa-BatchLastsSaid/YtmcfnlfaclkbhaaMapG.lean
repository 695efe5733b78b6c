/-
  MAPS FROM TEXTS to whatever an element reads as (ElemR), as they are told by a list of things that have a name (nm) and an element (vl): look-ups, stores, deletions, lengths, ranges. Nothing here speaks of the program's functions. No condition.
-/
import Derived.Test.YtmcfnlfaclkbhaaGt
import Derived.StringKeys
import Derived.Maps.Own
import Derived.Maps.OwnOps
import Derived.Maps.OwnSet
import Derived.Maps.RangeWalk
namespace Go.Proofs.Ytmcfnlfaclkbhaa
open Go.RowKit Go.Maps Go.WideMaps
/-- how elements read -/
structure ElemR {α : Type} (vl : α → Value) (zv : Value) (R : Value → Option (DataW Unit × List MemPlace)) (dat : α → DataW Unit) : Prop where
  lit : ∀ x, R (vl x) = some (dat x, [])
  nil : R zv = some (.nil, [])
  inv : ∀ {v : Value} {x : α} {ps : List MemPlace}, R v = some (dat x, ps) → v = vl x
  inv_nil : ∀ {v : Value} {ps : List MemPlace}, R v = some (.nil, ps) → v = zv
section
variable {α : Type} (nm : α → ByteArray) (dat : α → DataW Unit)
def keyL (s : ByteArray) : Lit := .string s.data.toList
/-- what the map reads as -/
def ents (l : List α) : DataW Unit := .map (l.map fun x => (keyL (nm x), dat x))
def outBy (l : List α) (s : ByteArray) : List α := l.filter fun x => !decide (nm x = s)
def inBy (l : List α) (x : α) : List α := l.take (l.findIdx fun y => gtN (nm y) (nm x)) ++ x :: l.drop (l.findIdx fun y => gtN (nm y) (nm x))
theorem same_key (a b : ByteArray) : (keyL a).sameKey (keyL b) = decide (a = b) := by
  show (a.data.toList == b.data.toList) = _
  by_cases h : a = b
  · subst h; simp
  · have h2 : a.data.toList ≠ b.data.toList := fun e => h (by cases a; cases b; simp at e; simpa using e)
    rw [decide_eq_false h]; exact beq_eq_false_iff_ne.2 h2
theorem ents_del (l : List α) (s : ByteArray) : (ents nm dat l).del (keyL s) = ents nm dat (outBy nm l s) := by
  unfold ents DataW.del outBy
  simp only [List.filter_map]
  congr 2
  refine List.filter_congr fun x _ => ?_
  simp [same_key]
theorem ents_size (l : List α) : Maps.size (ents nm dat l) = l.length := by simp [ents, Maps.size]
theorem before_eq : ∀ a b : List UInt8, bytesBefore a b = decide (a < b)
  | [], [] => by simp [bytesBefore]
  | _ :: _, [] => by simp [bytesBefore]
  | [], _ :: _ => by simp [bytesBefore]
  | a :: x, b :: y => by
    rw [bytesBefore, before_eq x y]
    simp only [List.cons_lt_cons_iff]
    by_cases h1 : a < b <;> by_cases h2 : a = b <;> by_cases h3 : x < y <;> simp [h1, h2, h3]
theorem before_gt (a b : ByteArray) : (keyL a).before (keyL b) = gtN b a := by
  show bytesBefore a.data.toList b.data.toList = _
  rw [before_eq, ← Lib.toList_data, ← Lib.toList_data]
  by_cases h : a.toList < b.toList
  · rw [decide_eq_true h]; exact ((gtN_iff b a).2 h).symm
  · rw [decide_eq_false h]
    cases hg : gtN b a with
    | false => rfl
    | true => exact absurd ((gtN_iff b a).1 hg) h
theorem insert_map (x : α) : ∀ l : List α, DataW.insert (keyL (nm x), dat x) (l.map fun y => (keyL (nm y), dat y)) = (inBy nm l x).map fun y => (keyL (nm y), dat y)
  | [] => rfl
  | y :: r => by
    rw [List.map_cons, DataW.insert]
    unfold inBy
    rw [List.findIdx_cons]
    by_cases h : gtN (nm y) (nm x) = true
    · rw [if_pos (by rw [before_gt]; exact h), h]; simp
    · rw [if_neg (by rw [before_gt]; exact h)]
      rw [Bool.not_eq_true] at h
      rw [h, insert_map x r]
      simp [inBy]
theorem ents_put (l : List α) (x : α) : (ents nm dat l).put (keyL (nm x)) (dat x) = ents nm dat (inBy nm (outBy nm l (nm x)) x) := by
  unfold ents DataW.put
  have h := ents_del nm dat l (nm x)
  unfold ents DataW.del at h
  simp only [DataW.map.injEq] at h ⊢
  rw [h, insert_map]
/-- the first thing of that name -/
def atBy (l : List α) (s : ByteArray) : Option α := l.find? fun x => decide (nm x = s)
theorem ents_at (l : List α) (s : ByteArray) : (ents nm dat l).atKey (keyL s) .nil = match atBy nm l s with | some x => dat x | none => .nil := by
  unfold ents DataW.atKey atBy
  simp only [List.find?_map]
  have e : ((fun p : Lit × DataW Unit => p.1.sameKey (keyL s)) ∘ fun x : α => (keyL (nm x), dat x)) = fun x => decide (nm x = s) := by
    funext x; exact same_key _ _
  rw [e]
  cases l.find? fun x => decide (nm x = s) <;> rfl
theorem ents_has (l : List α) (s : ByteArray) : Maps.has (ents nm dat l) (keyL s) = (atBy nm l s).isSome := by
  unfold ents atBy
  rw [Maps.has_eq, List.any_map]
  induction l with
  | nil => rfl
  | cons x l ih =>
    rw [List.any_cons, List.find?_cons, ih]
    simp only [Function.comp, same_key]
    cases decide (nm x = s) <;> simp
section
variable (vl : α → Value) (zv : Value) (R : Value → Option (DataW Unit × List MemPlace))
/-- what a look-up answers -/
def lookV (l : List α) (s : ByteArray) : Value := match atBy nm l s with | some x => vl x | none => zv
theorem look_inv {dat : α → DataW Unit} (E : ElemR vl zv R dat) {l : List α} {s : ByteArray} {v : Value} {ps : List MemPlace} (h : R v = some ((ents nm dat l).atKey (keyL s) .nil, ps)) : v = lookV nm vl zv l s := by
  rw [ents_at] at h
  unfold lookV
  cases hq : atBy nm l s with
  | none => rw [hq] at h; exact E.inv_nil h
  | some x => rw [hq] at h; exact E.inv h
/-- block b of w is the map of the list l -/
def MO (P : Program) (k : TypeId) (w : World) (b : Nat) (l : List α) : Prop := w.ownsMap P k R b l.length (ents nm dat l)
end
theorem own_tight {P : Program} {k : TypeId} {R : Value → Option (DataW Unit × List MemPlace)} {w : World} {b n : Nat} {D : DataW Unit} (h : w.ownsMap P k R b n D) : w.ownsMap P k R b (Maps.size D) D := by
  obtain ⟨es, clock, hb, F, hs, hD⟩ := h
  refine ⟨es, clock, hb, F, ?_, hD⟩
  have h1 := length_sorted (es.toList.map (Go.WideElems.rg P k R))
  rw [hD]
  show es.size ≤ ((es.toList.map (Go.WideElems.rg P k R)).foldr DataW.insert []).length
  rw [h1]; simp
end
section
variable {α : Type} {nm : α → ByteArray} {dat : α → DataW Unit} {vl : α → Value} {zv : Value} {R : Value → Option (DataW Unit × List MemPlace)} {P : Program} {w : World} {ops : Array Oper} {rest : List Oper} {o : Oper} {a : Act} {Q : Exit → Act → World → Prop}
theorem MO.tight {k : TypeId} {b n : Nat} {l : List α} (h : w.ownsMap P k R b n (ents nm dat l)) : MO nm dat R P k w b l := by
  have := own_tight h
  rwa [ents_size] at this
theorem MO.lt {k : TypeId} {b : Nat} {l : List α} (h : MO nm dat R P k w b l) : b < w.heap.size := World.ownsMap.lt h
theorem MO.keep {w' : World} {k : TypeId} {b : Nat} {l : List α} (h : MO nm dat R P k w b l) (hb : w'.heap[b]? = w.heap[b]?) : MO nm dat R P k w' b l := by
  obtain ⟨es, clock, h1, h2⟩ := h
  exact ⟨es, clock, hb.trans h1, h2⟩
theorem MO.obj {k : TypeId} {b : Nat} {l : List α} (h : MO nm dat R P k w b l) : ∃ es clock, w.heap[b]? = some (.map es clock) := by
  obtain ⟨es, clock, h1, _⟩ := h; exact ⟨es, clock, h1⟩
theorem MO.made (k : TypeId) (w : World) : MO nm dat R P k (w.alloc (.map #[] 0)) w.heap.size ([] : List α) := World.ownsMap_made w P k R
theorem key_of {k : TypeId} (hk : P.underlying k = some .string) (s : ByteArray) (hs : s.size ≤ maxLen) : keyOf P k (.string s) = some (keyL s) := keyOf_string_mk hk hs
theorem key_inv {k : TypeId} (hk : P.underlying k = some .string) {key : Value} {kl : Lit} (h : keyOf P k key = some kl) : ∃ s, key = .string s ∧ kl = keyL s := by
  cases key <;> simp [keyOf, hk, mapKey] at h
  exact ⟨_, rfl, h.2.symm⟩
theorem run_look (E : ElemR vl zv R dat) {t k e : TypeId} (hk : P.underlying k = some .string) (ht : P.underlying t = some (.map k e)) (hz : (zeroValue e).run P w = .ok zv w) {b : Nat} {l : List α} (hown : MO nm dat R P k w b l) (s : ByteArray) (hs : s.size ≤ maxLen) :
    (Instr.lookup t (.map (some b)) (.string s) false).run P w = .ok (lookV nm vl zv l s) w := by
  obtain ⟨v, ps, hrun, hv⟩ := World.ownsMap.lookup hown (string_keyed hk) ht hz E.nil (key_of hk s hs)
  rw [look_inv nm vl zv R E hv] at hrun
  exact hrun
/-- 'm[k]' -/
theorem wpl_look (E : ElemR vl zv R dat) (hg : o.guard = none) (m x : Operand) (t : TypeId) (hop : o.op = Op.lookup t m x false) (k e : TypeId) (hk : P.underlying k = some .string) (ht : P.underlying t = some (.map k e)) (hz : (zeroValue e).run P w = .ok zv w)
    (b : Nat) (l : List α) (hm : a.eval m = .map (some b)) (hown : MO nm dat R P k w b l) (s : ByteArray) (hx : a.eval x = .string s) (hs : s.size ≤ maxLen)
    (h : wpList P ops Q rest (a.put o.dst (lookV nm vl zv l s)) w) : wpList P ops Q (o :: rest) a w := by
  refine wpList_plain hg fun K' hK' => ?_
  have hrun := run_look E hk ht hz hown s hs
  unfold Oper.wp
  simp [execOp, hop, hm, hx, hrun, Result.andThen]
  exact hK' _ _ h
/-- .. as one operation -/
theorem wp_look {K : Act → World → Prop} (E : ElemR vl zv R dat) (m x : Operand) (t : TypeId) (hop : o.op = Op.lookup t m x false) (k e : TypeId) (hk : P.underlying k = some .string) (ht : P.underlying t = some (.map k e)) (hz : (zeroValue e).run P w = .ok zv w)
    (b : Nat) (l : List α) (hm : a.eval m = .map (some b)) (hown : MO nm dat R P k w b l) (s : ByteArray) (hx : a.eval x = .string s) (hs : s.size ≤ maxLen)
    (h : K (a.put o.dst (lookV nm vl zv l s)) w) : o.wp P a w K Q := by
  have hrun := run_look E hk ht hz hown s hs
  unfold Oper.wp
  simp [execOp, hop, hm, hx, hrun, Result.andThen]
  exact h
/-- the same, in a statement whose order is open -/
theorem exec_look (E : ElemR vl zv R dat) (m x : Operand) (t : TypeId) (hop : o.op = Op.lookup t m x false) (k e : TypeId) (hk : P.underlying k = some .string) (ht : P.underlying t = some (.map k e)) (hz : (zeroValue e).run P w = .ok zv w)
    (b : Nat) (l : List α) (hm : a.eval m = .map (some b)) (hown : MO nm dat R P k w b l) (s : ByteArray) (hx : a.eval x = .string s) (hs : s.size ≤ maxLen) : (execOp a.eval o).run P w = .ok (.value (lookV nm vl zv l s)) w := by
  have hrun := run_look E hk ht hz hown s hs
  simp [execOp, hop, hm, hx, hrun, Result.andThen]
theorem MO.stored (E : ElemR vl zv R dat) {t k e : TypeId} (hk : P.underlying k = some .string) (ht : P.underlying t = some (.map k e)) {b : Nat} {l : List α} (hown : MO nm dat R P k w b l) (hn : l.length < maxLen) (y : α) (hs : (nm y).size ≤ maxLen) :
    ∃ w', (Instr.mapUpdate t (.map (some b)) (.string (nm y)) (vl y)).run P w = .ok () w' ∧ MO nm dat R P k w' b (inBy nm (outBy nm l (nm y)) y) ∧ w.grownBy w' (some b) := by
  obtain ⟨w', h1, h2, h3⟩ := World.ownsMap.update hown (string_keyed hk) ht hn (key_of hk _ hs) (E.lit y)
  rw [ents_put] at h2
  exact ⟨w', h1, MO.tight h2, h3⟩
/-- 'm[k] = v' -/
theorem wpl_put (E : ElemR vl zv R dat) (hg : o.guard = none) (m x v : Operand) (t : TypeId) (hop : o.op = Op.mapUpdate t m x v) (k e : TypeId) (hk : P.underlying k = some .string) (ht : P.underlying t = some (.map k e))
    (b : Nat) (l : List α) (hm : a.eval m = .map (some b)) (hown : MO nm dat R P k w b l) (hn : l.length < maxLen) (y : α) (hx : a.eval x = .string (nm y)) (hs : (nm y).size ≤ maxLen) (hv : a.eval v = vl y)
    (h : ∀ w', Hid (MO nm dat R P k w' b (inBy nm (outBy nm l (nm y)) y)) → Hid (w.grownBy w' (some b)) → wpList P ops Q rest (a.put o.dst undef) w') : wpList P ops Q (o :: rest) a w := by
  refine wpList_plain hg fun K' hK' => ?_
  obtain ⟨w', hrun, h1, h2⟩ := MO.stored E hk ht hown hn y hs
  unfold Oper.wp
  simp [execOp, hop, hm, hx, hv, hrun, Result.andThen]
  exact hK' _ _ (h w' h1 h2)
/-- .. as one operation -/
theorem wp_put {K : Act → World → Prop} (E : ElemR vl zv R dat) (m x v : Operand) (t : TypeId) (hop : o.op = Op.mapUpdate t m x v) (k e : TypeId) (hk : P.underlying k = some .string) (ht : P.underlying t = some (.map k e))
    (b : Nat) (l : List α) (hm : a.eval m = .map (some b)) (hown : MO nm dat R P k w b l) (hn : l.length < maxLen) (y : α) (hx : a.eval x = .string (nm y)) (hs : (nm y).size ≤ maxLen) (hv : a.eval v = vl y)
    (h : ∀ w', Hid (MO nm dat R P k w' b (inBy nm (outBy nm l (nm y)) y)) → Hid (w.grownBy w' (some b)) → K (a.put o.dst undef) w') : o.wp P a w K Q := by
  obtain ⟨w', hrun, h1, h2⟩ := MO.stored E hk ht hown hn y hs
  unfold Oper.wp
  simp [execOp, hop, hm, hx, hv, hrun, Result.andThen]
  exact h w' h1 h2
/-- 'delete(m, k)' -/
theorem wpl_drop (hg : o.guard = none) (m x : Operand) (t k : TypeId) (hop : o.op = Op.call { callee := Callee.builtin Builtin.delete, args := #[m, x], argTypes := #[t, k] }) (e : TypeId) (hk : P.underlying k = some .string) (ht : P.underlying t = some (.map k e))
    (b : Nat) (l : List α) (hm : a.eval m = .map (some b)) (hown : MO nm dat R P k w b l) (s : ByteArray) (hx : a.eval x = .string s) (hs : s.size ≤ maxLen)
    (h : ∀ w', Hid (MO nm dat R P k w' b (outBy nm l s)) → Hid (w.grownBy w' (some b)) → wpList P ops Q rest (a.put o.dst (.tuple #[])) w') : wpList P ops Q (o :: rest) a w :=
  wpList_delete_own w hg m x t k hop e (string_keyed hk) ht R b l.length _ hm hown _ (keyL s) hx (key_of hk s hs) fun w' h1 h2 => h w' (by rw [ents_del] at h1; exact MO.tight h1) h2.grown
/-- .. as one operation -/
theorem wp_drop {K : Act → World → Prop} (m x : Operand) (t k : TypeId) (hop : o.op = Op.call { callee := Callee.builtin Builtin.delete, args := #[m, x], argTypes := #[t, k] }) (e : TypeId) (hk : P.underlying k = some .string) (ht : P.underlying t = some (.map k e))
    (b : Nat) (l : List α) (hm : a.eval m = .map (some b)) (hown : MO nm dat R P k w b l) (s : ByteArray) (hx : a.eval x = .string s) (hs : s.size ≤ maxLen)
    (h : ∀ w', Hid (MO nm dat R P k w' b (outBy nm l s)) → Hid (w.grownBy w' (some b)) → K (a.put o.dst (.tuple #[])) w') : o.wp P a w K Q := by
  obtain ⟨w', hrun, h1, h2⟩ := World.ownsMap.drop hown (string_keyed hk) ht (key_of hk s hs) o.type
  rw [ents_del] at h1
  unfold Oper.wp
  simp [execOp, hop, resolve, invoke, builtin, hm, hx, hrun, Result.andThen]
  exact h w' (MO.tight h1) h2.grown
theorem run_len {t k e ty : TypeId} (ht : P.underlying t = some (.map k e)) {b : Nat} {l : List α} (hown : MO nm dat R P k w b l) : (Builtin.len_ #[t] ty #[.map (some b)]).run P w = .ok (.int .i64 l.length) w := by
  have := World.ownsMap.len hown ht ty
  rwa [ents_size] at this
/-- 'len(m)' -/
theorem wpl_len (hg : o.guard = none) (m : Operand) (t : TypeId) (hop : o.op = Op.call { callee := Callee.builtin Builtin.len, args := #[m], argTypes := #[t] }) (k e : TypeId) (ht : P.underlying t = some (.map k e))
    (b : Nat) (l : List α) (hm : a.eval m = .map (some b)) (hown : MO nm dat R P k w b l) (h : wpList P ops Q rest (a.put o.dst (.int .i64 l.length)) w) : wpList P ops Q (o :: rest) a w :=
  wpList_len_own w hg m t hop k e ht R b l.length _ hm hown (by rw [ents_size]; exact h)
/-- the same, in a statement whose order is open -/
theorem exec_mlen (m : Operand) (t : TypeId) (hop : o.op = Op.call { callee := Callee.builtin Builtin.len, args := #[m], argTypes := #[t] }) (k e : TypeId) (ht : P.underlying t = some (.map k e))
    (b : Nat) (l : List α) (hm : a.eval m = .map (some b)) (hown : MO nm dat R P k w b l) : (execOp a.eval o).run P w = .ok (.value (.int .i64 l.length)) w := by
  have hrun := run_len (ty := o.type) ht hown
  simp [execOp, hop, resolve, invoke, builtin, hm, hrun, Result.andThen]
/-- a range over the map, under way: what is still to come -/
def RP (nm : α → ByteArray) (dat : α → DataW Unit) (R : Value → Option (DataW Unit × List MemPlace)) (P : Program) (k : TypeId) (w : World) (b r : Nat) (l todo : List α) (cnt : Nat) : Prop :=
  ∃ left : Lit → Bool, w.ranges P k R b r l.length (ents nm dat l) left cnt ∧ todo = l.filter (fun x => left (keyL (nm x)))
theorem RP.owns {k : TypeId} {b r cnt : Nat} {l todo : List α} (h : RP nm dat R P k w b r l todo cnt) : MO nm dat R P k w b l := by obtain ⟨_, h, _⟩ := h; exact h.owns
theorem RP.left_eq {k : TypeId} {b r cnt : Nat} {l todo : List α} (h : RP nm dat R P k w b r l todo cnt) : w.rangeLeft b r = cnt := by obtain ⟨_, h, _⟩ := h; exact h.left_eq
theorem RP.kept {k : TypeId} {b r cnt : Nat} {l todo : List α} {w' : World} {row : Option Nat} (h : RP nm dat R P k w b r l todo cnt) (hg : w.grownBy w' row) (hb : some b ≠ row) (hr : some r ≠ row) : RP nm dat R P k w' b r l todo cnt := by
  obtain ⟨left, h1, h2⟩ := h; exact ⟨left, h1.kept hg hb hr, h2⟩
theorem RP.below {k : TypeId} {b r cnt : Nat} {l todo : List α} {w' : World} (h : RP nm dat R P k w b r l todo cnt) (hb : Below w.heap.size w w') : RP nm dat R P k w' b r l todo cnt :=
  h.kept (row := none) ⟨hb.os, hb.tape, hb.output, hb.size, fun i hi _ => hb.block i hi⟩ (by simp) (by simp)
theorem RP.ne {k : TypeId} {b r cnt : Nat} {l todo : List α} (h : RP nm dat R P k w b r l todo cnt) : r ≠ b ∧ r < w.heap.size := by obtain ⟨_, h, _⟩ := h; exact ⟨h.ne, h.lt⟩
theorem RP.iter {k : TypeId} {b r cnt : Nat} {l todo : List α} (h : RP nm dat R P k w b r l todo cnt) : ∀ cs t fr, w.heap[r]? ≠ some (.cells cs t fr) := by
  obtain ⟨_, h, _⟩ := h
  obtain ⟨_, _, _, _, _, _, _, _, _, hit, _⟩ := h
  intro cs t fr e
  rw [hit] at e; cases e
theorem wpl_range (hg : o.guard = none) (m : Operand) (t : TypeId) (hop : o.op = Op.range t m) (k e : TypeId) (hk : P.underlying k = some .string) (ht : P.underlying t = some (.map k e))
    (b : Nat) (l : List α) (hm : a.eval m = .map (some b)) (hown : MO nm dat R P k w b l)
    (h : ∀ w', Hid (RP nm dat R P k w' b w.heap.size l l l.length) → Hid (w.grownBy w' none) → Hid (w'.heap.size = w.heap.size + 1) → wpList P ops Q rest (a.put o.dst (.pointer (some ⟨w.heap.size, 0, none⟩))) w') : wpList P ops Q (o :: rest) a w :=
  wpList_range_own w hg m t hop k e (string_keyed hk) ht R b l.length _ hm hown fun w' h1 h2 h3 => h w' ⟨_, by rw [ents_size] at h1; exact h1, by
    rw [eq_comm, List.filter_eq_self]
    intro x hx
    rw [ents_has]
    unfold atBy
    rw [List.find?_isSome]
    exact ⟨x, hx, by simp⟩⟩ h2 h3
theorem ents_found {l : List α} {s : ByteArray} {d : DataW Unit} (h : ∀ z, (ents nm dat l).atKey (keyL s) z = d) : ∃ x ∈ l, nm x = s ∧ d = dat x := by
  have e : ∀ z, (ents nm dat l).atKey (keyL s) z = match atBy nm l s with | some x => dat x | none => z := fun z => by
    unfold ents DataW.atKey atBy
    simp only [List.find?_map]
    have e : ((fun p : Lit × DataW Unit => p.1.sameKey (keyL s)) ∘ fun x : α => (keyL (nm x), dat x)) = fun x => decide (nm x = s) := by
      funext x; exact same_key _ _
    rw [e]
    cases l.find? fun x => decide (nm x = s) <;> rfl
  cases hq : atBy nm l s with
  | none =>
    have h1 := h .nil
    have h2 := h (.lit (.bool true))
    rw [e, hq] at h1 h2
    simp only at h1 h2
    rw [← h1] at h2
    simp at h2
  | some x =>
    have h1 := h .nil
    rw [e, hq] at h1
    refine ⟨x, List.mem_of_find?_eq_some hq, ?_, h1.symm⟩
    have := List.find?_some hq
    simpa using this
/-- the step of a range: nothing is left, or one more comes -/
theorem wpl_next (E : ElemR vl zv R dat) (hg : o.guard = none) (it : Operand) (hop : o.op = Op.next it false) (k : TypeId) (hk : P.underlying k = some .string) (b r : Nat) (l todo : List α) (cnt : Nat)
    (hit : a.eval it = .pointer (some ⟨r, 0, none⟩)) (h : RP nm dat R P k w b r l todo cnt)
    (hDone : todo = [] → wpList P ops Q rest (a.put o.dst (.tuple #[.bool false])) w)
    (hMore : ∀ (x : α) (w' : World) (cnt' : Nat), Hid (x ∈ todo) → Hid (RP nm dat R P k w' b r l (outBy nm todo (nm x)) cnt') → Hid (cnt' < cnt) → Hid (w.grownBy w' (some r)) → Hid (w'.heap.size = w.heap.size) →
      (Instr.entry (.pointer (some ⟨r, 0, none⟩))).run P w' = .ok (.tuple #[.string (nm x), vl x]) w' → wpList P ops Q rest (a.put o.dst (.tuple #[.bool true, .string (nm x), vl x])) w') : wpList P ops Q (o :: rest) a w := by
  obtain ⟨left, hr, rfl⟩ := h
  refine wpList_next_ranges (α := ByteArray) (β := Value) w hg it hop k (string_keyed hk) R Value.string id ?_ ?_ b r l.length _ left cnt hit hr ?_ ?_
  · intro key kl hkey
    obtain ⟨s, hs, _⟩ := key_inv hk hkey
    exact ⟨s, hs⟩
  · intro v y hv
    exact ⟨v, rfl⟩
  · intro _ hl
    refine hDone ?_
    rw [List.filter_eq_nil_iff]
    intro x _
    rw [hl]; simp
  · intro s c kl y w' cnt' hkey hlk hv hat hrg hlt hgr hsz hen
    obtain ⟨q, hq, rfl⟩ := key_inv hk hkey
    obtain rfl : s = q := by simpa using hq
    obtain ⟨x, hx, rfl, hy⟩ := ents_found hat
    have hc : id c = vl x := by
      have h2 : R (id c) = some (dat x, y.2) := by rw [hv]; exact congrArg some (Prod.ext hy rfl)
      exact E.inv h2
    rw [hc] at hen ⊢
    refine hMore x w' cnt' (List.mem_filter.2 ⟨hx, hlk⟩) ⟨_, hrg, ?_⟩ hlt hgr hsz hen
    unfold outBy
    rw [List.filter_filter]
    refine List.filter_congr fun z _ => ?_
    rw [same_key, Bool.and_comm]
end
theorem out_perm {α : Type} {nm : α → ByteArray} : ∀ {l : List α}, (l.map nm).Nodup → ∀ {x : α}, x ∈ l → l.Perm (x :: outBy nm l (nm x))
  | [], _, x, hx => by simp at hx
  | y :: r, h, x, hx => by
    rw [List.map_cons, List.nodup_cons] at h
    by_cases e : nm y = nm x
    · have hy : y = x := by
        rcases List.mem_cons.1 hx with rfl | hx
        · rfl
        · exact absurd (by rw [e]; exact List.mem_map_of_mem hx) h.1
      subst hy
      have h2 : outBy nm r (nm y) = r := by
        unfold outBy
        rw [List.filter_eq_self]
        intro z hz
        rw [Bool.not_eq_true', decide_eq_false_iff_not]
        exact fun e => h.1 (by rw [← e]; exact List.mem_map_of_mem hz)
      have h1 : outBy nm (y :: r) (nm y) = r := by
        rw [← h2]; unfold outBy
        rw [List.filter_cons, if_neg (by simp), List.filter_filter]; congr 1; funext z; simp
      rw [h1]
    · have hx2 : x ∈ r := by
        rcases List.mem_cons.1 hx with rfl | hx
        · exact absurd rfl e
        · exact hx
      have h1 : outBy nm (y :: r) (nm x) = y :: outBy nm r (nm x) := by
        unfold outBy
        rw [List.filter_cons, if_pos (by rw [Bool.not_eq_true', decide_eq_false_iff_not]; exact e)]
      rw [h1]
      exact ((out_perm h.2 hx2).cons y).trans (List.Perm.swap x y _)
theorem out_nodup {α : Type} {nm : α → ByteArray} {l : List α} (h : (l.map nm).Nodup) (s : ByteArray) : ((outBy nm l s).map nm).Nodup := h.sublist (List.filter_sublist.map _)
theorem RP.sub {α : Type} {nm : α → ByteArray} {dat : α → DataW Unit} {R : Value → Option (DataW Unit × List MemPlace)} {P : Program} {w : World} {k : TypeId} {b r cnt : Nat} {l todo : List α} (h : RP nm dat R P k w b r l todo cnt) : todo.Sublist l := by
  obtain ⟨_, _, rfl⟩ := h; exact List.filter_sublist
end Go.Proofs.Ytmcfnlfaclkbhaa
