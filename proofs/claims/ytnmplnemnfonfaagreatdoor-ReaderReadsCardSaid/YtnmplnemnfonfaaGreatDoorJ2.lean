/-
  TEXTS JOINED: Gt, MapG, DiskAbs, DiskRef, DiskRow, DiskWith, DiskPut. Each one's own words stand at its head.
-/
import Derived.Test.YtnmplnemnfonfaaGreatDoorJ0
import Derived.Sort.Walk0
import Derived.StringKeys
import Derived.Maps.Own
import Derived.Maps.OwnOps
import Derived.Maps.OwnSet
import Derived.Maps.RangeWalk
import Derived.Test.YtnmplnemnfonfaaGreatDoorJ1
import Derived.Test.YtnmplnemnfonfaaGreatDoorJ3
namespace Go.Proofs.YtnmplnemnfonfaaGreatDoor
open Go.RowKit
def gtN (n m : ByteArray) : Bool := !(Op.bytesLess n.toList m.toList || n.toList == m.toList)
theorem gtN_iff (n m : ByteArray) : gtN n m = true ↔ m.toList < n.toList := by
  unfold gtN
  rw [Proofs.bytesLess_eq]
  simp only [Bool.not_eq_true', Bool.or_eq_false_iff, decide_eq_false_iff_not, beq_eq_false_iff_ne]
  constructor
  · rintro ⟨h1, h2⟩
    rcases List.le_iff_lt_or_eq.1 (List.not_lt.1 h1) with h | h
    · exact h
    · exact absurd h.symm h2
  · intro h
    exact ⟨fun h2 => List.lt_irrefl _ (List.lt_trans h h2), fun h2 => List.lt_irrefl _ (h2 ▸ h)⟩
theorem gtN_trans {a b c : ByteArray} (h : gtN a b = true) (k : gtN b c = true) : gtN a c = true :=
  (gtN_iff _ _).2 (List.lt_trans ((gtN_iff _ _).1 k) ((gtN_iff _ _).1 h))
theorem toList_inj {a b : ByteArray} (h : a.toList = b.toList) : a = b := by
  by_cases hq : a = b
  · exact hq
  · have := str_ne hq; rw [h] at this; simp at this
theorem gtN_total {a b : ByteArray} (h : gtN a b = false) (hne : a ≠ b) : gtN b a = true := by
  rw [gtN_iff]
  have h1 : ¬ b.toList < a.toList := fun h2 => by rw [(gtN_iff a b).2 h2] at h; exact absurd h (by simp)
  rcases List.le_iff_lt_or_eq.1 (List.not_lt.1 h1) with h2 | h2
  · exact h2
  · exact absurd (toList_inj h2) hne
theorem gtN_ne {a b : ByteArray} (h : gtN a b = true) : a ≠ b := by
  rintro rfl; exact List.lt_irrefl _ ((gtN_iff _ _).1 h)
end Go.Proofs.YtnmplnemnfonfaaGreatDoor
namespace Go.Proofs.YtnmplnemnfonfaaGreatDoor
open Go.RowKit Go.Maps Go.WideMaps
structure ElemR {α : Type} (vl : α → Value) (zv : Value) (R : Value → Option (DataW Unit × List MemPlace)) (dat : α → DataW Unit) : Prop where
  lit : ∀ x, R (vl x) = some (dat x, [])
  nil : R zv = some (.nil, [])
  inv : ∀ {v : Value} {x : α} {ps : List MemPlace}, R v = some (dat x, ps) → v = vl x
  inv_nil : ∀ {v : Value} {ps : List MemPlace}, R v = some (.nil, ps) → v = zv
section
variable {α : Type} (nm : α → ByteArray) (dat : α → DataW Unit)
def keyL (s : ByteArray) : Lit := .string s.data.toList
def ents (l : List α) : DataW Unit := .map (l.map fun x => (keyL (nm x), dat x))
def outBy (l : List α) (s : ByteArray) : List α := l.filter fun x => !decide (nm x = s)
def inBy (l : List α) (x : α) : List α := l.take (l.findIdx fun y => gtN (nm y) (nm x)) ++ x :: l.drop (l.findIdx fun y => gtN (nm y) (nm x))
theorem same_key (a b : ByteArray) : (keyL a).sameKey (keyL b) = decide (a = b) := by
  show (a.data.toList == b.data.toList) = _
  by_cases h : a = b
  · subst h; simp
  · have h2 : a.data.toList ≠ b.data.toList := fun e => h (by cases a; cases b; simp at e; simpa using e)
    rw [decide_eq_false h]; exact beq_eq_false_iff_ne.2 h2
theorem ents_del (l : List α) (s : ByteArray) : (ents nm dat l).del (keyL s) = ents nm dat (outBy nm l s) := by
  unfold ents DataW.del outBy
  simp only [List.filter_map]
  congr 2
  refine List.filter_congr fun x _ => ?_
  simp [same_key]
theorem ents_size (l : List α) : Maps.size (ents nm dat l) = l.length := by simp [ents, Maps.size]
theorem before_eq : ∀ a b : List UInt8, bytesBefore a b = decide (a < b)
  | [], [] => by simp [bytesBefore]
  | _ :: _, [] => by simp [bytesBefore]
  | [], _ :: _ => by simp [bytesBefore]
  | a :: x, b :: y => by
    rw [bytesBefore, before_eq x y]
    simp only [List.cons_lt_cons_iff]
    by_cases h1 : a < b <;> by_cases h2 : a = b <;> by_cases h3 : x < y <;> simp [h1, h2, h3]
theorem before_gt (a b : ByteArray) : (keyL a).before (keyL b) = gtN b a := by
  show bytesBefore a.data.toList b.data.toList = _
  rw [before_eq, ← Lib.toList_data, ← Lib.toList_data]
  by_cases h : a.toList < b.toList
  · rw [decide_eq_true h]; exact ((gtN_iff b a).2 h).symm
  · rw [decide_eq_false h]
    cases hg : gtN b a with
    | false => rfl
    | true => exact absurd ((gtN_iff b a).1 hg) h
theorem insert_map (x : α) : ∀ l : List α, DataW.insert (keyL (nm x), dat x) (l.map fun y => (keyL (nm y), dat y)) = (inBy nm l x).map fun y => (keyL (nm y), dat y)
  | [] => rfl
  | y :: r => by
    rw [List.map_cons, DataW.insert]
    unfold inBy
    rw [List.findIdx_cons]
    by_cases h : gtN (nm y) (nm x) = true
    · rw [if_pos (by rw [before_gt]; exact h), h]; simp
    · rw [if_neg (by rw [before_gt]; exact h)]
      rw [Bool.not_eq_true] at h
      rw [h, insert_map x r]
      simp [inBy]
theorem ents_put (l : List α) (x : α) : (ents nm dat l).put (keyL (nm x)) (dat x) = ents nm dat (inBy nm (outBy nm l (nm x)) x) := by
  unfold ents DataW.put
  have h := ents_del nm dat l (nm x)
  unfold ents DataW.del at h
  simp only [DataW.map.injEq] at h ⊢
  rw [h, insert_map]
def atBy (l : List α) (s : ByteArray) : Option α := l.find? fun x => decide (nm x = s)
theorem ents_at (l : List α) (s : ByteArray) : (ents nm dat l).atKey (keyL s) .nil = match atBy nm l s with | some x => dat x | none => .nil := by
  unfold ents DataW.atKey atBy
  simp only [List.find?_map]
  have e : ((fun p : Lit × DataW Unit => p.1.sameKey (keyL s)) ∘ fun x : α => (keyL (nm x), dat x)) = fun x => decide (nm x = s) := by
    funext x; exact same_key _ _
  rw [e]
  cases l.find? fun x => decide (nm x = s) <;> rfl
theorem ents_has (l : List α) (s : ByteArray) : Maps.has (ents nm dat l) (keyL s) = (atBy nm l s).isSome := by
  unfold ents atBy
  rw [Maps.has_eq, List.any_map]
  induction l with
  | nil => rfl
  | cons x l ih =>
    rw [List.any_cons, List.find?_cons, ih]
    simp only [Function.comp, same_key]
    cases decide (nm x = s) <;> simp
section
variable (vl : α → Value) (zv : Value) (R : Value → Option (DataW Unit × List MemPlace))
def lookV (l : List α) (s : ByteArray) : Value := match atBy nm l s with | some x => vl x | none => zv
theorem look_inv {dat : α → DataW Unit} (E : ElemR vl zv R dat) {l : List α} {s : ByteArray} {v : Value} {ps : List MemPlace} (h : R v = some ((ents nm dat l).atKey (keyL s) .nil, ps)) : v = lookV nm vl zv l s := by
  rw [ents_at] at h
  unfold lookV
  cases hq : atBy nm l s with
  | none => rw [hq] at h; exact E.inv_nil h
  | some x => rw [hq] at h; exact E.inv h
def MO (P : Program) (k : TypeId) (w : World) (b : Nat) (l : List α) : Prop := w.ownsMap P k R b l.length (ents nm dat l)
end
theorem own_tight {P : Program} {k : TypeId} {R : Value → Option (DataW Unit × List MemPlace)} {w : World} {b n : Nat} {D : DataW Unit} (h : w.ownsMap P k R b n D) : w.ownsMap P k R b (Maps.size D) D := by
  obtain ⟨es, clock, hb, F, hs, hD⟩ := h
  refine ⟨es, clock, hb, F, ?_, hD⟩
  have h1 := length_sorted (es.toList.map (Go.WideElems.rg P k R))
  rw [hD]
  show es.size ≤ ((es.toList.map (Go.WideElems.rg P k R)).foldr DataW.insert []).length
  rw [h1]; simp
end
section
variable {α : Type} {nm : α → ByteArray} {dat : α → DataW Unit} {vl : α → Value} {zv : Value} {R : Value → Option (DataW Unit × List MemPlace)} {P : Program} {w : World} {ops : Array Oper} {rest : List Oper} {o : Oper} {a : Act} {Q : Exit → Act → World → Prop}
theorem MO.tight {k : TypeId} {b n : Nat} {l : List α} (h : w.ownsMap P k R b n (ents nm dat l)) : MO nm dat R P k w b l := by
  have := own_tight h
  rwa [ents_size] at this
theorem MO.lt {k : TypeId} {b : Nat} {l : List α} (h : MO nm dat R P k w b l) : b < w.heap.size := World.ownsMap.lt h
theorem MO.keep {w' : World} {k : TypeId} {b : Nat} {l : List α} (h : MO nm dat R P k w b l) (hb : w'.heap[b]? = w.heap[b]?) : MO nm dat R P k w' b l := by
  obtain ⟨es, clock, h1, h2⟩ := h
  exact ⟨es, clock, hb.trans h1, h2⟩
theorem MO.obj {k : TypeId} {b : Nat} {l : List α} (h : MO nm dat R P k w b l) : ∃ es clock, w.heap[b]? = some (.map es clock) := by
  obtain ⟨es, clock, h1, _⟩ := h; exact ⟨es, clock, h1⟩
theorem MO.made (k : TypeId) (w : World) : MO nm dat R P k (w.alloc (.map #[] 0)) w.heap.size ([] : List α) := World.ownsMap_made w P k R
theorem key_of {k : TypeId} (hk : P.underlying k = some .string) (s : ByteArray) (hs : s.size ≤ maxLen) : keyOf P k (.string s) = some (keyL s) := keyOf_string_mk hk hs
theorem key_inv {k : TypeId} (hk : P.underlying k = some .string) {key : Value} {kl : Lit} (h : keyOf P k key = some kl) : ∃ s, key = .string s ∧ kl = keyL s := by
  cases key <;> simp [keyOf, hk, mapKey] at h
  exact ⟨_, rfl, h.2.symm⟩
theorem run_look (E : ElemR vl zv R dat) {t k e : TypeId} (hk : P.underlying k = some .string) (ht : P.underlying t = some (.map k e)) (hz : (zeroValue e).run P w = .ok zv w) {b : Nat} {l : List α} (hown : MO nm dat R P k w b l) (s : ByteArray) (hs : s.size ≤ maxLen) :
    (Instr.lookup t (.map (some b)) (.string s) false).run P w = .ok (lookV nm vl zv l s) w := by
  obtain ⟨v, ps, hrun, hv⟩ := World.ownsMap.lookup hown (string_keyed hk) ht hz E.nil (key_of hk s hs)
  rw [look_inv nm vl zv R E hv] at hrun
  exact hrun
theorem wpl_look (E : ElemR vl zv R dat) (hg : o.guard = none) (m x : Operand) (t : TypeId) (hop : o.op = Op.lookup t m x false) (k e : TypeId) (hk : P.underlying k = some .string) (ht : P.underlying t = some (.map k e)) (hz : (zeroValue e).run P w = .ok zv w)
    (b : Nat) (l : List α) (hm : a.eval m = .map (some b)) (hown : MO nm dat R P k w b l) (s : ByteArray) (hx : a.eval x = .string s) (hs : s.size ≤ maxLen)
    (h : wpList P ops Q rest (a.put o.dst (lookV nm vl zv l s)) w) : wpList P ops Q (o :: rest) a w := by
  refine wpList_plain hg fun K' hK' => ?_
  have hrun := run_look E hk ht hz hown s hs
  unfold Oper.wp
  simp [execOp, hop, hm, hx, hrun, Result.andThen]
  exact hK' _ _ h
theorem wp_look {K : Act → World → Prop} (E : ElemR vl zv R dat) (m x : Operand) (t : TypeId) (hop : o.op = Op.lookup t m x false) (k e : TypeId) (hk : P.underlying k = some .string) (ht : P.underlying t = some (.map k e)) (hz : (zeroValue e).run P w = .ok zv w)
    (b : Nat) (l : List α) (hm : a.eval m = .map (some b)) (hown : MO nm dat R P k w b l) (s : ByteArray) (hx : a.eval x = .string s) (hs : s.size ≤ maxLen)
    (h : K (a.put o.dst (lookV nm vl zv l s)) w) : o.wp P a w K Q := by
  have hrun := run_look E hk ht hz hown s hs
  unfold Oper.wp
  simp [execOp, hop, hm, hx, hrun, Result.andThen]
  exact h
theorem exec_look (E : ElemR vl zv R dat) (m x : Operand) (t : TypeId) (hop : o.op = Op.lookup t m x false) (k e : TypeId) (hk : P.underlying k = some .string) (ht : P.underlying t = some (.map k e)) (hz : (zeroValue e).run P w = .ok zv w)
    (b : Nat) (l : List α) (hm : a.eval m = .map (some b)) (hown : MO nm dat R P k w b l) (s : ByteArray) (hx : a.eval x = .string s) (hs : s.size ≤ maxLen) : (execOp a.eval o).run P w = .ok (.value (lookV nm vl zv l s)) w := by
  have hrun := run_look E hk ht hz hown s hs
  simp [execOp, hop, hm, hx, hrun, Result.andThen]
theorem MO.stored (E : ElemR vl zv R dat) {t k e : TypeId} (hk : P.underlying k = some .string) (ht : P.underlying t = some (.map k e)) {b : Nat} {l : List α} (hown : MO nm dat R P k w b l) (hn : l.length < maxLen) (y : α) (hs : (nm y).size ≤ maxLen) :
    ∃ w', (Instr.mapUpdate t (.map (some b)) (.string (nm y)) (vl y)).run P w = .ok () w' ∧ MO nm dat R P k w' b (inBy nm (outBy nm l (nm y)) y) ∧ w.grownBy w' (some b) := by
  obtain ⟨w', h1, h2, h3⟩ := World.ownsMap.update hown (string_keyed hk) ht hn (key_of hk _ hs) (E.lit y)
  rw [ents_put] at h2
  exact ⟨w', h1, MO.tight h2, h3⟩
theorem wp_put {K : Act → World → Prop} (E : ElemR vl zv R dat) (m x v : Operand) (t : TypeId) (hop : o.op = Op.mapUpdate t m x v) (k e : TypeId) (hk : P.underlying k = some .string) (ht : P.underlying t = some (.map k e))
    (b : Nat) (l : List α) (hm : a.eval m = .map (some b)) (hown : MO nm dat R P k w b l) (hn : l.length < maxLen) (y : α) (hx : a.eval x = .string (nm y)) (hs : (nm y).size ≤ maxLen) (hv : a.eval v = vl y)
    (h : ∀ w', Hid (MO nm dat R P k w' b (inBy nm (outBy nm l (nm y)) y)) → Hid (w.grownBy w' (some b)) → K (a.put o.dst undef) w') : o.wp P a w K Q := by
  obtain ⟨w', hrun, h1, h2⟩ := MO.stored E hk ht hown hn y hs
  unfold Oper.wp
  simp [execOp, hop, hm, hx, hv, hrun, Result.andThen]
  exact h w' h1 h2
theorem run_len {t k e ty : TypeId} (ht : P.underlying t = some (.map k e)) {b : Nat} {l : List α} (hown : MO nm dat R P k w b l) : (Builtin.len_ #[t] ty #[.map (some b)]).run P w = .ok (.int .i64 l.length) w := by
  have := World.ownsMap.len hown ht ty
  rwa [ents_size] at this
theorem exec_mlen (m : Operand) (t : TypeId) (hop : o.op = Op.call { callee := Callee.builtin Builtin.len, args := #[m], argTypes := #[t] }) (k e : TypeId) (ht : P.underlying t = some (.map k e))
    (b : Nat) (l : List α) (hm : a.eval m = .map (some b)) (hown : MO nm dat R P k w b l) : (execOp a.eval o).run P w = .ok (.value (.int .i64 l.length)) w := by
  have hrun := run_len (ty := o.type) ht hown
  simp [execOp, hop, resolve, invoke, builtin, hm, hrun, Result.andThen]
def RP (nm : α → ByteArray) (dat : α → DataW Unit) (R : Value → Option (DataW Unit × List MemPlace)) (P : Program) (k : TypeId) (w : World) (b r : Nat) (l todo : List α) (cnt : Nat) : Prop :=
  ∃ left : Lit → Bool, w.ranges P k R b r l.length (ents nm dat l) left cnt ∧ todo = l.filter (fun x => left (keyL (nm x)))
theorem RP.left_eq {k : TypeId} {b r cnt : Nat} {l todo : List α} (h : RP nm dat R P k w b r l todo cnt) : w.rangeLeft b r = cnt := by obtain ⟨_, h, _⟩ := h; exact h.left_eq
theorem RP.kept {k : TypeId} {b r cnt : Nat} {l todo : List α} {w' : World} {row : Option Nat} (h : RP nm dat R P k w b r l todo cnt) (hg : w.grownBy w' row) (hb : some b ≠ row) (hr : some r ≠ row) : RP nm dat R P k w' b r l todo cnt := by
  obtain ⟨left, h1, h2⟩ := h; exact ⟨left, h1.kept hg hb hr, h2⟩
theorem RP.below {k : TypeId} {b r cnt : Nat} {l todo : List α} {w' : World} (h : RP nm dat R P k w b r l todo cnt) (hb : Below w.heap.size w w') : RP nm dat R P k w' b r l todo cnt :=
  h.kept (row := none) ⟨hb.os, hb.tape, hb.output, hb.size, fun i hi _ => hb.block i hi⟩ (by simp) (by simp)
theorem RP.ne {k : TypeId} {b r cnt : Nat} {l todo : List α} (h : RP nm dat R P k w b r l todo cnt) : r ≠ b ∧ r < w.heap.size := by obtain ⟨_, h, _⟩ := h; exact ⟨h.ne, h.lt⟩
theorem wpl_range (hg : o.guard = none) (m : Operand) (t : TypeId) (hop : o.op = Op.range t m) (k e : TypeId) (hk : P.underlying k = some .string) (ht : P.underlying t = some (.map k e))
    (b : Nat) (l : List α) (hm : a.eval m = .map (some b)) (hown : MO nm dat R P k w b l)
    (h : ∀ w', Hid (RP nm dat R P k w' b w.heap.size l l l.length) → Hid (w.grownBy w' none) → Hid (w'.heap.size = w.heap.size + 1) → wpList P ops Q rest (a.put o.dst (.pointer (some ⟨w.heap.size, 0, none⟩))) w') : wpList P ops Q (o :: rest) a w :=
  wpList_range_own w hg m t hop k e (string_keyed hk) ht R b l.length _ hm hown fun w' h1 h2 h3 => h w' ⟨_, by rw [ents_size] at h1; exact h1, by
    rw [eq_comm, List.filter_eq_self]
    intro x hx
    rw [ents_has]
    unfold atBy
    rw [List.find?_isSome]
    exact ⟨x, hx, by simp⟩⟩ h2 h3
theorem ents_found {l : List α} {s : ByteArray} {d : DataW Unit} (h : ∀ z, (ents nm dat l).atKey (keyL s) z = d) : ∃ x ∈ l, nm x = s ∧ d = dat x := by
  have e : ∀ z, (ents nm dat l).atKey (keyL s) z = match atBy nm l s with | some x => dat x | none => z := fun z => by
    unfold ents DataW.atKey atBy
    simp only [List.find?_map]
    have e : ((fun p : Lit × DataW Unit => p.1.sameKey (keyL s)) ∘ fun x : α => (keyL (nm x), dat x)) = fun x => decide (nm x = s) := by
      funext x; exact same_key _ _
    rw [e]
    cases l.find? fun x => decide (nm x = s) <;> rfl
  cases hq : atBy nm l s with
  | none =>
    have h1 := h .nil
    have h2 := h (.lit (.bool true))
    rw [e, hq] at h1 h2
    simp only at h1 h2
    rw [← h1] at h2
    simp at h2
  | some x =>
    have h1 := h .nil
    rw [e, hq] at h1
    refine ⟨x, List.mem_of_find?_eq_some hq, ?_, h1.symm⟩
    have := List.find?_some hq
    simpa using this
theorem wpl_next (E : ElemR vl zv R dat) (hg : o.guard = none) (it : Operand) (hop : o.op = Op.next it false) (k : TypeId) (hk : P.underlying k = some .string) (b r : Nat) (l todo : List α) (cnt : Nat)
    (hit : a.eval it = .pointer (some ⟨r, 0, none⟩)) (h : RP nm dat R P k w b r l todo cnt)
    (hDone : todo = [] → wpList P ops Q rest (a.put o.dst (.tuple #[.bool false])) w)
    (hMore : ∀ (x : α) (w' : World) (cnt' : Nat), Hid (x ∈ todo) → Hid (RP nm dat R P k w' b r l (outBy nm todo (nm x)) cnt') → Hid (cnt' < cnt) → Hid (w.grownBy w' (some r)) → Hid (w'.heap.size = w.heap.size) →
      (Instr.entry (.pointer (some ⟨r, 0, none⟩))).run P w' = .ok (.tuple #[.string (nm x), vl x]) w' → wpList P ops Q rest (a.put o.dst (.tuple #[.bool true, .string (nm x), vl x])) w') : wpList P ops Q (o :: rest) a w := by
  obtain ⟨left, hr, rfl⟩ := h
  refine wpList_next_ranges (α := ByteArray) (β := Value) w hg it hop k (string_keyed hk) R Value.string id ?_ ?_ b r l.length _ left cnt hit hr ?_ ?_
  · intro key kl hkey
    obtain ⟨s, hs, _⟩ := key_inv hk hkey
    exact ⟨s, hs⟩
  · intro v y hv
    exact ⟨v, rfl⟩
  · intro _ hl
    refine hDone ?_
    rw [List.filter_eq_nil_iff]
    intro x _
    rw [hl]; simp
  · intro s c kl y w' cnt' hkey hlk hv hat hrg hlt hgr hsz hen
    obtain ⟨q, hq, rfl⟩ := key_inv hk hkey
    obtain rfl : s = q := by simpa using hq
    obtain ⟨x, hx, rfl, hy⟩ := ents_found hat
    have hc : id c = vl x := by
      have h2 : R (id c) = some (dat x, y.2) := by rw [hv]; exact congrArg some (Prod.ext hy rfl)
      exact E.inv h2
    rw [hc] at hen ⊢
    refine hMore x w' cnt' (List.mem_filter.2 ⟨hx, hlk⟩) ⟨_, hrg, ?_⟩ hlt hgr hsz hen
    unfold outBy
    rw [List.filter_filter]
    refine List.filter_congr fun z _ => ?_
    rw [same_key, Bool.and_comm]
end
theorem out_perm {α : Type} {nm : α → ByteArray} : ∀ {l : List α}, (l.map nm).Nodup → ∀ {x : α}, x ∈ l → l.Perm (x :: outBy nm l (nm x))
  | [], _, x, hx => by simp at hx
  | y :: r, h, x, hx => by
    rw [List.map_cons, List.nodup_cons] at h
    by_cases e : nm y = nm x
    · have hy : y = x := by
        rcases List.mem_cons.1 hx with rfl | hx
        · rfl
        · exact absurd (by rw [e]; exact List.mem_map_of_mem hx) h.1
      subst hy
      have h2 : outBy nm r (nm y) = r := by
        unfold outBy
        rw [List.filter_eq_self]
        intro z hz
        rw [Bool.not_eq_true', decide_eq_false_iff_not]
        exact fun e => h.1 (by rw [← e]; exact List.mem_map_of_mem hz)
      have h1 : outBy nm (y :: r) (nm y) = r := by
        rw [← h2]; unfold outBy
        rw [List.filter_cons, if_neg (by simp), List.filter_filter]; congr 1; funext z; simp
      rw [h1]
    · have hx2 : x ∈ r := by
        rcases List.mem_cons.1 hx with rfl | hx
        · exact absurd rfl e
        · exact hx
      have h1 : outBy nm (y :: r) (nm x) = y :: outBy nm r (nm x) := by
        unfold outBy
        rw [List.filter_cons, if_pos (by rw [Bool.not_eq_true', decide_eq_false_iff_not]; exact e)]
      rw [h1]
      exact ((out_perm h.2 hx2).cons y).trans (List.Perm.swap x y _)
theorem RP.sub {α : Type} {nm : α → ByteArray} {dat : α → DataW Unit} {R : Value → Option (DataW Unit × List MemPlace)} {P : Program} {w : World} {k : TypeId} {b r cnt : Nat} {l todo : List α} (h : RP nm dat R P k w b r l todo cnt) : todo.Sublist l := by
  obtain ⟨_, _, rfl⟩ := h; exact List.filter_sublist
end Go.Proofs.YtnmplnemnfonfaaGreatDoor
namespace Go.Proofs.YtnmplnemnfonfaaGreatDoor
open Go.RowKit
structure AF where
  name : ByteArray
  n : Nat
  las : List Int
  seen : List Int
  ws : List Bool
structure AD where
  L : List AF
  cap : Int
  ops : Int
  down : Bool
  told : Bool
  after : Int
def usedN (L : List AF) : Nat := (L.map AF.n).sum
def idxN (L : List AF) (s : ByteArray) : Nat := L.findIdx fun f => decide (f.name = s)
def withoutF (L : List AF) (s : ByteArray) : List AF := L.filter fun f => !decide (f.name = s)
def insK (L : List AF) (f : AF) : Nat := L.findIdx fun g => gtN g.name f.name
def insF (L : List AF) (f : AF) : List AF := L.take (insK L f) ++ f :: L.drop (insK L f)
def AD.without (d : AD) (s : ByteArray) : AD := { d with L := withoutF d.L s }
def AD.withF (d : AD) (f : AF) : AD := { d with L := insF (withoutF d.L f.name) f }
def RF (w : World) (e : List Value) (f : AF) : Prop :=
  ∃ v1 v2 v3, e = [.string f.name, v1, v2, v3] ∧ FS w v1 f.n f.las ∧ FS w v2 f.n f.seen ∧ BS w v3 f.n f.ws
theorem RF.kin {w w' : World} (hb : Kin w w') {e : List Value} {f : AF} (h : RF w e f) : RF w' e f := by
  obtain ⟨v1, v2, v3, he, h1, h2, h3⟩ := h
  exact ⟨v1, v2, v3, he, h1.kin hb, h2.kin hb, h3.kin hb⟩
theorem RF.length {w : World} {e : List Value} {f : AF} (h : RF w e f) : e.length = 4 := by obtain ⟨v1, v2, v3, rfl, _⟩ := h; rfl
def RFs (w : World) (es : List (List Value)) (L : List AF) : Prop := es.length = L.length ∧ ∀ (i : Nat) (e : List Value) (f : AF), es[i]? = some e → L[i]? = some f → RF w e f
theorem RFs.kin {w w' : World} (hb : Kin w w') {es : List (List Value)} {L : List AF} (h : RFs w es L) : RFs w' es L := ⟨h.1, fun i e f he hf => (h.2 i e f he hf).kin hb⟩
theorem RFs.nil (w : World) : RFs w [] [] := ⟨rfl, fun i e f he => by simp at he⟩
theorem RFs.at_ {w : World} {es : List (List Value)} {L : List AF} (h : RFs w es L) (i : Nat) (hi : i < L.length) : ∃ e, es[i]? = some e ∧ RF w e L[i] := by
  have hi2 : i < es.length := by rw [h.1]; exact hi
  exact ⟨es[i], List.getElem?_eq_getElem hi2, h.2 i _ _ (List.getElem?_eq_getElem hi2) (List.getElem?_eq_getElem hi)⟩
theorem RFs.snoc {w : World} {es : List (List Value)} {L : List AF} {e : List Value} {f : AF} (h : RFs w es L) (hf : RF w e f) : RFs w (es ++ [e]) (L ++ [f]) := by
  refine ⟨by simp [h.1], fun i e' f' he hf' => ?_⟩
  by_cases hi : i < L.length
  · rw [List.getElem?_append_left (by rw [h.1]; exact hi)] at he
    rw [List.getElem?_append_left hi] at hf'
    exact h.2 i _ _ he hf'
  · have hl := h.1
    rw [List.getElem?_append_right (by omega)] at he hf'
    have hi0 : i - L.length = 0 := by
      have := (List.getElem?_eq_some_iff.1 hf').1; simp at this; omega
    rw [hl, hi0] at he
    rw [hi0] at hf'
    simp at he hf'
    subst he; subst hf'
    exact hf
theorem RFs.lengths {w : World} {es : List (List Value)} {L : List AF} (h : RFs w es L) : ∀ e ∈ es, e.length = 4 := by
  intro e he
  obtain ⟨i, hi, rfl⟩ := List.getElem_of_mem he
  have hi2 : i < L.length := by rw [← h.1]; exact hi
  exact (h.2 i _ _ (List.getElem?_eq_getElem hi) (List.getElem?_eq_getElem hi2)).length
def FLs (w : World) (v : Value) (L : List AF) : Prop := ∃ es, CS 4 w v L.length es.flatten ∧ RFs w es L
theorem FLs.kin {w w' : World} (hb : Kin w w') {v : Value} {L : List AF} (h : FLs w v L) : FLs w' v L := by obtain ⟨es, h1, h2⟩ := h; exact ⟨es, h1.kin hb, h2.kin hb⟩
theorem FLs.nil (w : World) : FLs w (.slice none 0 0) [] := ⟨[], CS.nil 4 w, RFs.nil w⟩
theorem FLs.form {w : World} {v : Value} {L : List AF} (h : FLs w v L) : ∃ a cap, v = .slice a L.length cap ∧ L.length ≤ cap ∧ cap ≤ 9223372036854775807 ∧ (a = none → cap = 0) := h.choose_spec.1.form
theorem FLs.le {w : World} {v : Value} {L : List AF} (h : FLs w v L) : L.length ≤ 9223372036854775807 := h.choose_spec.1.le
theorem FLs.at_ {w : World} {a : Option Addr} {n cap : Nat} {L : List AF} (h : FLs w (.slice a n cap) L) (i : Nat) (f : AF) (hf : L[i]? = some f) :
    ∃ b off v1 v2 v3, a = some ⟨b, off, none⟩ ∧ w.cell? ⟨b, off + i * 4, none⟩ = some (.string f.name) ∧ w.cell? ⟨b, off + i * 4 + 1, none⟩ = some v1 ∧ w.cell? ⟨b, off + i * 4 + 2, none⟩ = some v2 ∧ w.cell? ⟨b, off + i * 4 + 3, none⟩ = some v3 ∧
      FS w v1 f.n f.las ∧ FS w v2 f.n f.seen ∧ BS w v3 f.n f.ws := by
  obtain ⟨es, h1, h2⟩ := h
  obtain ⟨hi, rfl⟩ := List.getElem?_eq_some_iff.1 hf
  obtain ⟨e, he, v1, v2, v3, rfl, hf1, hf2, hf3⟩ := h2.at_ i hi
  have hn : n = L.length := by obtain ⟨_, _, hv, _⟩ := h1; simp at hv; exact hv.2.1
  subst hn
  obtain ⟨b, off, rfl, hc⟩ := h1.at_ i hi
  have hg := fun j hj => (hc j hj).trans (flat_get 4 es i j h2.lengths hj _ he)
  exact ⟨b, off, v1, v2, v3, rfl, by simpa using hg 0 (by omega), by simpa using hg 1 (by omega), by simpa using hg 2 (by omega), by simpa using hg 3 (by omega), hf1, hf2, hf3⟩
def dv (vl : Value) (d : AD) : Value := .agg #[vl, .int .i64 d.cap, .int .i64 d.ops, .bool d.down, .bool d.told, .int .i64 d.after]
def RD (w : World) (v : Value) (d : AD) : Prop := ∃ vl, v = dv vl d ∧ FLs w vl d.L
theorem RD.kin {w w' : World} (hb : Kin w w') {v : Value} {d : AD} (h : RD w v d) : RD w' v d := by obtain ⟨vl, h1, h2⟩ := h; exact ⟨vl, h1, h2.kin hb⟩
theorem insK_le (L : List AF) (f : AF) : insK L f ≤ L.length := List.findIdx_le_length
theorem insK_at (L : List AF) (f : AF) (h : insK L f < L.length) : gtN (L[insK L f]).name f.name = true :=
  List.findIdx_getElem (p := fun g : AF => gtN g.name f.name) (xs := L) (w := h)
theorem insK_not (L : List AF) (f : AF) (j : Nat) (h : j < insK L f) : gtN (L[j]'(Nat.lt_of_lt_of_le h (insK_le L f))).name f.name = false := by
  have := List.not_of_lt_findIdx (p := fun g : AF => gtN g.name f.name) (xs := L) h
  simpa using this
theorem row_some {α : Type} {L : List α} {i : Nat} (h : i < L.length) : ∃ f, L[i]? = some f := ⟨_, List.getElem?_eq_getElem h⟩
end Go.Proofs.YtnmplnemnfonfaaGreatDoor
namespace Go.Proofs.YtnmplnemnfonfaaGreatDoor
open Go.RowKit
def AD.opd (d : AD) : AD := if d.told = true ∧ d.after = 0 then { d with told := false, down := true } else { d with after := if d.told then wrap64 (d.after - 1) else d.after, ops := wrap64 (d.ops + 1) }
def AD.ope (d : AD) : Int := if d.told = true ∧ d.after = 0 then 9 else 0
end Go.Proofs.YtnmplnemnfonfaaGreatDoor
namespace Go.Proofs.YtnmplnemnfonfaaGreatDoor
open Go.RowKit
theorem RD.form {w : World} {v : Value} {d : AD} (h : RD w v d) : ∃ a cap, v = dv (.slice a d.L.length cap) d ∧ FLs w (.slice a d.L.length cap) d.L ∧ d.L.length ≤ cap ∧ cap ≤ 9223372036854775807 ∧ (a = none → cap = 0) := by
  obtain ⟨vl, rfl, hl⟩ := h
  obtain ⟨a, cap, rfl, h1, h2, h3⟩ := hl.form
  exact ⟨a, cap, rfl, hl, h1, h2, h3⟩
end Go.Proofs.YtnmplnemnfonfaaGreatDoor
namespace Go.Proofs.YtnmplnemnfonfaaGreatDoor
open Go.RowKit
end Go.Proofs.YtnmplnemnfonfaaGreatDoor
namespace Go.Proofs.YtnmplnemnfonfaaGreatDoor
open Go.RowKit
end Go.Proofs.YtnmplnemnfonfaaGreatDoor
