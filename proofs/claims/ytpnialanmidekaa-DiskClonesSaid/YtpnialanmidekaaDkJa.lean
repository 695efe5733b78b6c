/-
  LAYER 8 (disk), the program's own disk, joined: maps, rows of sectors, settle, where the disk lies, what only tells. No condition.
-/
import Derived.Test.YtpnialanmidekaaDiskGood
import Derived.StringKeys
import Derived.Maps.Own
import Derived.Maps.OwnOps
import Derived.Maps.OwnSet
import Derived.Maps.RangeWalk
import Derived.Test.YtpnialanmidekaaDiskSays
import Derived.Deep.MidRow
import Derived.Test.YtpnialanmidekaaRegion
import Derived.Test.YtpnialanmidekaaNameRight
import Derived.Test.YtpnialanmidekaaBit
import Derived.Lib.MinMax
/-
  MAPS FROM TEXTS to whatever an element reads as (ElemR), as they are told by a list of things that have a name (nm) and an element (vl): look-ups, stores, deletions, lengths, ranges. Nothing here speaks of the program's functions. No condition.
-/
namespace Go.Proofs.Ytpnialanmidekaa
open Go.RowKit Go.Maps Go.WideMaps
/-- how elements read -/
structure ElemR {α : Type} (vl : α → Value) (zv : Value) (R : Value → Option (DataW Unit × List MemPlace)) (dat : α → DataW Unit) : Prop where
  lit : ∀ x, R (vl x) = some (dat x, [])
  nil : R zv = some (.nil, [])
  inv : ∀ {v : Value} {x : α} {ps : List MemPlace}, R v = some (dat x, ps) → v = vl x
  inv_nil : ∀ {v : Value} {ps : List MemPlace}, R v = some (.nil, ps) → v = zv
  some_ : ∀ x, dat x ≠ .nil
section
variable {α : Type} (nm : α → ByteArray) (dat : α → DataW Unit)
def keyL (s : ByteArray) : Lit := .string s.data.toList
/-- what the map reads as -/
def ents (l : List α) : DataW Unit := .map (l.map fun x => (keyL (nm x), dat x))
def outBy (l : List α) (s : ByteArray) : List α := l.filter fun x => !decide (nm x = s)
def inBy (l : List α) (x : α) : List α := l.take (l.findIdx fun y => gtN (nm y) (nm x)) ++ x :: l.drop (l.findIdx fun y => gtN (nm y) (nm x))
theorem same_key (a b : ByteArray) : (keyL a).sameKey (keyL b) = decide (a = b) := by
  show (a.data.toList == b.data.toList) = _
  by_cases h : a = b
  · subst h; simp
  · have h2 : a.data.toList ≠ b.data.toList := fun e => h (by cases a; cases b; simp at e; simpa using e)
    rw [decide_eq_false h]; exact beq_eq_false_iff_ne.2 h2
theorem ents_del (l : List α) (s : ByteArray) : (ents nm dat l).del (keyL s) = ents nm dat (outBy nm l s) := by
  unfold ents DataW.del outBy
  simp only [List.filter_map]
  congr 2
  refine List.filter_congr fun x _ => ?_
  simp [same_key]
theorem ents_size (l : List α) : Maps.size (ents nm dat l) = l.length := by simp [ents, Maps.size]
theorem before_eq : ∀ a b : List UInt8, bytesBefore a b = decide (a < b)
  | [], [] => by simp [bytesBefore]
  | _ :: _, [] => by simp [bytesBefore]
  | [], _ :: _ => by simp [bytesBefore]
  | a :: x, b :: y => by
    rw [bytesBefore, before_eq x y]
    simp only [List.cons_lt_cons_iff]
    by_cases h1 : a < b <;> by_cases h2 : a = b <;> by_cases h3 : x < y <;> simp [h1, h2, h3]
theorem before_gt (a b : ByteArray) : (keyL a).before (keyL b) = gtN b a := by
  show bytesBefore a.data.toList b.data.toList = _
  rw [before_eq, ← Lib.toList_data, ← Lib.toList_data]
  by_cases h : a.toList < b.toList
  · rw [decide_eq_true h]; exact ((gtN_iff b a).2 h).symm
  · rw [decide_eq_false h]
    cases hg : gtN b a with
    | false => rfl
    | true => exact absurd ((gtN_iff b a).1 hg) h
theorem insert_map (x : α) : ∀ l : List α, DataW.insert (keyL (nm x), dat x) (l.map fun y => (keyL (nm y), dat y)) = (inBy nm l x).map fun y => (keyL (nm y), dat y)
  | [] => rfl
  | y :: r => by
    rw [List.map_cons, DataW.insert]
    unfold inBy
    rw [List.findIdx_cons]
    by_cases h : gtN (nm y) (nm x) = true
    · rw [if_pos (by rw [before_gt]; exact h), h]; simp
    · rw [if_neg (by rw [before_gt]; exact h)]
      rw [Bool.not_eq_true] at h
      rw [h, insert_map x r]
      simp [inBy]
theorem ents_put (l : List α) (x : α) : (ents nm dat l).put (keyL (nm x)) (dat x) = ents nm dat (inBy nm (outBy nm l (nm x)) x) := by
  unfold ents DataW.put
  have h := ents_del nm dat l (nm x)
  unfold ents DataW.del at h
  simp only [DataW.map.injEq] at h ⊢
  rw [h, insert_map]
/-- the first thing of that name -/
def atBy (l : List α) (s : ByteArray) : Option α := l.find? fun x => decide (nm x = s)
theorem ents_at (l : List α) (s : ByteArray) : (ents nm dat l).atKey (keyL s) .nil = match atBy nm l s with | some x => dat x | none => .nil := by
  unfold ents DataW.atKey atBy
  simp only [List.find?_map]
  have e : ((fun p : Lit × DataW Unit => p.1.sameKey (keyL s)) ∘ fun x : α => (keyL (nm x), dat x)) = fun x => decide (nm x = s) := by
    funext x; exact same_key _ _
  rw [e]
  cases l.find? fun x => decide (nm x = s) <;> rfl
theorem ents_has (l : List α) (s : ByteArray) : Maps.has (ents nm dat l) (keyL s) = (atBy nm l s).isSome := by
  unfold ents atBy
  rw [Maps.has_eq, List.any_map]
  induction l with
  | nil => rfl
  | cons x l ih =>
    rw [List.any_cons, List.find?_cons, ih]
    simp only [Function.comp, same_key]
    cases decide (nm x = s) <;> simp
section
variable (vl : α → Value) (zv : Value) (R : Value → Option (DataW Unit × List MemPlace))
/-- what a look-up answers -/
def lookV (l : List α) (s : ByteArray) : Value := match atBy nm l s with | some x => vl x | none => zv
theorem look_inv {dat : α → DataW Unit} (E : ElemR vl zv R dat) {l : List α} {s : ByteArray} {v : Value} {ps : List MemPlace} (h : R v = some ((ents nm dat l).atKey (keyL s) .nil, ps)) : v = lookV nm vl zv l s := by
  rw [ents_at] at h
  unfold lookV
  cases hq : atBy nm l s with
  | none => rw [hq] at h; exact E.inv_nil h
  | some x => rw [hq] at h; exact E.inv h
/-- block b of w is the map of the list l -/
def MO (P : Program) (k : TypeId) (w : World) (b : Nat) (l : List α) : Prop := w.ownsMap P k R b l.length (ents nm dat l)
end
theorem own_tight {P : Program} {k : TypeId} {R : Value → Option (DataW Unit × List MemPlace)} {w : World} {b n : Nat} {D : DataW Unit} (h : w.ownsMap P k R b n D) : w.ownsMap P k R b (Maps.size D) D := by
  obtain ⟨es, clock, hb, F, hs, hD⟩ := h
  refine ⟨es, clock, hb, F, ?_, hD⟩
  have h1 := length_sorted (es.toList.map (Go.WideElems.rg P k R))
  rw [hD]
  show es.size ≤ ((es.toList.map (Go.WideElems.rg P k R)).foldr DataW.insert []).length
  rw [h1]; simp
end
section
variable {α : Type} {nm : α → ByteArray} {dat : α → DataW Unit} {vl : α → Value} {zv : Value} {R : Value → Option (DataW Unit × List MemPlace)} {P : Program} {w : World} {ops : Array Oper} {rest : List Oper} {o : Oper} {a : Act} {Q : Exit → Act → World → Prop}
theorem MO.tight {k : TypeId} {b n : Nat} {l : List α} (h : w.ownsMap P k R b n (ents nm dat l)) : MO nm dat R P k w b l := by
  have := own_tight h
  rwa [ents_size] at this
theorem MO.lt {k : TypeId} {b : Nat} {l : List α} (h : MO nm dat R P k w b l) : b < w.heap.size := World.ownsMap.lt h
theorem MO.keep {w' : World} {k : TypeId} {b : Nat} {l : List α} (h : MO nm dat R P k w b l) (hb : w'.heap[b]? = w.heap[b]?) : MO nm dat R P k w' b l := by
  obtain ⟨es, clock, h1, h2⟩ := h
  exact ⟨es, clock, hb.trans h1, h2⟩
theorem MO.obj {k : TypeId} {b : Nat} {l : List α} (h : MO nm dat R P k w b l) : ∃ es clock, w.heap[b]? = some (.map es clock) := by
  obtain ⟨es, clock, h1, _⟩ := h; exact ⟨es, clock, h1⟩
theorem MO.made (k : TypeId) (w : World) : MO nm dat R P k (w.alloc (.map #[] 0)) w.heap.size ([] : List α) := World.ownsMap_made w P k R
theorem key_of {k : TypeId} (hk : P.underlying k = some .string) (s : ByteArray) (hs : s.size ≤ maxLen) : keyOf P k (.string s) = some (keyL s) := keyOf_string_mk hk hs
theorem key_inv {k : TypeId} (hk : P.underlying k = some .string) {key : Value} {kl : Lit} (h : keyOf P k key = some kl) : ∃ s, key = .string s ∧ kl = keyL s := by
  cases key <;> simp [keyOf, hk, mapKey] at h
  exact ⟨_, rfl, h.2.symm⟩
theorem run_look (E : ElemR vl zv R dat) {t k e : TypeId} (hk : P.underlying k = some .string) (ht : P.underlying t = some (.map k e)) (hz : (zeroValue e).run P w = .ok zv w) {b : Nat} {l : List α} (hown : MO nm dat R P k w b l) (s : ByteArray) (hs : s.size ≤ maxLen) :
    (Instr.lookup t (.map (some b)) (.string s) false).run P w = .ok (lookV nm vl zv l s) w := by
  obtain ⟨v, ps, hrun, hv⟩ := World.ownsMap.lookup hown (string_keyed hk) ht hz E.nil (key_of hk s hs)
  rw [look_inv nm vl zv R E hv] at hrun
  exact hrun
/-- 'm[k]' -/
theorem wpl_look (E : ElemR vl zv R dat) (hg : o.guard = none) (m x : Operand) (t : TypeId) (hop : o.op = Op.lookup t m x false) (k e : TypeId) (hk : P.underlying k = some .string) (ht : P.underlying t = some (.map k e)) (hz : (zeroValue e).run P w = .ok zv w)
    (b : Nat) (l : List α) (hm : a.eval m = .map (some b)) (hown : MO nm dat R P k w b l) (s : ByteArray) (hx : a.eval x = .string s) (hs : s.size ≤ maxLen)
    (h : wpList P ops Q rest (a.put o.dst (lookV nm vl zv l s)) w) : wpList P ops Q (o :: rest) a w := by
  refine wpList_plain hg fun K' hK' => ?_
  have hrun := run_look E hk ht hz hown s hs
  unfold Oper.wp
  simp [execOp, hop, hm, hx, hrun, Result.andThen]
  exact hK' _ _ h
/-- .. as one operation -/
theorem wp_look {K : Act → World → Prop} (E : ElemR vl zv R dat) (m x : Operand) (t : TypeId) (hop : o.op = Op.lookup t m x false) (k e : TypeId) (hk : P.underlying k = some .string) (ht : P.underlying t = some (.map k e)) (hz : (zeroValue e).run P w = .ok zv w)
    (b : Nat) (l : List α) (hm : a.eval m = .map (some b)) (hown : MO nm dat R P k w b l) (s : ByteArray) (hx : a.eval x = .string s) (hs : s.size ≤ maxLen)
    (h : K (a.put o.dst (lookV nm vl zv l s)) w) : o.wp P a w K Q := by
  have hrun := run_look E hk ht hz hown s hs
  unfold Oper.wp
  simp [execOp, hop, hm, hx, hrun, Result.andThen]
  exact h
/-- the same, in a statement whose order is open -/
theorem exec_look (E : ElemR vl zv R dat) (m x : Operand) (t : TypeId) (hop : o.op = Op.lookup t m x false) (k e : TypeId) (hk : P.underlying k = some .string) (ht : P.underlying t = some (.map k e)) (hz : (zeroValue e).run P w = .ok zv w)
    (b : Nat) (l : List α) (hm : a.eval m = .map (some b)) (hown : MO nm dat R P k w b l) (s : ByteArray) (hx : a.eval x = .string s) (hs : s.size ≤ maxLen) : (execOp a.eval o).run P w = .ok (.value (lookV nm vl zv l s)) w := by
  have hrun := run_look E hk ht hz hown s hs
  simp [execOp, hop, hm, hx, hrun, Result.andThen]
theorem MO.stored (E : ElemR vl zv R dat) {t k e : TypeId} (hk : P.underlying k = some .string) (ht : P.underlying t = some (.map k e)) {b : Nat} {l : List α} (hown : MO nm dat R P k w b l) (hn : l.length < maxLen) (y : α) (hs : (nm y).size ≤ maxLen) :
    ∃ w', (Instr.mapUpdate t (.map (some b)) (.string (nm y)) (vl y)).run P w = .ok () w' ∧ MO nm dat R P k w' b (inBy nm (outBy nm l (nm y)) y) ∧ w.grownBy w' (some b) := by
  obtain ⟨w', h1, h2, h3⟩ := World.ownsMap.update hown (string_keyed hk) ht hn (key_of hk _ hs) (E.lit y)
  rw [ents_put] at h2
  exact ⟨w', h1, MO.tight h2, h3⟩
/-- 'm[k] = v' -/
theorem wpl_put (E : ElemR vl zv R dat) (hg : o.guard = none) (m x v : Operand) (t : TypeId) (hop : o.op = Op.mapUpdate t m x v) (k e : TypeId) (hk : P.underlying k = some .string) (ht : P.underlying t = some (.map k e))
    (b : Nat) (l : List α) (hm : a.eval m = .map (some b)) (hown : MO nm dat R P k w b l) (hn : l.length < maxLen) (y : α) (hx : a.eval x = .string (nm y)) (hs : (nm y).size ≤ maxLen) (hv : a.eval v = vl y)
    (h : ∀ w', Hid (MO nm dat R P k w' b (inBy nm (outBy nm l (nm y)) y)) → Hid (w.grownBy w' (some b)) → wpList P ops Q rest (a.put o.dst undef) w') : wpList P ops Q (o :: rest) a w := by
  refine wpList_plain hg fun K' hK' => ?_
  obtain ⟨w', hrun, h1, h2⟩ := MO.stored E hk ht hown hn y hs
  unfold Oper.wp
  simp [execOp, hop, hm, hx, hv, hrun, Result.andThen]
  exact hK' _ _ (h w' h1 h2)
/-- .. as one operation -/
theorem wp_put {K : Act → World → Prop} (E : ElemR vl zv R dat) (m x v : Operand) (t : TypeId) (hop : o.op = Op.mapUpdate t m x v) (k e : TypeId) (hk : P.underlying k = some .string) (ht : P.underlying t = some (.map k e))
    (b : Nat) (l : List α) (hm : a.eval m = .map (some b)) (hown : MO nm dat R P k w b l) (hn : l.length < maxLen) (y : α) (hx : a.eval x = .string (nm y)) (hs : (nm y).size ≤ maxLen) (hv : a.eval v = vl y)
    (h : ∀ w', Hid (MO nm dat R P k w' b (inBy nm (outBy nm l (nm y)) y)) → Hid (w.grownBy w' (some b)) → K (a.put o.dst undef) w') : o.wp P a w K Q := by
  obtain ⟨w', hrun, h1, h2⟩ := MO.stored E hk ht hown hn y hs
  unfold Oper.wp
  simp [execOp, hop, hm, hx, hv, hrun, Result.andThen]
  exact h w' h1 h2
/-- 'delete(m, k)' -/
theorem wpl_drop (hg : o.guard = none) (m x : Operand) (t k : TypeId) (hop : o.op = Op.call { callee := Callee.builtin Builtin.delete, args := #[m, x], argTypes := #[t, k] }) (e : TypeId) (hk : P.underlying k = some .string) (ht : P.underlying t = some (.map k e))
    (b : Nat) (l : List α) (hm : a.eval m = .map (some b)) (hown : MO nm dat R P k w b l) (s : ByteArray) (hx : a.eval x = .string s) (hs : s.size ≤ maxLen)
    (h : ∀ w', Hid (MO nm dat R P k w' b (outBy nm l s)) → Hid (w.grownBy w' (some b)) → wpList P ops Q rest (a.put o.dst (.tuple #[])) w') : wpList P ops Q (o :: rest) a w :=
  wpList_delete_own w hg m x t k hop e (string_keyed hk) ht R b l.length _ hm hown _ (keyL s) hx (key_of hk s hs) fun w' h1 h2 => h w' (by rw [ents_del] at h1; exact MO.tight h1) h2.grown
/-- .. as one operation -/
theorem wp_drop {K : Act → World → Prop} (m x : Operand) (t k : TypeId) (hop : o.op = Op.call { callee := Callee.builtin Builtin.delete, args := #[m, x], argTypes := #[t, k] }) (e : TypeId) (hk : P.underlying k = some .string) (ht : P.underlying t = some (.map k e))
    (b : Nat) (l : List α) (hm : a.eval m = .map (some b)) (hown : MO nm dat R P k w b l) (s : ByteArray) (hx : a.eval x = .string s) (hs : s.size ≤ maxLen)
    (h : ∀ w', Hid (MO nm dat R P k w' b (outBy nm l s)) → Hid (w.grownBy w' (some b)) → K (a.put o.dst (.tuple #[])) w') : o.wp P a w K Q := by
  obtain ⟨w', hrun, h1, h2⟩ := World.ownsMap.drop hown (string_keyed hk) ht (key_of hk s hs) o.type
  rw [ents_del] at h1
  unfold Oper.wp
  simp [execOp, hop, resolve, invoke, builtin, hm, hx, hrun, Result.andThen]
  exact h w' (MO.tight h1) h2.grown
theorem run_len {t k e ty : TypeId} (ht : P.underlying t = some (.map k e)) {b : Nat} {l : List α} (hown : MO nm dat R P k w b l) : (Builtin.len_ #[t] ty #[.map (some b)]).run P w = .ok (.int .i64 l.length) w := by
  have := World.ownsMap.len hown ht ty
  rwa [ents_size] at this
/-- 'len(m)' -/
theorem wpl_len (hg : o.guard = none) (m : Operand) (t : TypeId) (hop : o.op = Op.call { callee := Callee.builtin Builtin.len, args := #[m], argTypes := #[t] }) (k e : TypeId) (ht : P.underlying t = some (.map k e))
    (b : Nat) (l : List α) (hm : a.eval m = .map (some b)) (hown : MO nm dat R P k w b l) (h : wpList P ops Q rest (a.put o.dst (.int .i64 l.length)) w) : wpList P ops Q (o :: rest) a w :=
  wpList_len_own w hg m t hop k e ht R b l.length _ hm hown (by rw [ents_size]; exact h)
/-- the same, in a statement whose order is open -/
theorem exec_mlen (m : Operand) (t : TypeId) (hop : o.op = Op.call { callee := Callee.builtin Builtin.len, args := #[m], argTypes := #[t] }) (k e : TypeId) (ht : P.underlying t = some (.map k e))
    (b : Nat) (l : List α) (hm : a.eval m = .map (some b)) (hown : MO nm dat R P k w b l) : (execOp a.eval o).run P w = .ok (.value (.int .i64 l.length)) w := by
  have hrun := run_len (ty := o.type) ht hown
  simp [execOp, hop, resolve, invoke, builtin, hm, hrun, Result.andThen]
/-- a range over the map, under way: what is still to come -/
def RP (nm : α → ByteArray) (dat : α → DataW Unit) (R : Value → Option (DataW Unit × List MemPlace)) (P : Program) (k : TypeId) (w : World) (b r : Nat) (l todo : List α) (cnt : Nat) : Prop :=
  ∃ left : Lit → Bool, w.ranges P k R b r l.length (ents nm dat l) left cnt ∧ todo = l.filter (fun x => left (keyL (nm x)))
theorem RP.owns {k : TypeId} {b r cnt : Nat} {l todo : List α} (h : RP nm dat R P k w b r l todo cnt) : MO nm dat R P k w b l := by obtain ⟨_, h, _⟩ := h; exact h.owns
theorem RP.left_eq {k : TypeId} {b r cnt : Nat} {l todo : List α} (h : RP nm dat R P k w b r l todo cnt) : w.rangeLeft b r = cnt := by obtain ⟨_, h, _⟩ := h; exact h.left_eq
theorem RP.kept {k : TypeId} {b r cnt : Nat} {l todo : List α} {w' : World} {row : Option Nat} (h : RP nm dat R P k w b r l todo cnt) (hg : w.grownBy w' row) (hb : some b ≠ row) (hr : some r ≠ row) : RP nm dat R P k w' b r l todo cnt := by
  obtain ⟨left, h1, h2⟩ := h; exact ⟨left, h1.kept hg hb hr, h2⟩
theorem RP.below {k : TypeId} {b r cnt : Nat} {l todo : List α} {w' : World} (h : RP nm dat R P k w b r l todo cnt) (hb : Below w.heap.size w w') : RP nm dat R P k w' b r l todo cnt :=
  h.kept (row := none) ⟨hb.os, hb.tape, hb.output, hb.size, fun i hi _ => hb.block i hi⟩ (by simp) (by simp)
theorem RP.ne {k : TypeId} {b r cnt : Nat} {l todo : List α} (h : RP nm dat R P k w b r l todo cnt) : r ≠ b ∧ r < w.heap.size := by obtain ⟨_, h, _⟩ := h; exact ⟨h.ne, h.lt⟩
theorem RP.iter {k : TypeId} {b r cnt : Nat} {l todo : List α} (h : RP nm dat R P k w b r l todo cnt) : ∀ cs t fr, w.heap[r]? ≠ some (.cells cs t fr) := by
  obtain ⟨_, h, _⟩ := h
  obtain ⟨_, _, _, _, _, _, _, _, _, hit, _⟩ := h
  intro cs t fr e
  rw [hit] at e; cases e
theorem wpl_range (hg : o.guard = none) (m : Operand) (t : TypeId) (hop : o.op = Op.range t m) (k e : TypeId) (hk : P.underlying k = some .string) (ht : P.underlying t = some (.map k e))
    (b : Nat) (l : List α) (hm : a.eval m = .map (some b)) (hown : MO nm dat R P k w b l)
    (h : ∀ w', Hid (RP nm dat R P k w' b w.heap.size l l l.length) → Hid (w.grownBy w' none) → Hid (w'.heap.size = w.heap.size + 1) → wpList P ops Q rest (a.put o.dst (.pointer (some ⟨w.heap.size, 0, none⟩))) w') : wpList P ops Q (o :: rest) a w :=
  wpList_range_own w hg m t hop k e (string_keyed hk) ht R b l.length _ hm hown fun w' h1 h2 h3 => h w' ⟨_, by rw [ents_size] at h1; exact h1, by
    rw [eq_comm, List.filter_eq_self]
    intro x hx
    rw [ents_has]
    unfold atBy
    rw [List.find?_isSome]
    exact ⟨x, hx, by simp⟩⟩ h2 h3
theorem ents_found {l : List α} {s : ByteArray} {d : DataW Unit} (h : ∀ z, (ents nm dat l).atKey (keyL s) z = d) : ∃ x ∈ l, nm x = s ∧ d = dat x := by
  have e : ∀ z, (ents nm dat l).atKey (keyL s) z = match atBy nm l s with | some x => dat x | none => z := fun z => by
    unfold ents DataW.atKey atBy
    simp only [List.find?_map]
    have e : ((fun p : Lit × DataW Unit => p.1.sameKey (keyL s)) ∘ fun x : α => (keyL (nm x), dat x)) = fun x => decide (nm x = s) := by
      funext x; exact same_key _ _
    rw [e]
    cases l.find? fun x => decide (nm x = s) <;> rfl
  cases hq : atBy nm l s with
  | none =>
    have h1 := h .nil
    have h2 := h (.lit (.bool true))
    rw [e, hq] at h1 h2
    simp only at h1 h2
    rw [← h1] at h2
    simp at h2
  | some x =>
    have h1 := h .nil
    rw [e, hq] at h1
    refine ⟨x, List.mem_of_find?_eq_some hq, ?_, h1.symm⟩
    have := List.find?_some hq
    simpa using this
/-- the step of a range: nothing is left, or one more comes -/
theorem wpl_next (E : ElemR vl zv R dat) (hg : o.guard = none) (it : Operand) (hop : o.op = Op.next it false) (k : TypeId) (hk : P.underlying k = some .string) (b r : Nat) (l todo : List α) (cnt : Nat)
    (hit : a.eval it = .pointer (some ⟨r, 0, none⟩)) (h : RP nm dat R P k w b r l todo cnt)
    (hDone : todo = [] → wpList P ops Q rest (a.put o.dst (.tuple #[.bool false])) w)
    (hMore : ∀ (x : α) (w' : World) (cnt' : Nat), Hid (x ∈ todo) → Hid (RP nm dat R P k w' b r l (outBy nm todo (nm x)) cnt') → Hid (cnt' < cnt) → Hid (w.grownBy w' (some r)) → Hid (w'.heap.size = w.heap.size) →
      (Instr.entry (.pointer (some ⟨r, 0, none⟩))).run P w' = .ok (.tuple #[.string (nm x), vl x]) w' → wpList P ops Q rest (a.put o.dst (.tuple #[.bool true, .string (nm x), vl x])) w') : wpList P ops Q (o :: rest) a w := by
  obtain ⟨left, hr, rfl⟩ := h
  refine wpList_next_ranges (α := ByteArray) (β := Value) w hg it hop k (string_keyed hk) R Value.string id ?_ ?_ b r l.length _ left cnt hit hr ?_ ?_
  · intro key kl hkey
    obtain ⟨s, hs, _⟩ := key_inv hk hkey
    exact ⟨s, hs⟩
  · intro v y hv
    exact ⟨v, rfl⟩
  · intro _ hl
    refine hDone ?_
    rw [List.filter_eq_nil_iff]
    intro x _
    rw [hl]; simp
  · intro s c kl y w' cnt' hkey hlk hv hat hrg hlt hgr hsz hen
    obtain ⟨q, hq, rfl⟩ := key_inv hk hkey
    obtain rfl : s = q := by simpa using hq
    obtain ⟨x, hx, rfl, hy⟩ := ents_found hat
    have hc : id c = vl x := by
      have h2 : R (id c) = some (dat x, y.2) := by rw [hv]; exact congrArg some (Prod.ext hy rfl)
      exact E.inv h2
    rw [hc] at hen ⊢
    refine hMore x w' cnt' (List.mem_filter.2 ⟨hx, hlk⟩) ⟨_, hrg, ?_⟩ hlt hgr hsz hen
    unfold outBy
    rw [List.filter_filter]
    refine List.filter_congr fun z _ => ?_
    rw [same_key, Bool.and_comm]
end
end Go.Proofs.Ytpnialanmidekaa
/-
  LAYER 8 (disk), the program's own disk: a file's row of sectors (each: what is lasting, what is seen, whether it waits), where it lies in memory (SR), and what one turn of a sector does to it. No condition.
-/
namespace Go.Proofs.Ytpnialanmidekaa
open Go.RowKit
structure Sc where
  la : List Int
  se : List Int
  wt : Bool
structure Sc.ok (s : Sc) : Prop where
  la : s.la.length = 64
  se : s.se.length = 64
def Sc.cells (s : Sc) : List Value := il .u8 s.la ++ (il .u8 s.se ++ [.bool s.wt])
theorem Sc.ok.len {s : Sc} (h : s.ok) : s.cells.length = 129 := by simp [Sc.cells, il_length, h.la, h.se]
def Fits (S : List Sc) (cur : List Value) : Prop := ∀ (i : Nat) (s : Sc), S[i]? = some s → s.ok ∧ ∀ (j : Nat) (v : Value), s.cells[j]? = some v → cur[i * 129 + j]? = some v
/-- block g of w is a row of sectors, the first of them S, with room for c -/
def SR (w : World) (g c : Nat) (S : List Sc) : Prop := ∃ cur : List Value, w.heap[g]? = some (.cells cur.toArray 95 (0, 0)) ∧ cur.length = c * 129 ∧ S.length ≤ c ∧ c ≤ maxLen ∧ Fits S cur
theorem SR.keep {w w' : World} {g c : Nat} {S : List Sc} (h : SR w g c S) (hb : w'.heap[g]? = w.heap[g]?) : SR w' g c S := by
  obtain ⟨cur, h1, h2⟩ := h; exact ⟨cur, hb.trans h1, h2⟩
theorem SR.lt {w : World} {g c : Nat} {S : List Sc} (h : SR w g c S) : g < w.heap.size := by
  obtain ⟨cur, h1, _⟩ := h; exact (Array.getElem?_eq_some_iff.1 h1).1
theorem SR.cell {w : World} {g c : Nat} {S : List Sc} (h : SR w g c S) {i : Nat} {s : Sc} (hs : S[i]? = some s) {j : Nat} {v : Value} (hv : s.cells[j]? = some v) : w.cell? ⟨g, i * 129 + j, none⟩ = some v := by
  obtain ⟨cur, h1, _, _, _, h2⟩ := h
  rw [Joins.cell_of_block h1, List.getElem?_toArray]
  exact (h2 i s hs).2 j v hv
theorem SR.frozen {w : World} {g c : Nat} {S : List Sc} (h : SR w g c S) (j : Nat) : w.frozen? ⟨g, j, none⟩ = false := by
  obtain ⟨cur, h1, _⟩ := h; exact Joins.unfrozen_of_block h1 j
theorem SR.ok {w : World} {g c : Nat} {S : List Sc} (h : SR w g c S) {i : Nat} {s : Sc} (hs : S[i]? = some s) : s.ok := by
  obtain ⟨cur, _, _, _, _, h2⟩ := h; exact (h2 i s hs).1
theorem SR.la {w : World} {g c : Nat} {S : List Sc} (h : SR w g c S) {i : Nat} {s : Sc} (hs : S[i]? = some s) : At w g (i * 129) s.la := by
  refine ⟨(h.ok hs).la, fun k hk => h.cell hs ?_⟩
  have h1 := (h.ok hs).la
  unfold Sc.cells
  rw [List.getElem?_append_left (by rw [il_length]; omega), il_get _ _ _ (by omega)]
theorem SR.se {w : World} {g c : Nat} {S : List Sc} (h : SR w g c S) {i : Nat} {s : Sc} (hs : S[i]? = some s) : At w g (i * 129 + 64) s.se := by
  refine ⟨(h.ok hs).se, fun k hk => ?_⟩
  have h1 := (h.ok hs).la
  have h2 := (h.ok hs).se
  rw [Nat.add_assoc]
  refine h.cell hs ?_
  unfold Sc.cells
  rw [List.getElem?_append_right (by rw [il_length]; omega), il_length, h1, show 64 + k - 64 = k from by omega, List.getElem?_append_left (by rw [il_length]; omega), il_get _ _ _ (by omega)]
theorem SR.wt {w : World} {g c : Nat} {S : List Sc} (h : SR w g c S) {i : Nat} {s : Sc} (hs : S[i]? = some s) : w.cell? ⟨g, i * 129 + 128, none⟩ = some (.bool s.wt) := by
  have h1 := (h.ok hs).la
  have h2 := (h.ok hs).se
  refine h.cell hs ?_
  unfold Sc.cells
  rw [List.getElem?_append_right (by rw [il_length]; omega), il_length, h1, List.getElem?_append_right (by rw [il_length]; omega), il_length, h2]; rfl
theorem splice_get {α : Type} (L : List α) (off : Nat) (cs : List α) (hf : off + cs.length ≤ L.length) (q : Nat) :
    (splice L off cs)[q]? = if q < off then L[q]? else if q < off + cs.length then cs[q - off]? else L[q]? := by
  unfold splice
  by_cases h1 : q < off
  · rw [if_pos h1, List.getElem?_append_left (by simp; omega), List.getElem?_take_of_lt h1]
  · rw [if_neg h1, List.getElem?_append_right (by simp; omega), List.length_take, Nat.min_eq_left (by omega)]
    by_cases h2 : q < off + cs.length
    · rw [if_pos h2, List.getElem?_append_left (by omega)]
    · rw [if_neg h2, List.getElem?_append_right (by omega), List.getElem?_drop]
      congr 1; omega
theorem Fits.splice {S : List Sc} {cur : List Value} {i : Nat} {s s' : Sc} {j : Nat} {vs : List Value} (h : Fits S cur) (hs : S[i]? = some s) (hk : s'.ok) (hc : s'.cells = splice s.cells j vs) (hj : j + vs.length ≤ 129) (hl : (i + 1) * 129 ≤ cur.length) :
    Fits (S.set i s') (Go.splice cur (i * 129 + j) vs) := by
  have hlen := (h i s hs).1.len
  intro q t ht
  by_cases hq : q = i
  · subst hq
    have hi := (List.getElem?_eq_some_iff.1 hs).1
    rw [List.getElem?_set_self hi] at ht
    obtain rfl := Option.some.inj ht
    refine ⟨hk, fun m v hv => ?_⟩
    rw [hc, splice_get _ _ _ (by omega)] at hv
    rw [splice_get _ _ _ (by omega)]
    by_cases h1 : m < j
    · rw [if_pos h1] at hv; rw [if_pos (by omega)]; exact (h q s hs).2 m v hv
    · rw [if_neg h1] at hv; rw [if_neg (by omega)]
      by_cases h2 : m < j + vs.length
      · rw [if_pos h2] at hv; rw [if_pos (by omega), ← hv]; congr 1; omega
      · rw [if_neg h2] at hv; rw [if_neg (by omega)]; exact (h q s hs).2 m v hv
  · rw [List.getElem?_set_ne (Ne.symm hq)] at ht
    obtain ⟨ho, h2⟩ := h q t ht
    refine ⟨ho, fun m v hv => ?_⟩
    have hm : m < 129 := by have := (List.getElem?_eq_some_iff.1 hv).1; rw [ho.len] at this; exact this
    rw [splice_get _ _ _ (by omega), ← h2 m v hv]
    by_cases h1 : q < i
    · rw [if_pos (by omega)]
    · rw [if_neg (by omega), if_neg (by omega)]
/-- one turn of the i-th sector -/
theorem SR.turn {w' : World} {g c : Nat} {S : List Sc} {i : Nat} {s s' : Sc} {cur : List Value} {j : Nat} {vs : List Value} (hl : cur.length = c * 129) (hc : S.length ≤ c) (hm : c ≤ maxLen) (hf : Fits S cur) (hs : S[i]? = some s) (hk : s'.ok)
    (he : s'.cells = splice s.cells j vs) (hj : j + vs.length ≤ 129) (hw : w'.heap[g]? = some (.cells (splice cur (i * 129 + j) vs).toArray 95 (0, 0))) : SR w' g c (S.set i s') := by
  have hi := (List.getElem?_eq_some_iff.1 hs).1
  have h1 : (i + 1) * 129 ≤ cur.length := by rw [hl]; exact Nat.mul_le_mul_right _ (by omega)
  exact ⟨_, hw, by rw [length_splice _ _ _ (by omega), hl], by simpa using hc, hm, hf.splice hs hk he hj h1⟩
theorem splice_in {α : Type} (a b d vs : List α) (j : Nat) (hj : j + vs.length ≤ b.length) : splice (a ++ (b ++ d)) (a.length + j) vs = a ++ (splice b j vs ++ d) := by
  have hs := length_splice b j vs hj
  refine List.ext_getElem? fun q => ?_
  rw [splice_get _ _ _ (by simp; omega)]
  by_cases h1 : q < a.length
  · have e1 : (a ++ (b ++ d))[q]? = a[q]? := List.getElem?_append_left h1
    have e2 : (a ++ (splice b j vs ++ d))[q]? = a[q]? := List.getElem?_append_left h1
    rw [if_pos (by omega), e1, e2]
  · have e1 : (a ++ (b ++ d))[q]? = (b ++ d)[q - a.length]? := List.getElem?_append_right (by omega)
    have e2 : (a ++ (splice b j vs ++ d))[q]? = (splice b j vs ++ d)[q - a.length]? := List.getElem?_append_right (by omega)
    rw [e1, e2]
    by_cases h2 : q - a.length < b.length
    · have e3 : (b ++ d)[q - a.length]? = b[q - a.length]? := List.getElem?_append_left h2
      have e4 : (splice b j vs ++ d)[q - a.length]? = (splice b j vs)[q - a.length]? := List.getElem?_append_left (by rw [hs]; exact h2)
      rw [e3, e4, splice_get _ _ _ hj]
      by_cases h3 : q - a.length < j
      · rw [if_pos (by omega), if_pos h3]
      · rw [if_neg (by omega), if_neg h3]
        by_cases h4 : q - a.length < j + vs.length
        · rw [if_pos (by omega), if_pos h4]; congr 1; omega
        · rw [if_neg (by omega), if_neg h4]
    · have e3 : (b ++ d)[q - a.length]? = d[q - a.length - b.length]? := List.getElem?_append_right (by omega)
      have e4 : (splice b j vs ++ d)[q - a.length]? = d[q - a.length - (splice b j vs).length]? := List.getElem?_append_right (by rw [hs]; omega)
      rw [e3, e4, hs, if_neg (by omega), if_neg (by omega)]
theorem splice_at {α : Type} (b d vs : List α) (j : Nat) (hj : j + vs.length ≤ b.length) : splice (b ++ d) j vs = splice b j vs ++ d := by
  have := splice_in [] b d vs j hj
  simpa using this
theorem splice_all {α : Type} (b vs : List α) (h : vs.length = b.length) : splice b 0 vs = vs := by simp [splice, h]
/-- the three turns -/
theorem Sc.ok.turn_la {s : Sc} (h : s.ok) (j : Nat) (zs : List Int) (hj : j + zs.length ≤ 64) : (Sc.mk (splice s.la j zs) s.se s.wt).ok ∧ (Sc.mk (splice s.la j zs) s.se s.wt).cells = splice s.cells j (il .u8 zs) := by
  refine ⟨⟨by show (splice s.la j zs).length = 64; rw [length_splice _ _ _ (by rw [h.la]; exact hj)]; exact h.la, h.se⟩, ?_⟩
  unfold Sc.cells
  rw [splice_at _ _ _ _ (by rw [il_length, il_length, h.la]; exact hj), il_splice]
theorem Sc.ok.turn_se {s : Sc} (h : s.ok) (zs : List Int) (hz : zs.length = 64) : (Sc.mk s.la zs s.wt).ok ∧ (Sc.mk s.la zs s.wt).cells = splice s.cells 64 (il .u8 zs) := by
  refine ⟨⟨h.la, hz⟩, ?_⟩
  unfold Sc.cells
  have := splice_in (il .u8 s.la) (il .u8 s.se) [.bool s.wt] (il .u8 zs) 0 (by rw [il_length, il_length, h.se]; omega)
  rw [il_length, h.la] at this
  rw [this, splice_all _ _ (by rw [il_length, il_length, h.se, hz])]
theorem Sc.ok.turn_wt {s : Sc} (h : s.ok) (b : Bool) : (Sc.mk s.la s.se b).ok ∧ (Sc.mk s.la s.se b).cells = splice s.cells 128 [.bool b] := by
  refine ⟨⟨h.la, h.se⟩, ?_⟩
  unfold Sc.cells
  have := splice_in (il .u8 s.la ++ il .u8 s.se) [.bool s.wt] [] [.bool b] 0 (by simp)
  rw [List.length_append, il_length, il_length, h.la, h.se] at this
  simp only [List.append_nil, List.append_assoc] at this
  rw [splice_all [Value.bool s.wt] [Value.bool b] rfl] at this
  rw [this]
/-- cells that are set, as a row -/
theorem heap_setCells (g : Nat) (t : TypeId) (fr : Nat × Nat) : ∀ (vs : List Value) (o : Nat) (w : World) (cur : List Value), o + vs.length ≤ cur.length → w.heap[g]? = some (.cells cur.toArray t fr) → (w.setCells g o vs).heap[g]? = some (.cells (splice cur o vs).toArray t fr)
  | [], o, w, cur, _, h => by
    have e : splice cur o ([] : List Value) = cur := by simp [splice]
    rw [e]; exact h
  | v :: vs, o, w, cur, hl, h => by
    have h1 : (w.setCell ⟨g, o, none⟩ v).heap[g]? = some (.cells (cur.set o v).toArray t fr) := by
      have := Joins.block_setCell (i := o) h v
      simpa using this
    have h2 := heap_setCells g t fr vs (o + 1) (w.setCell ⟨g, o, none⟩ v) (cur.set o v) (by simp at hl ⊢; omega) h1
    have e : splice (cur.set o v) (o + 1) vs = splice cur o (v :: vs) := by
      refine List.ext_getElem? fun q => ?_
      simp only [List.length_cons] at hl
      rw [splice_get _ _ _ (by simp; omega), splice_get _ _ _ (by simp; omega)]
      by_cases h3 : q < o
      · rw [if_pos (by omega), if_pos h3, List.getElem?_set_ne (by omega)]
      · rw [if_neg h3]
        by_cases h4 : q = o
        · subst h4
          rw [if_pos (by omega), if_pos (by simp), List.getElem?_set_self (by omega), Nat.sub_self]; rfl
        · rw [if_neg (by omega)]
          by_cases h5 : q < o + 1 + vs.length
          · rw [if_pos h5, if_pos (by simp; omega), show q - o = (q - (o + 1)) + 1 from by omega, List.getElem?_cons_succ]
          · rw [if_neg h5, if_neg (by simp; omega), List.getElem?_set_ne (by omega)]
    rw [e] at h2
    exact h2
theorem grown_setCells (g : Nat) : ∀ (vs : List Value) (o : Nat) (w : World), w.grownBy (w.setCells g o vs) (some g)
  | [], _, w => ⟨rfl, rfl, rfl, Nat.le_refl _, fun _ _ _ => rfl⟩
  | v :: vs, o, w => by
    have h := grown_setCells g vs (o + 1) (w.setCell ⟨g, o, none⟩ v)
    have hs : (w.setCell ⟨g, o, none⟩ v).heap.size = w.heap.size := by simp
    exact ⟨h.os, h.tape, h.output, by have := h.size; rw [hs] at this; exact this, fun i hi hne => (h.block i (by rw [hs]; exact hi) hne).trans (Below.heap_setCell w ⟨g, o, none⟩ v i (fun e => hne (by rw [e])))⟩
theorem grown_setCell (g o : Nat) (v : Value) (w : World) : w.grownBy (w.setCell ⟨g, o, none⟩ v) (some g) := grown_setCells g [v] o w
theorem grown_trans {a b c : World} {row : Option Nat} (h : a.grownBy b row) (k : b.grownBy c row) : a.grownBy c row :=
  ⟨k.os.trans h.os, k.tape.trans h.tape, k.output.trans h.output, Nat.le_trans h.size k.size, fun i hi hne => (k.block i (Nat.lt_of_lt_of_le hi h.size) hne).trans (h.block i hi hne)⟩
theorem grown_refl (w : World) (row : Option Nat) : w.grownBy w row := ⟨rfl, rfl, rfl, Nat.le_refl _, fun _ _ _ => rfl⟩
theorem grown_drew {a b : World} {row : Option Nat} (h : a.grownBy b row) : a.grownBy b.drew row := ⟨h.os, h.tape, h.output, h.size, h.block⟩
theorem At.range {w : World} {b o : Nat} {zs : List Int} (h : At w b o zs) : w.rangeAt b o (il .u8 zs) := by
  intro j v hv
  have hj : j < zs.length := by have := (List.getElem?_eq_some_iff.1 hv).1; rwa [il_length] at this
  rw [il_get _ _ _ hj] at hv
  rw [h.2 j (by rw [← h.1]; exact hj)]; exact hv
theorem SR.there {w : World} {g c : Nat} {S : List Sc} (h : SR w g c S) {i : Nat} {s : Sc} (hs : S[i]? = some s) (o n : Nat) (hn : o + n ≤ 129) : w.there g (i * 129 + o) n := by
  intro j hj
  refine ⟨?_, h.frozen _⟩
  rw [Nat.add_assoc]
  have h1 : (s.cells)[o + j]? = some (s.cells[o + j]'(by rw [(h.ok hs).len]; omega)) := List.getElem?_eq_getElem _
  rw [h.cell hs h1]; rfl
theorem SR.put_se {w : World} {g c : Nat} {S : List Sc} (h : SR w g c S) {i : Nat} {s : Sc} (hs : S[i]? = some s) (zs : List Int) (hz : zs.length = 64) : SR (w.setCells g (i * 129 + 64) (il .u8 zs)) g c (S.set i ⟨s.la, zs, s.wt⟩) := by
  have hx := h.ok hs
  have ht := hx.turn_se zs hz
  have hi := (List.getElem?_eq_some_iff.1 hs).1
  obtain ⟨cur, hc1, hc2, hc3, hc4, hc5⟩ := h
  have h1 : (i + 1) * 129 ≤ c * 129 := Nat.mul_le_mul_right _ (by omega)
  exact SR.turn hc2 hc3 hc4 hc5 hs ht.1 ht.2 (by rw [il_length]; omega) (heap_setCells g _ _ _ _ _ _ (by rw [il_length]; omega) hc1)
theorem SR.put_wt {w : World} {g c : Nat} {S : List Sc} (h : SR w g c S) {i : Nat} {s : Sc} (hs : S[i]? = some s) (b : Bool) : SR (w.setCells g (i * 129 + 128) [.bool b]) g c (S.set i ⟨s.la, s.se, b⟩) := by
  have hx := h.ok hs
  have ht := hx.turn_wt b
  have hi := (List.getElem?_eq_some_iff.1 hs).1
  obtain ⟨cur, hc1, hc2, hc3, hc4, hc5⟩ := h
  have h1 : (i + 1) * 129 ≤ c * 129 := Nat.mul_le_mul_right _ (by omega)
  exact SR.turn hc2 hc3 hc4 hc5 hs ht.1 ht.2 (by simp) (heap_setCells g _ _ _ _ _ _ (by simp; omega) hc1)
theorem run_storeVar_cell {P : Program} (w : World) (b o : Nat) (ty : TypeId) (v : Value) (ht : w.there b o 1) (hi : (P.info? ty).map (·.size) = some 1) (hv : v.cells = #[v]) (h1 : v.oneCell' = true) :
    (storeVar ty ⟨b, o, none⟩ v).run P w = .ok () (w.setCells b o [v]) := by
  have := run_storeCells_cells (P := P) b o [v] 0 w (fun j hj => by simpa using (ht j (by simpa using hj)).1) (fun j hj => by simpa using (ht j (by simpa using hj)).2) (fun u hu => by simp at hu; subst hu; exact h1)
  cases hq : P.info? ty with
  | none => simp [hq] at hi
  | some i =>
    have hs : 1 = i.size := by simp [hq] at hi; omega
    simp only [Nat.add_zero] at this
    simp [storeVar, sizeOf, typeInfo, hq, hv, ← hs, this]
section
variable {ops : Array Oper} {rest : List Oper} {op : Oper} {a : Act} {w : World} {K : Act → World → Prop} {Q : Exit → Act → World → Prop}
/-- a sector is written: it is what is seen -/
theorem wp_put_se (x y : Operand) (ho : op.op = .store 67 x y) (g c : Nat) (S : List Sc) (h : SR w g c S) (i : Nat) (s : Sc) (hs : S[i]? = some s) (zs : List Int) (hz : zs.length = 64) (o : Nat) (hoff : i * 129 + 64 = o)
    (hx : a.eval x = .pointer (some ⟨g, o, none⟩)) (hy : a.eval y = .agg (sv zs)) (hK : ∀ w', Hid (SR w' g c (S.set i ⟨s.la, zs, s.wt⟩)) → Hid (w.grownBy w' (some g)) → K (a.put op.dst undef) w') : op.wp Try.prog a w K Q := by
  subst hoff
  refine wp_store_mid 67 x y ho g _ (sv zs) hx hy (h.there hs 64 _ (by rw [sv_size]; omega)) (sv_info _ hz) (sv_one _) ?_
  have e : (sv zs).toList = il .u8 zs := by simp [sv]
  rw [e]
  exact hK _ (h.put_se hs zs hz) (grown_setCells _ _ _ _)
theorem wpl_put_se (hgd : op.guard = none) (x y : Operand) (ho : op.op = .store 67 x y) (g c : Nat) (S : List Sc) (h : SR w g c S) (i : Nat) (s : Sc) (hs : S[i]? = some s) (zs : List Int) (hz : zs.length = 64) (o : Nat) (hoff : i * 129 + 64 = o)
    (hx : a.eval x = .pointer (some ⟨g, o, none⟩)) (hy : a.eval y = .agg (sv zs)) (hK : ∀ w', Hid (SR w' g c (S.set i ⟨s.la, zs, s.wt⟩)) → Hid (w.grownBy w' (some g)) → wpList Try.prog ops Q rest (a.put op.dst undef) w') : wpList Try.prog ops Q (op :: rest) a w :=
  wpList_plain hgd fun _ hk => wp_put_se x y ho g c S h i s hs zs hz o hoff hx hy fun w' h1 h2 => hk _ _ (hK w' h1 h2)
theorem bool_size : (Try.prog.info? 4).map (·.size) = some 1 := by kernel_rfl
/-- whether it waits -/
theorem wp_put_wt (x y : Operand) (ho : op.op = .store 4 x y) (g c : Nat) (S : List Sc) (h : SR w g c S) (i : Nat) (s : Sc) (hs : S[i]? = some s) (b : Bool) (o : Nat) (hoff : i * 129 + 128 = o)
    (hx : a.eval x = .pointer (some ⟨g, o, none⟩)) (hy : a.eval y = .bool b) (hK : ∀ w', Hid (SR w' g c (S.set i ⟨s.la, s.se, b⟩)) → Hid (w.grownBy w' (some g)) → K (a.put op.dst undef) w') : op.wp Try.prog a w K Q := by
  subst hoff
  have hrun := run_storeVar_cell (P := Try.prog) w g (i * 129 + 128) 4 (.bool b) (h.there hs 128 1 (by omega)) bool_size rfl rfl
  unfold Oper.wp execOp
  simp only [ho, hx, hy, Instr.storeAt, Instr.sureAddr, Sem.run_bind, Sem.run_pure, Result.andThen_ok, hrun]
  exact hK _ (h.put_wt hs b) (grown_setCells _ _ _ _)
theorem wpl_put_wt (hgd : op.guard = none) (x y : Operand) (ho : op.op = .store 4 x y) (g c : Nat) (S : List Sc) (h : SR w g c S) (i : Nat) (s : Sc) (hs : S[i]? = some s) (b : Bool) (o : Nat) (hoff : i * 129 + 128 = o)
    (hx : a.eval x = .pointer (some ⟨g, o, none⟩)) (hy : a.eval y = .bool b) (hK : ∀ w', Hid (SR w' g c (S.set i ⟨s.la, s.se, b⟩)) → Hid (w.grownBy w' (some g)) → wpList Try.prog ops Q rest (a.put op.dst undef) w') : wpList Try.prog ops Q (op :: rest) a w :=
  wpList_plain hgd fun _ hk => wp_put_wt x y ho g c S h i s hs b o hoff hx hy fun w' h1 h2 => hk _ _ (hK w' h1 h2)
end
end Go.Proofs.Ytpnialanmidekaa
/-
  LAYER 8 (disk), the program's own disk: what (*sector).settle does. No condition.
-/
namespace Go.Proofs.Ytpnialanmidekaa
open Go.RowKit
theorem mixN_splice (a b : List Int) (k : Nat) (hb : k ≤ b.length) : splice a 0 (b.take k) = mixN a b k := by
  simp [splice, mixN, Nat.min_eq_left hb]
theorem grown_setRow (w : World) (g : Nat) (cs : Array Value) : w.grownBy (w.setRow g cs) (some g) :=
  ⟨rfl, rfl, rfl, by simp, fun i _ hne => setRow_other w g i cs (fun e => hne (by rw [e]))⟩
/-- copy of the first k seen bytes onto the lasting ones -/
theorem step_copy_row {ops : Array Oper} {o : Oper} {a : Act} {w : World} {K : Act → World → Prop} {Q : Exit → Act → World → Prop} {E : Prop} (hgd : o.guard = none) (d s : Operand)
    (ho : o.op = .call { callee := .builtin .copy, args := #[d, s], argTypes := #[34, 34] }) (g c i k : Nat) (S : List Sc) (x : Sc) (h : SR w g c S) (hs : S[i]? = some x) (hk : k ≤ 64) (o1 o2 : Nat) (h1 : i * 129 = o1) (h2 : i * 129 + 64 = o2)
    (hd : a.eval d = .slice (some ⟨g, o1, none⟩) k 64) (hv : a.eval s = .slice (some ⟨g, o2, none⟩) k 64)
    (hK : ∀ w', Hid (SR w' g c (S.set i ⟨mixN x.la x.se k, x.se, x.wt⟩)) → Hid (w.grownBy w' (some g)) → K (a.put o.dst (goInt (k : Int))) w') :
    if Region.wanted o (yielded ops a.tmps) = true then Oper.wp Try.prog o a w K Q else E := by
  subst h1; subst h2
  have hx := h.ok hs
  have hse := h.se hs
  have ht := hx.turn_la 0 (x.se.take k) (by simp [hx.se]; omega)
  rw [mixN_splice _ _ _ (by rw [hx.se]; exact hk)] at ht
  have hi := (List.getElem?_eq_some_iff.1 hs).1
  obtain ⟨cur, hc1, hc2, hc3, hc4, hc5⟩ := h
  have hlen : (x.se.take k).length = k := by simp [hx.se]; omega
  have hcl : (il .u8 (x.se.take k)).length = k := by rw [il_length, hlen]
  have hfit : i * 129 + k ≤ cur.length := by
    rw [hc2]
    have : (i + 1) * 129 ≤ c * 129 := Nat.mul_le_mul_right _ (by omega)
    omega
  have hw : Region.wanted o (yielded ops a.tmps) = true := by simp [Region.wanted, hgd]
  rw [if_pos hw]
  have hcells : ∀ j v, (il .u8 (x.se.take k))[j]? = some v → w.cell? ((⟨g, i * 129 + 64, none⟩ : Addr).add j) = some v := fun j v hv => by
    have hj : j < k := by have := (List.getElem?_eq_some_iff.1 hv).1; rwa [hcl] at this
    rw [il_get _ _ _ (by rw [hlen]; exact hj)] at hv
    rw [Addr.add_mid, hse.2 j (by omega), ← hv]
    congr 2
    simp [List.getD, hj]
  have hturn : ∀ w', w'.heap[g]? = some (.cells (splice cur (i * 129 + 0) (il .u8 (x.se.take k))).toArray 95 (0, 0)) → SR w' g c (S.set i ⟨mixN x.la x.se k, x.se, x.wt⟩) := fun w' hg1 =>
    SR.turn hc2 hc3 hc4 hc5 hs ht.1 ht.2 (by rw [hcl]; omega) hg1
  by_cases h0 : k = 0
  · subst h0
    have hrun := run_copy_none (P := Try.prog) w 34 34 o.type 5 (some ⟨g, i * 129, none⟩) (some ⟨g, i * 129 + 64, none⟩) 0 64 0 64 Try.underlying34 u8_size1 rfl
    unfold Oper.wp
    simp [execOp, ho, resolve, invoke, builtin, hd, hv, hrun, Result.andThen]
    exact hK w (hturn w (by rw [hc1]; simp [il, splice])) (grown_refl _ _)
  · have hrun := run_copy_row (P := Try.prog) w 34 34 o.type 5 g (i * 129) k 64 ⟨g, i * 129 + 64, none⟩ k 64 cur.toArray 95 (il .u8 (x.se.take k)) Try.underlying34 u8_size1 hc1 (by rw [hcl]; exact (Nat.min_self k).symm) hcells (by rw [hcl]; simpa using hfit) (il_one _ _)
    unfold Oper.wp
    simp [execOp, ho, resolve, invoke, builtin, hd, hv, hrun, Result.andThen, hcl]
    exact hK _ (hturn _ (by rw [setRow_heap w g _ _ _ _ hc1]; simp [splice, hcl])) (grown_setRow _ _ _)
set_option maxRecDepth 8000 in
set_option maxHeartbeats 1000000 in
theorem settle_any (w : World) (g c i k : Nat) (S : List Sc) (x : Sc) (h : SR w g c S) (hs : S[i]? = some x) (hk : k ≤ 64) :
    Calls Try.prog 49 #[.pointer (some ⟨g, i * 129, none⟩), .int .i64 k] w fun e w' => e = .returned (.tuple #[]) ∧ SR w' g c (S.set i ⟨mixN x.la x.se k, mixN x.la x.se k, false⟩) ∧ w.grownBy w' (some g) := by
  obtain ⟨o, ho⟩ : ∃ o, i * 129 = o := ⟨_, rfl⟩
  have HO := Lib.hid ho
  have HS := Lib.hid hs
  have H := Lib.hid h
  have hk' : (k : Int) ≤ 64 := by omega
  have HK := Lib.hid hk
  obtain ⟨m, hm⟩ : ∃ m, mixN x.la x.se k = m := ⟨_, rfl⟩
  have HX := Lib.hid hm
  rw [ho, hm]
  clear h hs ho hk hm
  go_enter Try.func49, Try.ntmps49
  go_wp2
  refine wp_region_held_drew (S := (fun w' => w.grownBy w' (some g))) (by kernel_rfl) (grown_drew (grown_refl _ _)) (fun hS => ?_)
  refine wpAnyH_take (i := 0) (oi := ({ dst := some 4, op := Op.move (Operand.tmp 0), type := 89, pos := "job.go:16", after := #[], guard := none } : Oper)) (v := ?_) rfl (by kernel_rfl) (by kernel_rfl) (by kernel_rfl) (fun _ _ _ h => h) (Or.inl ⟨by rfl, ?_⟩) hS ?_
  rotate_left
  · (intro w hSw; (try dsimp only at hSw); go_simp; try with_reducible rfl)
  (try simp only [Act.put, List.setIfInBounds_toArray, List.set_cons_zero, List.set_cons_succ])
  refine wpAnyH_take (i := 1) (oi := ({ dst := some 5, op := Op.nilCheck (Operand.tmp 4), type := 0, pos := "job.go:16", after := #[{ on := 0, ground := Ground.data }], guard := none } : Oper)) (v := ?_) rfl (by kernel_rfl) (by kernel_rfl) (by kernel_rfl) (fun _ _ _ h => h) (Or.inl ⟨by rfl, ?_⟩) hS ?_
  rotate_left
  · (intro w hSw; (try dsimp only at hSw); go_simp; try with_reducible rfl)
  (try simp only [Act.put, List.setIfInBounds_toArray, List.set_cons_zero, List.set_cons_succ])
  refine wpAnyH_take (i := 2) (oi := ({ dst := some 6, op := Op.fieldAddr 95 (Operand.tmp 5) 0, type := 0, pos := "job.go:16", after := #[{ on := 1, ground := Ground.data }], guard := none } : Oper)) (v := ?_) rfl (by kernel_rfl) (by kernel_rfl) (by kernel_rfl) (fun _ _ _ h => h) (Or.inl ⟨by rfl, ?_⟩) hS ?_
  rotate_left
  · (intro w hSw; (try dsimp only at hSw); go_simp; try with_reducible rfl)
  (try simp only [Act.put, List.setIfInBounds_toArray, List.set_cons_zero, List.set_cons_succ])
  refine wpAnyH_take (i := 3) (oi := ({ dst := some 7, op := Op.move (Operand.tmp 1), type := 3, pos := "job.go:16", after := #[], guard := none } : Oper)) (v := ?_) rfl (by kernel_rfl) (by kernel_rfl) (by kernel_rfl) (fun _ _ _ h => h) (Or.inl ⟨by rfl, ?_⟩) hS ?_
  rotate_left
  · (intro w hSw; (try dsimp only at hSw); go_simp; try with_reducible rfl)
  (try simp only [Act.put, List.setIfInBounds_toArray, List.set_cons_zero, List.set_cons_succ])
  refine wpAnyH_take (i := 4) (oi := ({ dst := some 8, op := Op.slice 67 (Operand.tmp 6) none (some (Operand.tmp 7)) none, type := 34, pos := "job.go:16", after := #[{ on := 2, ground := Ground.data }, { on := 3, ground := Ground.data }], guard := none } : Oper)) (v := ?_) rfl (by kernel_rfl) (by kernel_rfl) (by kernel_rfl) (fun _ _ _ h => h) (Or.inl ⟨by rfl, ?_⟩) hS ?_
  rotate_left
  · (intro w hSw; (try dsimp only at hSw); go_simp; try with_reducible rfl)
  (try simp only [Act.put, List.setIfInBounds_toArray, List.set_cons_zero, List.set_cons_succ])
  refine wpAnyH_take (i := 5) (oi := ({ dst := some 9, op := Op.move (Operand.tmp 0), type := 89, pos := "job.go:16", after := #[], guard := none } : Oper)) (v := ?_) rfl (by kernel_rfl) (by kernel_rfl) (by kernel_rfl) (fun _ _ _ h => h) (Or.inl ⟨by rfl, ?_⟩) hS ?_
  rotate_left
  · (intro w hSw; (try dsimp only at hSw); go_simp; try with_reducible rfl)
  (try simp only [Act.put, List.setIfInBounds_toArray, List.set_cons_zero, List.set_cons_succ])
  refine wpAnyH_take (i := 6) (oi := ({ dst := some 10, op := Op.nilCheck (Operand.tmp 9), type := 0, pos := "job.go:16", after := #[{ on := 5, ground := Ground.data }], guard := none } : Oper)) (v := ?_) rfl (by kernel_rfl) (by kernel_rfl) (by kernel_rfl) (fun _ _ _ h => h) (Or.inl ⟨by rfl, ?_⟩) hS ?_
  rotate_left
  · (intro w hSw; (try dsimp only at hSw); go_simp; try with_reducible rfl)
  (try simp only [Act.put, List.setIfInBounds_toArray, List.set_cons_zero, List.set_cons_succ])
  refine wpAnyH_take (i := 7) (oi := ({ dst := some 11, op := Op.fieldAddr 95 (Operand.tmp 10) 1, type := 0, pos := "job.go:16", after := #[{ on := 6, ground := Ground.data }], guard := none } : Oper)) (v := ?_) rfl (by kernel_rfl) (by kernel_rfl) (by kernel_rfl) (fun _ _ _ h => h) (Or.inl ⟨by rfl, ?_⟩) hS ?_
  rotate_left
  · (intro w hSw; (try dsimp only at hSw); go_simp; try with_reducible rfl)
  (try simp only [Act.put, List.setIfInBounds_toArray, List.set_cons_zero, List.set_cons_succ])
  refine wpAnyH_take (i := 8) (oi := ({ dst := some 12, op := Op.move (Operand.tmp 1), type := 3, pos := "job.go:16", after := #[], guard := none } : Oper)) (v := ?_) rfl (by kernel_rfl) (by kernel_rfl) (by kernel_rfl) (fun _ _ _ h => h) (Or.inl ⟨by rfl, ?_⟩) hS ?_
  rotate_left
  · (intro w hSw; (try dsimp only at hSw); go_simp; try with_reducible rfl)
  (try simp only [Act.put, List.setIfInBounds_toArray, List.set_cons_zero, List.set_cons_succ])
  refine wpAnyH_take (i := 9) (oi := ({ dst := some 13, op := Op.slice 67 (Operand.tmp 11) none (some (Operand.tmp 12)) none, type := 34, pos := "job.go:16", after := #[{ on := 7, ground := Ground.data }, { on := 8, ground := Ground.data }], guard := none } : Oper)) (v := ?_) rfl (by kernel_rfl) (by kernel_rfl) (by kernel_rfl) (fun _ _ _ h => h) (Or.inl ⟨by rfl, ?_⟩) hS ?_
  rotate_left
  · (intro w hSw; (try dsimp only at hSw); go_simp; try with_reducible rfl)
  (try simp only [Act.put, List.setIfInBounds_toArray, List.set_cons_zero, List.set_cons_succ])
  refine rg_one 10 ({ dst := some 14, op := Op.call { callee := Callee.builtin Builtin.copy, args := #[Operand.tmp 8, Operand.tmp 13], argTypes := #[34, 34] }, type := 3, pos := "job.go:16", after := #[{ on := 4, ground := Ground.data }, { on := 9, ground := Ground.data }], guard := none } : Oper) (by kernel_rfl) rfl (fun K hK => ?_)
  refine step_copy_row rfl (.tmp 8) (.tmp 13) rfl g c i k S x (SR.keep H.out rfl) HS.out HK.out o (o + 64) HO.out (by rw [HO.out]) rfl rfl ?_; intro w1 H1 hG1; have hN := grown_trans (grown_drew (grown_refl w (some g))) hG1.out; have HG1 := Lib.hid hN
  refine hK.out _ _ ?_ (fun hS1 => ?_)
  · (exact hN)
  clear hK K hS; have hS := hS1; clear hS1
  (try simp only [Act.put, List.setIfInBounds_toArray, List.set_cons_zero, List.set_cons_succ])
  refine wpAnyH_done (by kernel_rfl) ?_ _
  clear hS hG1 hN
  have hi : i < S.length := (List.getElem?_eq_some_iff.1 HS.out).1
  have hx := H.out.ok HS.out
  have HM : Hid (m.length = 64) := Lib.hid (by rw [← HX.out]; exact mixN_length _ _ _ hx.la hx.se HK.out)
  rw [HX.out] at H1
  have HA1 : Hid ((S.set i ⟨m, x.se, x.wt⟩)[i]? = some ⟨m, x.se, x.wt⟩) := Lib.hid (List.getElem?_set_self hi)
  have HAT : Hid (At w1 g o m) := Lib.hid (by have := H1.out.la HA1.out; rwa [HO.out] at this)
  have HA2 : Hid ((S.set i ⟨m, m, x.wt⟩)[i]? = some ⟨m, m, x.wt⟩) := Lib.hid (List.getElem?_set_self hi)
  clear hi hx
  go_wp2_with (first
    | (refine wpl_load_at rfl _ rfl g o rfl m HAT.out ?_)
    | (refine wpl_put_se rfl _ _ rfl g c _ H1.out i _ HA1.out m HM.out (o + 64) (by rw [HO.out]) rfl rfl ?_; intro w2 H2 hG2; rw [List.set_set] at H2; have HG2 := Lib.hid (grown_trans HG1.out hG2.out); clear hG2)
    | (refine wpl_put_wt rfl _ _ rfl g c _ H2.out i _ HA2.out false (o + 128) (by rw [HO.out]) rfl rfl ?_; intro w3 H3 hG3; rw [List.set_set] at H3; have HG3 := Lib.hid (grown_trans HG2.out hG3.out); clear hG3))
  go_end0
  exact ⟨rfl, H3.out, HG3.out⟩
end Go.Proofs.Ytpnialanmidekaa
/-
  LAYER 8 (disk), the program's own disk: where it lies in memory (Dk: its six cells, its map from names to rows of sectors), and what a look-up, a store and a deletion in the map come to. No condition.
-/
namespace Go.Proofs.Ytpnialanmidekaa
open Go.RowKit
/-- a file, the block of its row, and the room there -/
structure MF where
  f : AF
  g : Nat
  c : Nat
def MF.nm (x : MF) : ByteArray := x.f.name
abbrev zS : Value := .slice none 0 0
def MF.v (x : MF) : Value := .slice (some ⟨x.g, 0, none⟩) x.f.n x.c
def MF.dat (x : MF) : DataW Unit := .agg [.lit (.int .i64 (x.g : Int)), .lit (.int .i64 (x.f.n : Int)), .lit (.int .i64 (x.c : Int))]
/-- how a row of sectors in the map reads -/
def secR (v : Value) : Option (DataW Unit × List MemPlace) :=
  match v with
  | .slice none 0 0 => some (.nil, [])
  | .slice (some ⟨b, 0, none⟩) n c => some (.agg [.lit (.int .i64 (b : Int)), .lit (.int .i64 (n : Int)), .lit (.int .i64 (c : Int))], [])
  | _ => none
theorem secE : ElemR MF.v zS secR MF.dat where
  lit x := rfl
  nil := rfl
  inv := by
    intro v x ps h
    unfold secR at h
    split at h
    · simp [MF.dat] at h
    · rename_i b n c
      simp only [MF.dat, Option.some.injEq, Prod.mk.injEq, DataW.agg.injEq, List.cons.injEq, DataW.lit.injEq, Lit.int.injEq, true_and, and_true] at h
      obtain ⟨⟨h1, h2, h3⟩, _⟩ := h
      obtain rfl : b = x.g := by omega
      obtain rfl : n = x.f.n := by omega
      obtain rfl : c = x.c := by omega
      rfl
    · simp at h
  inv_nil := by
    intro v ps h
    unfold secR at h
    split at h
    · rfl
    · simp at h
    · simp at h
  some_ x := by simp [MF.dat]
/-- a file's sectors -/
def secsOf (f : AF) : List Sc := (List.range f.n).map fun i => ⟨chunk f.las i, chunk f.seen i, f.ws.getD i false⟩
theorem secsOf_length (f : AF) : (secsOf f).length = f.n := by simp [secsOf]
theorem secsOf_get (f : AF) (i : Nat) (h : i < f.n) : (secsOf f)[i]? = some ⟨chunk f.las i, chunk f.seen i, f.ws.getD i false⟩ := by simp [secsOf, h]
abbrev MapOf (w : World) (bm : Nat) (l : List MF) : Prop := MO MF.nm MF.dat secR Try.prog 9 w bm l
def dCells (bm : Nat) (d : AD) (fl : Bool) (lf : Int) : Array Value := #[.int .i64 d.cap, .map (some bm), .int .i64 d.ops, .bool d.down, .bool fl, .int .i64 lf]
/-- the disk's own block -/
def DBk (w : World) (b bm : Nat) (d : AD) (fl : Bool) (lf : Int) : Prop := w.heap[b]? = some (.cells (dCells bm d fl lf) 71 (0, 0))
structure Dk (w : World) (b bm : Nat) (l : List MF) (d : AD) : Prop where
  blk : ∃ (fl : Bool) (lf : Int), DBk w b bm d fl lf ∧ (d.down = false → fl = d.told ∧ lf = d.after)
  map : MapOf w bm l
  row : ∀ x ∈ l, SR w x.g x.c (secsOf x.f)
  nodup : (l.map MF.g).Nodup
  files : d.L = l.map MF.f
/-- the blocks of a disk -/
def own (b bm : Nat) (l : List MF) (k : Nat) : Prop := k = b ∨ k = bm ∨ ∃ x ∈ l, x.g = k
theorem Dk.keep {w w' : World} {b bm : Nat} {l : List MF} {d : AD} (h : Dk w b bm l d) (hb : ∀ k, own b bm l k → w'.heap[k]? = w.heap[k]?) : Dk w' b bm l d := by
  obtain ⟨fl, lf, h1, h2⟩ := h.blk
  exact ⟨⟨fl, lf, (hb b (.inl rfl)).trans h1, h2⟩, h.map.keep (hb bm (.inr (.inl rfl))), fun x hx => (h.row x hx).keep (hb _ (.inr (.inr ⟨x, hx, rfl⟩))), h.nodup, h.files⟩
theorem Dk.lt {w : World} {b bm : Nat} {l : List MF} {d : AD} (h : Dk w b bm l d) : ∀ k, own b bm l k → k < w.heap.size := by
  rintro k (rfl | rfl | ⟨x, hx, rfl⟩)
  · obtain ⟨fl, lf, h1, _⟩ := h.blk
    exact (Array.getElem?_eq_some_iff.1 h1).1
  · exact h.map.lt
  · exact (h.row x hx).lt
theorem Dk.below {w w' : World} {b bm : Nat} {l : List MF} {d : AD} (h : Dk w b bm l d) (hb : Below w.heap.size w w') : Dk w' b bm l d := h.keep fun k hk => hb.block k (h.lt k hk)
theorem Dk.ne {w : World} {b bm : Nat} {l : List MF} {d : AD} (h : Dk w b bm l d) : b ≠ bm ∧ ∀ x ∈ l, x.g ≠ b ∧ x.g ≠ bm := by
  obtain ⟨fl, lf, h1, _⟩ := h.blk
  obtain ⟨es, clock, h2⟩ := h.map.obj
  refine ⟨fun e => ?_, fun x hx => ⟨fun e => ?_, fun e => ?_⟩⟩
  · subst e; unfold DBk at h1; rw [h1] at h2; cases h2
  · obtain ⟨cur, h3, _⟩ := h.row x hx
    rw [e] at h3; unfold DBk at h1; rw [h1] at h3
    simp at h3
  · obtain ⟨cur, h3, _⟩ := h.row x hx
    rw [e, h2] at h3; cases h3
/-- the cells -/
theorem DBk.cells {w : World} {b bm : Nat} {d : AD} {fl : Bool} {lf : Int} (h : DBk w b bm d fl lf) :
    w.cell? ⟨b, 0, none⟩ = some (.int .i64 d.cap) ∧ w.cell? ⟨b, 1, none⟩ = some (.map (some bm)) ∧ w.cell? ⟨b, 2, none⟩ = some (.int .i64 d.ops) ∧ w.cell? ⟨b, 3, none⟩ = some (.bool d.down) ∧ w.cell? ⟨b, 4, none⟩ = some (.bool fl) ∧ w.cell? ⟨b, 5, none⟩ = some (.int .i64 lf) := by
  have hc := fun j => cell_of_row w b j _ _ _ h
  exact ⟨hc 0, hc 1, hc 2, hc 3, hc 4, hc 5⟩
theorem DBk.frozen {w : World} {b bm : Nat} {d : AD} {fl : Bool} {lf : Int} (h : DBk w b bm d fl lf) (j : Nat) : w.frozen? ⟨b, j, none⟩ = false := Joins.unfrozen_of_block h j
theorem DBk.set {w : World} {b bm : Nat} {d : AD} {fl : Bool} {lf : Int} (h : DBk w b bm d fl lf) (j : Nat) (v : Value) : (w.setCell ⟨b, j, none⟩ v).heap[b]? = some (.cells ((dCells bm d fl lf).setIfInBounds j v) 71 (0, 0)) := Joins.block_setCell h _
/-- a look-up -/
theorem find_at {α : Type} (p : α → Bool) : ∀ l : List α, l.find? p = l[l.findIdx p]?
  | [] => rfl
  | x :: l => by
    rw [List.find?_cons, List.findIdx_cons]
    cases hx : p x with
    | true => simp
    | false => simp [find_at p l]
theorem findIdx_map {α β : Type} (f : α → β) (p : β → Bool) : ∀ l : List α, (l.map f).findIdx p = l.findIdx (fun x => p (f x))
  | [] => rfl
  | x :: l => by rw [List.map_cons, List.findIdx_cons, List.findIdx_cons, findIdx_map f p l]
theorem Dk.has {w : World} {b bm : Nat} {l : List MF} {d : AD} (h : Dk w b bm l d) (s : ByteArray) (hs : d.has s) : ∃ x, l[idxN d.L s]? = some x ∧ x.f = d.get s ∧ x ∈ l ∧ lookV MF.nm MF.v zS l s = x.v := by
  have h1 := d.get_at s hs
  rw [h.files, List.getElem?_map] at h1
  obtain ⟨x, hx, hf⟩ := Option.map_eq_some_iff.1 h1
  have hx2 : l[idxN d.L s]? = some x := by rw [h.files]; exact hx
  refine ⟨x, hx2, hf, List.mem_of_getElem? hx2, ?_⟩
  unfold lookV atBy
  rw [find_at]
  have e : l.findIdx (fun x => decide (MF.nm x = s)) = idxN d.L s := by
    rw [h.files]; unfold idxN; rw [findIdx_map]; rfl
  rw [e, hx2]
theorem Dk.hasnt {w : World} {b bm : Nat} {l : List MF} {d : AD} (h : Dk w b bm l d) (s : ByteArray) (hs : ¬ d.has s) : lookV MF.nm MF.v zS l s = zS := by
  unfold lookV atBy
  have e : l.find? (fun x => decide (MF.nm x = s)) = none := by
    rw [List.find?_eq_none]
    intro x hx
    have := has_mem hs x.f (by rw [h.files]; exact List.mem_map_of_mem hx)
    simp only [decide_eq_true_eq]; exact this
  rw [e]
theorem map_out (l : List MF) (s : ByteArray) : (outBy MF.nm l s).map MF.f = withoutF (l.map MF.f) s := by
  unfold outBy withoutF
  rw [List.filter_map]; rfl
theorem map_in (l : List MF) (x : MF) : (inBy MF.nm l x).map MF.f = insF (l.map MF.f) x.f := by
  unfold inBy insF insK
  rw [findIdx_map, List.map_append, List.map_cons, List.map_take, List.map_drop]; rfl
theorem mem_out {l : List MF} {s : ByteArray} {x : MF} : x ∈ outBy MF.nm l s ↔ x ∈ l ∧ x.f.name ≠ s := by
  unfold outBy
  rw [List.mem_filter, Bool.not_eq_true', decide_eq_false_iff_not]; exact Iff.rfl
theorem in_perm (l : List MF) (x : MF) : (inBy MF.nm l x).Perm (x :: l) := by
  unfold inBy
  refine List.perm_middle.trans ?_
  rw [List.take_append_drop]
theorem mem_in {l : List MF} {x y : MF} : y ∈ inBy MF.nm l x ↔ y = x ∨ y ∈ l := by rw [(in_perm l x).mem_iff, List.mem_cons]
theorem nodup_out {l : List MF} (h : (l.map MF.g).Nodup) (s : ByteArray) : ((outBy MF.nm l s).map MF.g).Nodup := h.sublist (List.filter_sublist.map _)
theorem nodup_in {l : List MF} (h : (l.map MF.g).Nodup) (x : MF) (hx : ∀ y ∈ l, y.g ≠ x.g) : ((inBy MF.nm l x).map MF.g).Nodup := by
  rw [((in_perm l x).map MF.g).nodup_iff, List.map_cons, List.nodup_cons]
  refine ⟨fun hm => ?_, h⟩
  obtain ⟨y, hy, e⟩ := List.mem_map.1 hm
  exact hx y hy e
/-! the program's disk, as the laws' walks speak of it -/
def DKp (w : World) (p : Addr) (F : Nat → Bool) (d : AD) : Prop := Foot F w.heap.size ∧ ∃ b bm l, p = ⟨b, 0, none⟩ ∧ Dk w b bm l d ∧ ∀ k, own b bm l k → F k = true
theorem DKp.keep {w w' : World} {p : Addr} {F : Nat → Bool} {d : AD} (h : DKp w p F d) (hs : w.heap.size ≤ w'.heap.size) (hk : ∀ k, F k = true → w'.heap[k]? = w.heap[k]?) : DKp w' p F d := by
  obtain ⟨hF, b, bm, l, rfl, hd, ho⟩ := h
  exact ⟨hF.mono hs, b, bm, l, rfl, hd.keep fun k h => hk k (ho k h), ho⟩
/-- behind a call that turns blocks of F alone -/
theorem DKp.done {w w' : World} {b bm : Nat} {l : List MF} {F : Nat → Bool} {d : AD} (hF : Foot F w.heap.size) (hx : Ext F w w' F) (hd : Dk w' b bm l d) (ho : ∀ k, own b bm l k → k < w.heap.size → F k = true) :
    ∃ F', DKp w' ⟨b, 0, none⟩ F' d ∧ Ext F w w' F' :=
  ⟨plusF F w.heap.size w'.heap.size, ⟨plusF_foot hF hx.size, b, bm, l, rfl, hd, fun k hk => by
    by_cases hl : k < w.heap.size
    · exact plusF_mono _ _ _ _ (ho k hk hl)
    · exact plusF_in _ _ _ _ (by omega) (hd.lt k hk)⟩, ⟨hx.os, hx.tape, hx.output, hx.size, hx.block, fun k hk => by simp [plusF]; intro h1; omega⟩⟩
theorem Ext.grown {F : Nat → Bool} {w w' w'' : World} (h : Ext F w w' F) {g : Nat} (k : w'.grownBy w'' (some g)) (hg : F g = true ∨ w.heap.size ≤ g) : Ext F w w'' F :=
  ⟨k.os.trans h.os, k.tape.trans h.tape, k.output.trans h.output, Nat.le_trans h.size k.size, fun i hi hf => (k.block i (Nat.lt_of_lt_of_le hi h.size) (fun e => by
    obtain rfl := Option.some.inj e
    rcases hg with hg | hg
    · rw [hg] at hf; simp at hf
    · omega)).trans (h.block i hi hf), fun _ _ => rfl⟩
theorem Ext.then_below {F : Nat → Bool} {w w' w'' : World} (h : Ext F w w' F) (k : Below w'.heap.size w' w'') : Ext F w w'' F := h.trans (Ext.below k)
theorem Ext.drew {F : Nat → Bool} {w w' : World} (h : Ext F w w' F) : Ext F w w'.drew F := ⟨h.os, h.tape, h.output, h.size, h.block, h.foot⟩
end Go.Proofs.Ytpnialanmidekaa
/-
  LAYER 8 (disk), the program's own disk: what only tells: Size, Ops, Down, nearer, kept, and what keeps a job from being done (mayFind, mayReach, mayRename, mayFail). No condition.
-/
namespace Go.Proofs.Ytpnialanmidekaa
open Go.RowKit
theorem zeroS (w : World) : (zeroValue 92).run Try.prog w = .ok zS w := by kernel_rfl
theorem size_le {s : ByteArray} (h : s.size ≤ 281474976710656) : s.size ≤ maxLen := by unfold maxLen; omega
set_option maxRecDepth 8000 in
theorem psize_any (w : World) (b bm : Nat) (l : List MF) (d : AD) (s : ByteArray) (h : Dk w b bm l d) (hs : s.size ≤ 281474976710656) :
    Calls Try.prog 23 #[ptr ⟨b, 0, none⟩, .string s] w fun e w' => e = .returned (.int .i64 (if d.has s then ((d.get s).n : Int) else 0)) ∧ w = w' := by
  have HM := Lib.hid h.map
  have HZ := Lib.hid (size_le hs)
  obtain ⟨fl, lf, hb, _⟩ := h.blk
  obtain ⟨c0, c1, c2, c3, c4, c5⟩ := hb.cells
  by_cases hh : d.has s
  · obtain ⟨x, _, hf, _, hl⟩ := h.has s hh
    rw [if_pos hh, ← hf]
    have HL := Lib.hid (hl.trans (show x.v = .slice (some ⟨x.g, 0, none⟩) x.f.n x.c from rfl))
    clear hb hs h hl hf hh
    go_enter Try.func23, Try.ntmps23
    go_wp2_with (first
      | (refine wpl_look secE rfl (.tmp 10) (.tmp 11) 69 rfl 9 92 Try.underlying9 Try.underlying69 (zeroS _) bm l rfl HM.out s rfl HZ.out ?_; rw [HL.out]))
    go_ret
    exact ⟨rfl, rfl⟩
  · have HL := Lib.hid (h.hasnt s hh)
    rw [if_neg hh]
    clear hb hs h hh
    go_enter Try.func23, Try.ntmps23
    go_wp2_with (first
      | (refine wpl_look secE rfl (.tmp 10) (.tmp 11) 69 rfl 9 92 Try.underlying9 Try.underlying69 (zeroS _) bm l rfl HM.out s rfl HZ.out ?_; rw [HL.out]))
    go_ret
    exact ⟨rfl, rfl⟩
theorem pops_any (w : World) (b bm : Nat) (l : List MF) (d : AD) (h : Dk w b bm l d) :
    Calls Try.prog 28 #[ptr ⟨b, 0, none⟩] w fun e w' => e = .returned (.int .i64 d.ops) ∧ w = w' := by
  obtain ⟨fl, lf, hb, _⟩ := h.blk
  obtain ⟨c0, c1, c2, c3, c4, c5⟩ := hb.cells
  clear hb h
  go_enter Try.func28, Try.ntmps28
  go_wp2
  go_ret
  exact ⟨rfl, rfl⟩
theorem pdown_any (w : World) (b bm : Nat) (l : List MF) (d : AD) (h : Dk w b bm l d) :
    Calls Try.prog 29 #[ptr ⟨b, 0, none⟩] w fun e w' => e = .returned (.bool d.down) ∧ w = w' := by
  obtain ⟨fl, lf, hb, _⟩ := h.blk
  obtain ⟨c0, c1, c2, c3, c4, c5⟩ := hb.cells
  clear hb h
  go_enter Try.func29, Try.ntmps29
  go_wp2
  go_ret
  exact ⟨rfl, rfl⟩
theorem nearer_any (n m : Int) (_hn : I63 n) (_hm : I63 m) (w : World) :
    Calls Try.prog 30 #[.int .i64 n, .int .i64 m] w fun e w' => e = .returned (.int .i64 (min (max n 0) m)) ∧ w = w' := by
  go_enter Try.func30, Try.ntmps30
  go_wp2
  go_ret
  refine ⟨?_, rfl⟩
  first | rfl | skip
/-- a job -/
abbrev jobC (p : Addr) (s t : ByteArray) (x n : Int) (v : Value) : Array Value := #[ptr p, .string s, .string t, .int .i64 x, .int .i64 n, v]
abbrev jobV (p : Addr) (s t : ByteArray) (x n : Int) (v : Value) : Value := .agg (jobC p s t x n v)
set_option maxRecDepth 8000 in
theorem mayFind_any (w : World) (b bm : Nat) (l : List MF) (d : AD) (s t : ByteArray) (x n : Int) (a : Option Addr) (m c : Nat) (h : Dk w b bm l d) (hg : Good d) (hs : s.size ≤ 281474976710656) :
    Calls Try.prog 56 #[jobV ⟨b, 0, none⟩ s t x n (.slice a m c)] w fun e w' => e = .returned (.int .i64 (if d.has s then 0 else 7)) ∧ Below w.heap.size w w' := by
  have HD := Lib.hid (h.below (below_alloc w (.cells (jobC ⟨b, 0, none⟩ s t x n (.slice a m c)) 84)))
  have HS := Lib.hid hs
  have HB := Lib.hid (below_alloc w (.cells (jobC ⟨b, 0, none⟩ s t x n (.slice a m c)) 84))
  by_cases hh : d.has s
  · have h1 := (hg.file _ (get_mem hh)).n1
    have h2 := (hg.file _ (get_mem hh)).n64
    obtain ⟨k, hk⟩ : ∃ k, (d.get s).n = k := ⟨_, rfl⟩
    rw [hk] at h1 h2
    have HK := Lib.hid (show (if d.has s then ((d.get s).n : Int) else 0) = (k : Int) by rw [if_pos hh, hk])
    rw [if_pos hh]
    clear h hs hg hh hk
    go_enter Try.func56, Try.ntmps56
    go_wp2_with (first
      | (go_at_call 23; (with_reducible refine (psize_any _ b bm l d s HD.out HS.out).mono ?_); rintro e w1 ⟨rfl, rfl⟩; rw [HK.out]))
    all_goals first | (exfalso; omega) | skip
    all_goals go_ret
    all_goals exact ⟨rfl, HB.out⟩
  · have HK := Lib.hid (show (if d.has s then ((d.get s).n : Int) else 0) = 0 by rw [if_neg hh])
    rw [if_neg hh]
    clear h hs hg hh
    go_enter Try.func56, Try.ntmps56
    go_wp2_with (first
      | (go_at_call 23; (with_reducible refine (psize_any _ b bm l d s HD.out HS.out).mono ?_); rintro e w1 ⟨rfl, rfl⟩; rw [HK.out]))
    all_goals go_ret
    all_goals exact ⟨rfl, HB.out⟩
/-- a job's box -/
def JB (w : World) (g : Nat) (cs : Array Value) : Prop := w.heap[g]? = some (.cells cs 84 (0, 0))
theorem JB.below {w w' : World} {g : Nat} {cs : Array Value} (h : JB w g cs) (hb : Below w.heap.size w w') : JB w' g cs := by
  unfold JB at *; rw [hb.block g (Array.getElem?_eq_some_iff.1 h).1]; exact h
theorem JB.new (w : World) (cs : Array Value) : JB (w.alloc (.cells cs 84)) w.heap.size cs := heap_alloc_last w _
theorem JB.cells {w : World} {g : Nat} {v0 v1 v2 v3 v4 v5 : Value} (h : JB w g #[v0, v1, v2, v3, v4, v5]) :
    w.cell? ⟨g, 0, none⟩ = some v0 ∧ w.cell? ⟨g, 1, none⟩ = some v1 ∧ w.cell? ⟨g, 2, none⟩ = some v2 ∧ w.cell? ⟨g, 3, none⟩ = some v3 ∧ w.cell? ⟨g, 4, none⟩ = some v4 ∧ w.cell? ⟨g, 5, none⟩ = some v5 := by
  have hc := fun j => cell_of_row w g j _ _ _ h
  exact ⟨hc 0, hc 1, hc 2, hc 3, hc 4, hc 5⟩
/-- where a job's function stands: its box, the disk -/
structure Jd (w : World) (b bm : Nat) (l : List MF) (d : AD) (s t : ByteArray) (x n : Int) (v : Value) (w' : World) : Prop where
  below : Below w.heap.size w w'
  size : w.heap.size < w'.heap.size
  jb : JB w' w.heap.size (jobC ⟨b, 0, none⟩ s t x n v)
  dk : Dk w' b bm l d
theorem Jd.start {w : World} {b bm : Nat} {l : List MF} {d : AD} (h : Dk w b bm l d) (s t : ByteArray) (x n : Int) (v : Value) : Jd w b bm l d s t x n v (w.alloc (.cells (jobC ⟨b, 0, none⟩ s t x n v) 84)) :=
  ⟨below_alloc w _, by rw [alloc_size]; omega, JB.new w _, h.below (below_alloc w _)⟩
theorem Jd.next {w w1 w2 : World} {b bm : Nat} {l : List MF} {d : AD} {s t : ByteArray} {x n : Int} {v : Value} (h : Jd w b bm l d s t x n v w1) (hb : Below w1.heap.size w1 w2) : Jd w b bm l d s t x n v w2 :=
  ⟨chain h.below hb, Nat.lt_of_lt_of_le h.size hb.size, h.jb.below hb, h.dk.below hb⟩
theorem Jd.five {w w1 : World} {b bm : Nat} {l : List MF} {d : AD} {s t : ByteArray} {x n : Int} {v : Value} (h : Jd w b bm l d s t x n v w1) :
    w1.cell? ⟨w.heap.size, 0, none⟩ = some (ptr ⟨b, 0, none⟩) ∧ w1.cell? ⟨w.heap.size, 1, none⟩ = some (.string s) ∧ w1.cell? ⟨w.heap.size, 3, none⟩ = some (.int .i64 x) ∧ w1.cell? ⟨w.heap.size, 4, none⟩ = some (.int .i64 n) ∧ Jd w b bm l d s t x n v w1 := by
  obtain ⟨c0, c1, _, c3, c4, _⟩ := h.jb.cells
  exact ⟨c0, c1, c3, c4, h⟩
theorem Jd.drew {w w1 : World} {b bm : Nat} {l : List MF} {d : AD} {s t : ByteArray} {x n : Int} {v : Value} (h : Jd w b bm l d s t x n v w1) : Jd w b bm l d s t x n v w1.drew := h.next (Below.refl _ _).drew
set_option maxRecDepth 8000 in
set_option maxHeartbeats 1000000 in
theorem mayReach_any (w : World) (b bm : Nat) (l : List MF) (d : AD) (s t : ByteArray) (x n : Int) (a : Option Addr) (m c : Nat) (h : Dk w b bm l d) (hg : Good d) (hs : s.size ≤ 281474976710656) (hx : I63 x) (hn : I63 n) (y : Int)
    (hy : (if ¬ d.has s then 7 else if x < 0 ∨ n < 0 ∨ ((d.get s).n : Int) - n < x then 4 else 0) = y) :
    Calls Try.prog 53 #[jobV ⟨b, 0, none⟩ s t x n (.slice a m c)] w fun e w' => e = .returned (.int .i64 y) ∧ Below w.heap.size w w' := by
  have HJ := Lib.hid (Jd.start h s t x n (.slice a m c))
  have HS := Lib.hid hs
  have HG := Lib.hid hg
  have hx' : -9223372036854775808 ≤ x ∧ x ≤ 9223372036854775807 := hx
  have hn' : -9223372036854775808 ≤ n ∧ n ≤ 9223372036854775807 := hn
  by_cases hh : d.has s
  · rw [if_neg (by simpa using hh)] at hy
    have h2 := (hg.file _ (get_mem hh)).n64
    have HF := Lib.hid (show (if d.has s then (0 : Int) else 7) = 0 by rw [if_pos hh])
    obtain ⟨k, hk⟩ : ∃ k, (d.get s).n = k := ⟨_, rfl⟩
    have HZ := Lib.hid (show (if d.has s then ((d.get s).n : Int) else 0) = (k : Int) by rw [if_pos hh, hk])
    rw [hk] at hy h2
    clear h hs hg hx hn hh hk
    by_cases h3 : x < 0
    · rw [if_pos (.inl h3)] at hy
      subst hy
      go_enter Try.func53, Try.ntmps53
      go_wp2_with (first
        | (refine wpList_load_row rfl 84 _ rfl w.heap.size rfl _ (jobC ⟨b, 0, none⟩ s t x n (.slice a m c)) (0, 0) _ HJ.out.jb Try.underlying84 rfl (by kernel_rfl) ?_)
        | (go_at_call 56; (with_reducible refine (mayFind_any _ b bm l d s t x n a m c HJ.out.dk HG.out HS.out).mono ?_); rintro e w1 ⟨rfl, hb⟩; rw [HF.out]; have HJ1 := Lib.hid (HJ.out.next hb); clear hb))
      refine wp_region_held_drew (S := (fun w' => w'.cell? ⟨w.heap.size, 0, none⟩ = some (ptr ⟨b, 0, none⟩) ∧ w'.cell? ⟨w.heap.size, 1, none⟩ = some (.string s) ∧ w'.cell? ⟨w.heap.size, 3, none⟩ = some (.int .i64 x) ∧ w'.cell? ⟨w.heap.size, 4, none⟩ = some (.int .i64 n) ∧ Jd w b bm l d s t x n (.slice a m c) w')) (by kernel_rfl) (Jd.five HJ1.out.drew) (fun hS => ?_)
      refine wpAnyH_take (i := 0) (oi := ({ dst := some 9, op := Op.fieldAddr 84 (Operand.tmp 1) 3, type := 0, pos := "job.go:57", after := #[], guard := none } : Oper)) (v := ?_) rfl (by kernel_rfl) (by kernel_rfl) (by kernel_rfl) (fun _ _ _ h => h) (Or.inl ⟨by rfl, ?_⟩) hS ?_
      rotate_left
      · (intro w hSw; (try dsimp only at hSw); go_simp; try with_reducible rfl)
      (try simp only [Act.put, List.setIfInBounds_toArray, List.set_cons_zero, List.set_cons_succ])
      refine wpAnyH_take (i := 1) (oi := ({ dst := some 10, op := Op.load 3 (Operand.tmp 9), type := 3, pos := "job.go:57", after := #[{ on := 0, ground := Ground.data }], guard := none } : Oper)) (v := ?_) rfl (by kernel_rfl) (by kernel_rfl) (by kernel_rfl) (fun _ _ _ h => h) (Or.inl ⟨by rfl, ?_⟩) hS ?_
      rotate_left
      · (intro w hSw; (try dsimp only at hSw); go_simp; try with_reducible rfl)
      (try simp only [Act.put, List.setIfInBounds_toArray, List.set_cons_zero, List.set_cons_succ])
      refine wpAnyH_take (i := 2) (oi := ({ dst := some 11, op := Op.binOp BinOp.lss 3 (Operand.tmp 10) (Operand.const (Value.int IntKind.i64 0)) 3, type := 4, pos := "job.go:57", after := #[{ on := 1, ground := Ground.data }], guard := none } : Oper)) (v := ?_) rfl (by kernel_rfl) (by kernel_rfl) (by kernel_rfl) (fun _ _ _ h => h) (Or.inl ⟨by rfl, ?_⟩) hS ?_
      rotate_left
      · (intro w hSw; (try dsimp only at hSw); go_simp; try with_reducible rfl)
      (try simp only [Act.put, List.setIfInBounds_toArray, List.set_cons_zero, List.set_cons_succ])
      refine wpAnyH_take (i := 3) (oi := ({ dst := some 12, op := Op.move (Operand.tmp 11), type := 4, pos := "job.go:57", after := #[{ on := 2, ground := Ground.data }], guard := none } : Oper)) (v := ?_) rfl (by kernel_rfl) (by kernel_rfl) (by kernel_rfl) (fun _ _ _ h => h) (Or.inl ⟨by rfl, ?_⟩) hS ?_
      rotate_left
      · (intro w hSw; (try dsimp only at hSw); go_simp; try with_reducible rfl)
      (try simp only [Act.put, List.setIfInBounds_toArray, List.set_cons_zero, List.set_cons_succ])
      refine wpAnyH_take (i := 4) (oi := ({ dst := some 13, op := Op.fieldAddr 84 (Operand.tmp 1) 4, type := 0, pos := "job.go:57", after := #[{ on := 3, ground := Ground.guard }], guard := some (3, false) } : Oper)) (v := undef) rfl (by kernel_rfl) (by kernel_rfl) (by kernel_rfl) (fun _ _ _ h => h) (Or.inr ⟨by rfl, rfl⟩) hS ?_
      (try simp only [Act.put, List.setIfInBounds_toArray, List.set_cons_zero, List.set_cons_succ])
      refine wpAnyH_take (i := 5) (oi := ({ dst := some 14, op := Op.load 3 (Operand.tmp 13), type := 3, pos := "job.go:57", after := #[{ on := 4, ground := Ground.data }, { on := 3, ground := Ground.guard }], guard := some (3, false) } : Oper)) (v := undef) rfl (by kernel_rfl) (by kernel_rfl) (by kernel_rfl) (fun _ _ _ h => h) (Or.inr ⟨by rfl, rfl⟩) hS ?_
      (try simp only [Act.put, List.setIfInBounds_toArray, List.set_cons_zero, List.set_cons_succ])
      refine wpAnyH_take (i := 6) (oi := ({ dst := some 15, op := Op.binOp BinOp.lss 3 (Operand.tmp 14) (Operand.const (Value.int IntKind.i64 0)) 3, type := 4, pos := "job.go:57", after := #[{ on := 5, ground := Ground.data }, { on := 3, ground := Ground.guard }], guard := some (3, false) } : Oper)) (v := undef) rfl (by kernel_rfl) (by kernel_rfl) (by kernel_rfl) (fun _ _ _ h => h) (Or.inr ⟨by rfl, rfl⟩) hS ?_
      (try simp only [Act.put, List.setIfInBounds_toArray, List.set_cons_zero, List.set_cons_succ])
      refine wpAnyH_take (i := 7) (oi := ({ dst := some 16, op := Op.pick (Operand.tmp 12) (Operand.const (Value.bool true)) (Operand.tmp 15), type := 4, pos := "job.go:57", after := #[{ on := 3, ground := Ground.data }, { on := 6, ground := Ground.data }], guard := none } : Oper)) (v := ?_) rfl (by kernel_rfl) (by kernel_rfl) (by kernel_rfl) (fun _ _ _ h => h) (Or.inl ⟨by rfl, ?_⟩) hS ?_
      rotate_left
      · (intro w hSw; (try dsimp only at hSw); go_simp; try with_reducible rfl)
      (try simp only [Act.put, List.setIfInBounds_toArray, List.set_cons_zero, List.set_cons_succ])
      refine wpAnyH_take (i := 8) (oi := ({ dst := some 17, op := Op.move (Operand.tmp 16), type := 4, pos := "job.go:57", after := #[{ on := 7, ground := Ground.data }, { on := 3, ground := Ground.chain }], guard := none } : Oper)) (v := ?_) rfl (by kernel_rfl) (by kernel_rfl) (by kernel_rfl) (fun _ _ _ h => h) (Or.inl ⟨by rfl, ?_⟩) hS ?_
      rotate_left
      · (intro w hSw; (try dsimp only at hSw); go_simp; try with_reducible rfl)
      (try simp only [Act.put, List.setIfInBounds_toArray, List.set_cons_zero, List.set_cons_succ])
      refine wpAnyH_take (i := 9) (oi := ({ dst := some 18, op := Op.fieldAddr 84 (Operand.tmp 1) 3, type := 0, pos := "job.go:57", after := #[{ on := 8, ground := Ground.guard }], guard := some (8, false) } : Oper)) (v := undef) rfl (by kernel_rfl) (by kernel_rfl) (by kernel_rfl) (fun _ _ _ h => h) (Or.inr ⟨by rfl, rfl⟩) hS ?_
      (try simp only [Act.put, List.setIfInBounds_toArray, List.set_cons_zero, List.set_cons_succ])
      refine wpAnyH_take (i := 10) (oi := ({ dst := some 19, op := Op.load 3 (Operand.tmp 18), type := 3, pos := "job.go:57", after := #[{ on := 9, ground := Ground.data }, { on := 8, ground := Ground.guard }], guard := some (8, false) } : Oper)) (v := undef) rfl (by kernel_rfl) (by kernel_rfl) (by kernel_rfl) (fun _ _ _ h => h) (Or.inr ⟨by rfl, rfl⟩) hS ?_
      (try simp only [Act.put, List.setIfInBounds_toArray, List.set_cons_zero, List.set_cons_succ])
      refine wpAnyH_take (i := 11) (oi := ({ dst := some 20, op := Op.fieldAddr 84 (Operand.tmp 1) 0, type := 0, pos := "job.go:57", after := #[{ on := 8, ground := Ground.guard }], guard := some (8, false) } : Oper)) (v := undef) rfl (by kernel_rfl) (by kernel_rfl) (by kernel_rfl) (fun _ _ _ h => h) (Or.inr ⟨by rfl, rfl⟩) hS ?_
      (try simp only [Act.put, List.setIfInBounds_toArray, List.set_cons_zero, List.set_cons_succ])
      refine wpAnyH_take (i := 12) (oi := ({ dst := some 21, op := Op.load 25 (Operand.tmp 20), type := 25, pos := "job.go:57", after := #[{ on := 11, ground := Ground.data }, { on := 8, ground := Ground.guard }], guard := some (8, false) } : Oper)) (v := undef) rfl (by kernel_rfl) (by kernel_rfl) (by kernel_rfl) (fun _ _ _ h => h) (Or.inr ⟨by rfl, rfl⟩) hS ?_
      (try simp only [Act.put, List.setIfInBounds_toArray, List.set_cons_zero, List.set_cons_succ])
      refine wpAnyH_take (i := 13) (oi := ({ dst := some 22, op := Op.fieldAddr 84 (Operand.tmp 1) 1, type := 0, pos := "job.go:57", after := #[{ on := 8, ground := Ground.guard }], guard := some (8, false) } : Oper)) (v := undef) rfl (by kernel_rfl) (by kernel_rfl) (by kernel_rfl) (fun _ _ _ h => h) (Or.inr ⟨by rfl, rfl⟩) hS ?_
      (try simp only [Act.put, List.setIfInBounds_toArray, List.set_cons_zero, List.set_cons_succ])
      refine wpAnyH_take (i := 14) (oi := ({ dst := some 23, op := Op.load 9 (Operand.tmp 22), type := 9, pos := "job.go:57", after := #[{ on := 13, ground := Ground.data }, { on := 8, ground := Ground.guard }], guard := some (8, false) } : Oper)) (v := undef) rfl (by kernel_rfl) (by kernel_rfl) (by kernel_rfl) (fun _ _ _ h => h) (Or.inr ⟨by rfl, rfl⟩) hS ?_
      (try simp only [Act.put, List.setIfInBounds_toArray, List.set_cons_zero, List.set_cons_succ])
      refine wpAnyH_take (i := 15) (oi := ({ dst := some 24, op := Op.call { callee := Callee.value (Operand.func 23), args := #[Operand.tmp 21, Operand.tmp 23], argTypes := #[25, 9] }, type := 3, pos := "job.go:57", after := #[{ on := 12, ground := Ground.data }, { on := 14, ground := Ground.data }, { on := 8, ground := Ground.chain }, { on := 8, ground := Ground.guard }], guard := some (8, false) } : Oper)) (v := undef) rfl (by kernel_rfl) (by kernel_rfl) (by kernel_rfl) (fun _ _ _ h => h) (Or.inr ⟨by rfl, rfl⟩) hS ?_
      (try simp only [Act.put, List.setIfInBounds_toArray, List.set_cons_zero, List.set_cons_succ])
      refine wpAnyH_take (i := 16) (oi := ({ dst := some 25, op := Op.fieldAddr 84 (Operand.tmp 1) 4, type := 0, pos := "job.go:57", after := #[{ on := 8, ground := Ground.guard }], guard := some (8, false) } : Oper)) (v := undef) rfl (by kernel_rfl) (by kernel_rfl) (by kernel_rfl) (fun _ _ _ h => h) (Or.inr ⟨by rfl, rfl⟩) hS ?_
      (try simp only [Act.put, List.setIfInBounds_toArray, List.set_cons_zero, List.set_cons_succ])
      refine wpAnyH_take (i := 17) (oi := ({ dst := some 26, op := Op.load 3 (Operand.tmp 25), type := 3, pos := "job.go:57", after := #[{ on := 16, ground := Ground.data }, { on := 8, ground := Ground.guard }], guard := some (8, false) } : Oper)) (v := undef) rfl (by kernel_rfl) (by kernel_rfl) (by kernel_rfl) (fun _ _ _ h => h) (Or.inr ⟨by rfl, rfl⟩) hS ?_
      (try simp only [Act.put, List.setIfInBounds_toArray, List.set_cons_zero, List.set_cons_succ])
      refine wpAnyH_take (i := 18) (oi := ({ dst := some 27, op := Op.binOp BinOp.sub 3 (Operand.tmp 24) (Operand.tmp 26) 3, type := 3, pos := "job.go:57", after := #[{ on := 15, ground := Ground.data }, { on := 17, ground := Ground.data }, { on := 8, ground := Ground.guard }], guard := some (8, false) } : Oper)) (v := undef) rfl (by kernel_rfl) (by kernel_rfl) (by kernel_rfl) (fun _ _ _ h => h) (Or.inr ⟨by rfl, rfl⟩) hS ?_
      (try simp only [Act.put, List.setIfInBounds_toArray, List.set_cons_zero, List.set_cons_succ])
      refine wpAnyH_take (i := 19) (oi := ({ dst := some 28, op := Op.binOp BinOp.gtr 3 (Operand.tmp 19) (Operand.tmp 27) 3, type := 4, pos := "job.go:57", after := #[{ on := 10, ground := Ground.data }, { on := 18, ground := Ground.data }, { on := 8, ground := Ground.guard }], guard := some (8, false) } : Oper)) (v := undef) rfl (by kernel_rfl) (by kernel_rfl) (by kernel_rfl) (fun _ _ _ h => h) (Or.inr ⟨by rfl, rfl⟩) hS ?_
      (try simp only [Act.put, List.setIfInBounds_toArray, List.set_cons_zero, List.set_cons_succ])
      refine wpAnyH_take (i := 20) (oi := ({ dst := some 29, op := Op.pick (Operand.tmp 17) (Operand.const (Value.bool true)) (Operand.tmp 28), type := 4, pos := "job.go:57", after := #[{ on := 8, ground := Ground.data }, { on := 19, ground := Ground.data }], guard := none } : Oper)) (v := ?_) rfl (by kernel_rfl) (by kernel_rfl) (by kernel_rfl) (fun _ _ _ h => h) (Or.inl ⟨by rfl, ?_⟩) hS ?_
      rotate_left
      · (intro w hSw; (try dsimp only at hSw); go_simp; try with_reducible rfl)
      (try simp only [Act.put, List.setIfInBounds_toArray, List.set_cons_zero, List.set_cons_succ])
      refine wpAnyH_done (by kernel_rfl) ?_ _
      have HB := Lib.hid hS.2.2.2.2.below
      clear hS
      go_wp2
      go_ret
      exact ⟨rfl, HB.out⟩
    have hd3 : decide (x < 0) = false := decide_eq_false h3
    by_cases h4 : n < 0
    · have hd4 : decide (n < 0) = true := decide_eq_true h4
      rw [if_pos (.inr (.inl h4))] at hy
      subst hy
      go_enter Try.func53, Try.ntmps53
      go_wp2_with (first
        | (refine wpList_load_row rfl 84 _ rfl w.heap.size rfl _ (jobC ⟨b, 0, none⟩ s t x n (.slice a m c)) (0, 0) _ HJ.out.jb Try.underlying84 rfl (by kernel_rfl) ?_)
        | (go_at_call 56; (with_reducible refine (mayFind_any _ b bm l d s t x n a m c HJ.out.dk HG.out HS.out).mono ?_); rintro e w1 ⟨rfl, hb⟩; rw [HF.out]; have HJ1 := Lib.hid (HJ.out.next hb); clear hb))
      refine wp_region_held_drew (S := (fun w' => w'.cell? ⟨w.heap.size, 0, none⟩ = some (ptr ⟨b, 0, none⟩) ∧ w'.cell? ⟨w.heap.size, 1, none⟩ = some (.string s) ∧ w'.cell? ⟨w.heap.size, 3, none⟩ = some (.int .i64 x) ∧ w'.cell? ⟨w.heap.size, 4, none⟩ = some (.int .i64 n) ∧ Jd w b bm l d s t x n (.slice a m c) w')) (by kernel_rfl) (Jd.five HJ1.out.drew) (fun hS => ?_)
      refine wpAnyH_take (i := 0) (oi := ({ dst := some 9, op := Op.fieldAddr 84 (Operand.tmp 1) 3, type := 0, pos := "job.go:57", after := #[], guard := none } : Oper)) (v := ?_) rfl (by kernel_rfl) (by kernel_rfl) (by kernel_rfl) (fun _ _ _ h => h) (Or.inl ⟨by rfl, ?_⟩) hS ?_
      rotate_left
      · (intro w hSw; (try dsimp only at hSw); go_simp; try with_reducible rfl)
      (try simp only [Act.put, List.setIfInBounds_toArray, List.set_cons_zero, List.set_cons_succ])
      refine wpAnyH_take (i := 1) (oi := ({ dst := some 10, op := Op.load 3 (Operand.tmp 9), type := 3, pos := "job.go:57", after := #[{ on := 0, ground := Ground.data }], guard := none } : Oper)) (v := ?_) rfl (by kernel_rfl) (by kernel_rfl) (by kernel_rfl) (fun _ _ _ h => h) (Or.inl ⟨by rfl, ?_⟩) hS ?_
      rotate_left
      · (intro w hSw; (try dsimp only at hSw); go_simp; try with_reducible rfl)
      (try simp only [Act.put, List.setIfInBounds_toArray, List.set_cons_zero, List.set_cons_succ])
      refine wpAnyH_take (i := 2) (oi := ({ dst := some 11, op := Op.binOp BinOp.lss 3 (Operand.tmp 10) (Operand.const (Value.int IntKind.i64 0)) 3, type := 4, pos := "job.go:57", after := #[{ on := 1, ground := Ground.data }], guard := none } : Oper)) (v := .bool false) rfl (by kernel_rfl) (by kernel_rfl) (by kernel_rfl) (fun _ _ _ h => h) (Or.inl ⟨by rfl, ?_⟩) hS ?_
      · (intro w hSw; (try dsimp only at hSw); go_simp)
      (try simp only [Act.put, List.setIfInBounds_toArray, List.set_cons_zero, List.set_cons_succ])
      refine wpAnyH_take (i := 3) (oi := ({ dst := some 12, op := Op.move (Operand.tmp 11), type := 4, pos := "job.go:57", after := #[{ on := 2, ground := Ground.data }], guard := none } : Oper)) (v := ?_) rfl (by kernel_rfl) (by kernel_rfl) (by kernel_rfl) (fun _ _ _ h => h) (Or.inl ⟨by rfl, ?_⟩) hS ?_
      rotate_left
      · (intro w hSw; (try dsimp only at hSw); go_simp; try with_reducible rfl)
      (try simp only [Act.put, List.setIfInBounds_toArray, List.set_cons_zero, List.set_cons_succ])
      refine wpAnyH_take (i := 4) (oi := ({ dst := some 13, op := Op.fieldAddr 84 (Operand.tmp 1) 4, type := 0, pos := "job.go:57", after := #[{ on := 3, ground := Ground.guard }], guard := some (3, false) } : Oper)) (v := ?_) rfl (by kernel_rfl) (by kernel_rfl) (by kernel_rfl) (fun _ _ _ h => h) (Or.inl ⟨by rfl, ?_⟩) hS ?_
      rotate_left
      · (intro w hSw; (try dsimp only at hSw); go_simp; try with_reducible rfl)
      (try simp only [Act.put, List.setIfInBounds_toArray, List.set_cons_zero, List.set_cons_succ])
      refine wpAnyH_take (i := 5) (oi := ({ dst := some 14, op := Op.load 3 (Operand.tmp 13), type := 3, pos := "job.go:57", after := #[{ on := 4, ground := Ground.data }, { on := 3, ground := Ground.guard }], guard := some (3, false) } : Oper)) (v := ?_) rfl (by kernel_rfl) (by kernel_rfl) (by kernel_rfl) (fun _ _ _ h => h) (Or.inl ⟨by rfl, ?_⟩) hS ?_
      rotate_left
      · (intro w hSw; (try dsimp only at hSw); go_simp; try with_reducible rfl)
      (try simp only [Act.put, List.setIfInBounds_toArray, List.set_cons_zero, List.set_cons_succ])
      refine wpAnyH_take (i := 6) (oi := ({ dst := some 15, op := Op.binOp BinOp.lss 3 (Operand.tmp 14) (Operand.const (Value.int IntKind.i64 0)) 3, type := 4, pos := "job.go:57", after := #[{ on := 5, ground := Ground.data }, { on := 3, ground := Ground.guard }], guard := some (3, false) } : Oper)) (v := .bool true) rfl (by kernel_rfl) (by kernel_rfl) (by kernel_rfl) (fun _ _ _ h => h) (Or.inl ⟨by rfl, ?_⟩) hS ?_
      · (intro w hSw; (try dsimp only at hSw); go_simp)
      (try simp only [Act.put, List.setIfInBounds_toArray, List.set_cons_zero, List.set_cons_succ])
      refine wpAnyH_take (i := 7) (oi := ({ dst := some 16, op := Op.pick (Operand.tmp 12) (Operand.const (Value.bool true)) (Operand.tmp 15), type := 4, pos := "job.go:57", after := #[{ on := 3, ground := Ground.data }, { on := 6, ground := Ground.data }], guard := none } : Oper)) (v := ?_) rfl (by kernel_rfl) (by kernel_rfl) (by kernel_rfl) (fun _ _ _ h => h) (Or.inl ⟨by rfl, ?_⟩) hS ?_
      rotate_left
      · (intro w hSw; (try dsimp only at hSw); go_simp; try with_reducible rfl)
      (try simp only [Act.put, List.setIfInBounds_toArray, List.set_cons_zero, List.set_cons_succ])
      refine wpAnyH_take (i := 8) (oi := ({ dst := some 17, op := Op.move (Operand.tmp 16), type := 4, pos := "job.go:57", after := #[{ on := 7, ground := Ground.data }, { on := 3, ground := Ground.chain }], guard := none } : Oper)) (v := ?_) rfl (by kernel_rfl) (by kernel_rfl) (by kernel_rfl) (fun _ _ _ h => h) (Or.inl ⟨by rfl, ?_⟩) hS ?_
      rotate_left
      · (intro w hSw; (try dsimp only at hSw); go_simp; try with_reducible rfl)
      (try simp only [Act.put, List.setIfInBounds_toArray, List.set_cons_zero, List.set_cons_succ])
      refine wpAnyH_take (i := 9) (oi := ({ dst := some 18, op := Op.fieldAddr 84 (Operand.tmp 1) 3, type := 0, pos := "job.go:57", after := #[{ on := 8, ground := Ground.guard }], guard := some (8, false) } : Oper)) (v := undef) rfl (by kernel_rfl) (by kernel_rfl) (by kernel_rfl) (fun _ _ _ h => h) (Or.inr ⟨by rfl, rfl⟩) hS ?_
      (try simp only [Act.put, List.setIfInBounds_toArray, List.set_cons_zero, List.set_cons_succ])
      refine wpAnyH_take (i := 10) (oi := ({ dst := some 19, op := Op.load 3 (Operand.tmp 18), type := 3, pos := "job.go:57", after := #[{ on := 9, ground := Ground.data }, { on := 8, ground := Ground.guard }], guard := some (8, false) } : Oper)) (v := undef) rfl (by kernel_rfl) (by kernel_rfl) (by kernel_rfl) (fun _ _ _ h => h) (Or.inr ⟨by rfl, rfl⟩) hS ?_
      (try simp only [Act.put, List.setIfInBounds_toArray, List.set_cons_zero, List.set_cons_succ])
      refine wpAnyH_take (i := 11) (oi := ({ dst := some 20, op := Op.fieldAddr 84 (Operand.tmp 1) 0, type := 0, pos := "job.go:57", after := #[{ on := 8, ground := Ground.guard }], guard := some (8, false) } : Oper)) (v := undef) rfl (by kernel_rfl) (by kernel_rfl) (by kernel_rfl) (fun _ _ _ h => h) (Or.inr ⟨by rfl, rfl⟩) hS ?_
      (try simp only [Act.put, List.setIfInBounds_toArray, List.set_cons_zero, List.set_cons_succ])
      refine wpAnyH_take (i := 12) (oi := ({ dst := some 21, op := Op.load 25 (Operand.tmp 20), type := 25, pos := "job.go:57", after := #[{ on := 11, ground := Ground.data }, { on := 8, ground := Ground.guard }], guard := some (8, false) } : Oper)) (v := undef) rfl (by kernel_rfl) (by kernel_rfl) (by kernel_rfl) (fun _ _ _ h => h) (Or.inr ⟨by rfl, rfl⟩) hS ?_
      (try simp only [Act.put, List.setIfInBounds_toArray, List.set_cons_zero, List.set_cons_succ])
      refine wpAnyH_take (i := 13) (oi := ({ dst := some 22, op := Op.fieldAddr 84 (Operand.tmp 1) 1, type := 0, pos := "job.go:57", after := #[{ on := 8, ground := Ground.guard }], guard := some (8, false) } : Oper)) (v := undef) rfl (by kernel_rfl) (by kernel_rfl) (by kernel_rfl) (fun _ _ _ h => h) (Or.inr ⟨by rfl, rfl⟩) hS ?_
      (try simp only [Act.put, List.setIfInBounds_toArray, List.set_cons_zero, List.set_cons_succ])
      refine wpAnyH_take (i := 14) (oi := ({ dst := some 23, op := Op.load 9 (Operand.tmp 22), type := 9, pos := "job.go:57", after := #[{ on := 13, ground := Ground.data }, { on := 8, ground := Ground.guard }], guard := some (8, false) } : Oper)) (v := undef) rfl (by kernel_rfl) (by kernel_rfl) (by kernel_rfl) (fun _ _ _ h => h) (Or.inr ⟨by rfl, rfl⟩) hS ?_
      (try simp only [Act.put, List.setIfInBounds_toArray, List.set_cons_zero, List.set_cons_succ])
      refine wpAnyH_take (i := 15) (oi := ({ dst := some 24, op := Op.call { callee := Callee.value (Operand.func 23), args := #[Operand.tmp 21, Operand.tmp 23], argTypes := #[25, 9] }, type := 3, pos := "job.go:57", after := #[{ on := 12, ground := Ground.data }, { on := 14, ground := Ground.data }, { on := 8, ground := Ground.chain }, { on := 8, ground := Ground.guard }], guard := some (8, false) } : Oper)) (v := undef) rfl (by kernel_rfl) (by kernel_rfl) (by kernel_rfl) (fun _ _ _ h => h) (Or.inr ⟨by rfl, rfl⟩) hS ?_
      (try simp only [Act.put, List.setIfInBounds_toArray, List.set_cons_zero, List.set_cons_succ])
      refine wpAnyH_take (i := 16) (oi := ({ dst := some 25, op := Op.fieldAddr 84 (Operand.tmp 1) 4, type := 0, pos := "job.go:57", after := #[{ on := 8, ground := Ground.guard }], guard := some (8, false) } : Oper)) (v := undef) rfl (by kernel_rfl) (by kernel_rfl) (by kernel_rfl) (fun _ _ _ h => h) (Or.inr ⟨by rfl, rfl⟩) hS ?_
      (try simp only [Act.put, List.setIfInBounds_toArray, List.set_cons_zero, List.set_cons_succ])
      refine wpAnyH_take (i := 17) (oi := ({ dst := some 26, op := Op.load 3 (Operand.tmp 25), type := 3, pos := "job.go:57", after := #[{ on := 16, ground := Ground.data }, { on := 8, ground := Ground.guard }], guard := some (8, false) } : Oper)) (v := undef) rfl (by kernel_rfl) (by kernel_rfl) (by kernel_rfl) (fun _ _ _ h => h) (Or.inr ⟨by rfl, rfl⟩) hS ?_
      (try simp only [Act.put, List.setIfInBounds_toArray, List.set_cons_zero, List.set_cons_succ])
      refine wpAnyH_take (i := 18) (oi := ({ dst := some 27, op := Op.binOp BinOp.sub 3 (Operand.tmp 24) (Operand.tmp 26) 3, type := 3, pos := "job.go:57", after := #[{ on := 15, ground := Ground.data }, { on := 17, ground := Ground.data }, { on := 8, ground := Ground.guard }], guard := some (8, false) } : Oper)) (v := undef) rfl (by kernel_rfl) (by kernel_rfl) (by kernel_rfl) (fun _ _ _ h => h) (Or.inr ⟨by rfl, rfl⟩) hS ?_
      (try simp only [Act.put, List.setIfInBounds_toArray, List.set_cons_zero, List.set_cons_succ])
      refine wpAnyH_take (i := 19) (oi := ({ dst := some 28, op := Op.binOp BinOp.gtr 3 (Operand.tmp 19) (Operand.tmp 27) 3, type := 4, pos := "job.go:57", after := #[{ on := 10, ground := Ground.data }, { on := 18, ground := Ground.data }, { on := 8, ground := Ground.guard }], guard := some (8, false) } : Oper)) (v := undef) rfl (by kernel_rfl) (by kernel_rfl) (by kernel_rfl) (fun _ _ _ h => h) (Or.inr ⟨by rfl, rfl⟩) hS ?_
      (try simp only [Act.put, List.setIfInBounds_toArray, List.set_cons_zero, List.set_cons_succ])
      refine wpAnyH_take (i := 20) (oi := ({ dst := some 29, op := Op.pick (Operand.tmp 17) (Operand.const (Value.bool true)) (Operand.tmp 28), type := 4, pos := "job.go:57", after := #[{ on := 8, ground := Ground.data }, { on := 19, ground := Ground.data }], guard := none } : Oper)) (v := ?_) rfl (by kernel_rfl) (by kernel_rfl) (by kernel_rfl) (fun _ _ _ h => h) (Or.inl ⟨by rfl, ?_⟩) hS ?_
      rotate_left
      · (intro w hSw; (try dsimp only at hSw); go_simp; try with_reducible rfl)
      (try simp only [Act.put, List.setIfInBounds_toArray, List.set_cons_zero, List.set_cons_succ])
      refine wpAnyH_done (by kernel_rfl) ?_ _
      have HB := Lib.hid hS.2.2.2.2.below
      clear hS
      go_wp2
      go_ret
      exact ⟨rfl, HB.out⟩
    have hd4 : decide (n < 0) = false := decide_eq_false h4
    have hw1 : IntKind.i64.wrap ((k : Int) - n) = (k : Int) - n := IntWalk.i64_in _ (by omega)
    by_cases h5 : (k : Int) - n < x
    · rw [if_pos (.inr (.inr h5))] at hy
      subst hy
      go_enter Try.func53, Try.ntmps53
      go_wp2_with (first
        | (refine wpList_load_row rfl 84 _ rfl w.heap.size rfl _ (jobC ⟨b, 0, none⟩ s t x n (.slice a m c)) (0, 0) _ HJ.out.jb Try.underlying84 rfl (by kernel_rfl) ?_)
        | (go_at_call 56; (with_reducible refine (mayFind_any _ b bm l d s t x n a m c HJ.out.dk HG.out HS.out).mono ?_); rintro e w1 ⟨rfl, hb⟩; rw [HF.out]; have HJ1 := Lib.hid (HJ.out.next hb); clear hb))
      refine wp_region_held_drew (S := (fun w' => w'.cell? ⟨w.heap.size, 0, none⟩ = some (ptr ⟨b, 0, none⟩) ∧ w'.cell? ⟨w.heap.size, 1, none⟩ = some (.string s) ∧ w'.cell? ⟨w.heap.size, 3, none⟩ = some (.int .i64 x) ∧ w'.cell? ⟨w.heap.size, 4, none⟩ = some (.int .i64 n) ∧ Jd w b bm l d s t x n (.slice a m c) w')) (by kernel_rfl) (Jd.five HJ1.out.drew) (fun hS => ?_)
      refine wpAnyH_take (i := 0) (oi := ({ dst := some 9, op := Op.fieldAddr 84 (Operand.tmp 1) 3, type := 0, pos := "job.go:57", after := #[], guard := none } : Oper)) (v := ?_) rfl (by kernel_rfl) (by kernel_rfl) (by kernel_rfl) (fun _ _ _ h => h) (Or.inl ⟨by rfl, ?_⟩) hS ?_
      rotate_left
      · (intro w hSw; (try dsimp only at hSw); go_simp; try with_reducible rfl)
      (try simp only [Act.put, List.setIfInBounds_toArray, List.set_cons_zero, List.set_cons_succ])
      refine wpAnyH_take (i := 1) (oi := ({ dst := some 10, op := Op.load 3 (Operand.tmp 9), type := 3, pos := "job.go:57", after := #[{ on := 0, ground := Ground.data }], guard := none } : Oper)) (v := ?_) rfl (by kernel_rfl) (by kernel_rfl) (by kernel_rfl) (fun _ _ _ h => h) (Or.inl ⟨by rfl, ?_⟩) hS ?_
      rotate_left
      · (intro w hSw; (try dsimp only at hSw); go_simp; try with_reducible rfl)
      (try simp only [Act.put, List.setIfInBounds_toArray, List.set_cons_zero, List.set_cons_succ])
      refine wpAnyH_take (i := 2) (oi := ({ dst := some 11, op := Op.binOp BinOp.lss 3 (Operand.tmp 10) (Operand.const (Value.int IntKind.i64 0)) 3, type := 4, pos := "job.go:57", after := #[{ on := 1, ground := Ground.data }], guard := none } : Oper)) (v := .bool false) rfl (by kernel_rfl) (by kernel_rfl) (by kernel_rfl) (fun _ _ _ h => h) (Or.inl ⟨by rfl, ?_⟩) hS ?_
      · (intro w hSw; (try dsimp only at hSw); go_simp)
      (try simp only [Act.put, List.setIfInBounds_toArray, List.set_cons_zero, List.set_cons_succ])
      refine wpAnyH_take (i := 3) (oi := ({ dst := some 12, op := Op.move (Operand.tmp 11), type := 4, pos := "job.go:57", after := #[{ on := 2, ground := Ground.data }], guard := none } : Oper)) (v := ?_) rfl (by kernel_rfl) (by kernel_rfl) (by kernel_rfl) (fun _ _ _ h => h) (Or.inl ⟨by rfl, ?_⟩) hS ?_
      rotate_left
      · (intro w hSw; (try dsimp only at hSw); go_simp; try with_reducible rfl)
      (try simp only [Act.put, List.setIfInBounds_toArray, List.set_cons_zero, List.set_cons_succ])
      refine wpAnyH_take (i := 4) (oi := ({ dst := some 13, op := Op.fieldAddr 84 (Operand.tmp 1) 4, type := 0, pos := "job.go:57", after := #[{ on := 3, ground := Ground.guard }], guard := some (3, false) } : Oper)) (v := ?_) rfl (by kernel_rfl) (by kernel_rfl) (by kernel_rfl) (fun _ _ _ h => h) (Or.inl ⟨by rfl, ?_⟩) hS ?_
      rotate_left
      · (intro w hSw; (try dsimp only at hSw); go_simp; try with_reducible rfl)
      (try simp only [Act.put, List.setIfInBounds_toArray, List.set_cons_zero, List.set_cons_succ])
      refine wpAnyH_take (i := 5) (oi := ({ dst := some 14, op := Op.load 3 (Operand.tmp 13), type := 3, pos := "job.go:57", after := #[{ on := 4, ground := Ground.data }, { on := 3, ground := Ground.guard }], guard := some (3, false) } : Oper)) (v := ?_) rfl (by kernel_rfl) (by kernel_rfl) (by kernel_rfl) (fun _ _ _ h => h) (Or.inl ⟨by rfl, ?_⟩) hS ?_
      rotate_left
      · (intro w hSw; (try dsimp only at hSw); go_simp; try with_reducible rfl)
      (try simp only [Act.put, List.setIfInBounds_toArray, List.set_cons_zero, List.set_cons_succ])
      refine wpAnyH_take (i := 6) (oi := ({ dst := some 15, op := Op.binOp BinOp.lss 3 (Operand.tmp 14) (Operand.const (Value.int IntKind.i64 0)) 3, type := 4, pos := "job.go:57", after := #[{ on := 5, ground := Ground.data }, { on := 3, ground := Ground.guard }], guard := some (3, false) } : Oper)) (v := .bool false) rfl (by kernel_rfl) (by kernel_rfl) (by kernel_rfl) (fun _ _ _ h => h) (Or.inl ⟨by rfl, ?_⟩) hS ?_
      · (intro w hSw; (try dsimp only at hSw); go_simp)
      (try simp only [Act.put, List.setIfInBounds_toArray, List.set_cons_zero, List.set_cons_succ])
      refine wpAnyH_take (i := 7) (oi := ({ dst := some 16, op := Op.pick (Operand.tmp 12) (Operand.const (Value.bool true)) (Operand.tmp 15), type := 4, pos := "job.go:57", after := #[{ on := 3, ground := Ground.data }, { on := 6, ground := Ground.data }], guard := none } : Oper)) (v := ?_) rfl (by kernel_rfl) (by kernel_rfl) (by kernel_rfl) (fun _ _ _ h => h) (Or.inl ⟨by rfl, ?_⟩) hS ?_
      rotate_left
      · (intro w hSw; (try dsimp only at hSw); go_simp; try with_reducible rfl)
      (try simp only [Act.put, List.setIfInBounds_toArray, List.set_cons_zero, List.set_cons_succ])
      refine wpAnyH_take (i := 8) (oi := ({ dst := some 17, op := Op.move (Operand.tmp 16), type := 4, pos := "job.go:57", after := #[{ on := 7, ground := Ground.data }, { on := 3, ground := Ground.chain }], guard := none } : Oper)) (v := ?_) rfl (by kernel_rfl) (by kernel_rfl) (by kernel_rfl) (fun _ _ _ h => h) (Or.inl ⟨by rfl, ?_⟩) hS ?_
      rotate_left
      · (intro w hSw; (try dsimp only at hSw); go_simp; try with_reducible rfl)
      (try simp only [Act.put, List.setIfInBounds_toArray, List.set_cons_zero, List.set_cons_succ])
      refine wpAnyH_take (i := 9) (oi := ({ dst := some 18, op := Op.fieldAddr 84 (Operand.tmp 1) 3, type := 0, pos := "job.go:57", after := #[{ on := 8, ground := Ground.guard }], guard := some (8, false) } : Oper)) (v := ?_) rfl (by kernel_rfl) (by kernel_rfl) (by kernel_rfl) (fun _ _ _ h => h) (Or.inl ⟨by rfl, ?_⟩) hS ?_
      rotate_left
      · (intro w hSw; (try dsimp only at hSw); go_simp; try with_reducible rfl)
      (try simp only [Act.put, List.setIfInBounds_toArray, List.set_cons_zero, List.set_cons_succ])
      refine wpAnyH_take (i := 10) (oi := ({ dst := some 19, op := Op.load 3 (Operand.tmp 18), type := 3, pos := "job.go:57", after := #[{ on := 9, ground := Ground.data }, { on := 8, ground := Ground.guard }], guard := some (8, false) } : Oper)) (v := ?_) rfl (by kernel_rfl) (by kernel_rfl) (by kernel_rfl) (fun _ _ _ h => h) (Or.inl ⟨by rfl, ?_⟩) hS ?_
      rotate_left
      · (intro w hSw; (try dsimp only at hSw); go_simp; try with_reducible rfl)
      (try simp only [Act.put, List.setIfInBounds_toArray, List.set_cons_zero, List.set_cons_succ])
      refine wpAnyH_take (i := 11) (oi := ({ dst := some 20, op := Op.fieldAddr 84 (Operand.tmp 1) 0, type := 0, pos := "job.go:57", after := #[{ on := 8, ground := Ground.guard }], guard := some (8, false) } : Oper)) (v := ?_) rfl (by kernel_rfl) (by kernel_rfl) (by kernel_rfl) (fun _ _ _ h => h) (Or.inl ⟨by rfl, ?_⟩) hS ?_
      rotate_left
      · (intro w hSw; (try dsimp only at hSw); go_simp; try with_reducible rfl)
      (try simp only [Act.put, List.setIfInBounds_toArray, List.set_cons_zero, List.set_cons_succ])
      refine wpAnyH_take (i := 12) (oi := ({ dst := some 21, op := Op.load 25 (Operand.tmp 20), type := 25, pos := "job.go:57", after := #[{ on := 11, ground := Ground.data }, { on := 8, ground := Ground.guard }], guard := some (8, false) } : Oper)) (v := ?_) rfl (by kernel_rfl) (by kernel_rfl) (by kernel_rfl) (fun _ _ _ h => h) (Or.inl ⟨by rfl, ?_⟩) hS ?_
      rotate_left
      · (intro w hSw; (try dsimp only at hSw); go_simp; try with_reducible rfl)
      (try simp only [Act.put, List.setIfInBounds_toArray, List.set_cons_zero, List.set_cons_succ])
      refine wpAnyH_take (i := 13) (oi := ({ dst := some 22, op := Op.fieldAddr 84 (Operand.tmp 1) 1, type := 0, pos := "job.go:57", after := #[{ on := 8, ground := Ground.guard }], guard := some (8, false) } : Oper)) (v := ?_) rfl (by kernel_rfl) (by kernel_rfl) (by kernel_rfl) (fun _ _ _ h => h) (Or.inl ⟨by rfl, ?_⟩) hS ?_
      rotate_left
      · (intro w hSw; (try dsimp only at hSw); go_simp; try with_reducible rfl)
      (try simp only [Act.put, List.setIfInBounds_toArray, List.set_cons_zero, List.set_cons_succ])
      refine wpAnyH_take (i := 14) (oi := ({ dst := some 23, op := Op.load 9 (Operand.tmp 22), type := 9, pos := "job.go:57", after := #[{ on := 13, ground := Ground.data }, { on := 8, ground := Ground.guard }], guard := some (8, false) } : Oper)) (v := ?_) rfl (by kernel_rfl) (by kernel_rfl) (by kernel_rfl) (fun _ _ _ h => h) (Or.inl ⟨by rfl, ?_⟩) hS ?_
      rotate_left
      · (intro w hSw; (try dsimp only at hSw); go_simp; try with_reducible rfl)
      (try simp only [Act.put, List.setIfInBounds_toArray, List.set_cons_zero, List.set_cons_succ])
      refine wpAnyH_take (i := 16) (oi := ({ dst := some 25, op := Op.fieldAddr 84 (Operand.tmp 1) 4, type := 0, pos := "job.go:57", after := #[{ on := 8, ground := Ground.guard }], guard := some (8, false) } : Oper)) (v := ?_) rfl (by kernel_rfl) (by kernel_rfl) (by kernel_rfl) (fun _ _ _ h => h) (Or.inl ⟨by rfl, ?_⟩) hS ?_
      rotate_left
      · (intro w hSw; (try dsimp only at hSw); go_simp; try with_reducible rfl)
      (try simp only [Act.put, List.setIfInBounds_toArray, List.set_cons_zero, List.set_cons_succ])
      refine wpAnyH_take (i := 17) (oi := ({ dst := some 26, op := Op.load 3 (Operand.tmp 25), type := 3, pos := "job.go:57", after := #[{ on := 16, ground := Ground.data }, { on := 8, ground := Ground.guard }], guard := some (8, false) } : Oper)) (v := ?_) rfl (by kernel_rfl) (by kernel_rfl) (by kernel_rfl) (fun _ _ _ h => h) (Or.inl ⟨by rfl, ?_⟩) hS ?_
      rotate_left
      · (intro w hSw; (try dsimp only at hSw); go_simp; try with_reducible rfl)
      (try simp only [Act.put, List.setIfInBounds_toArray, List.set_cons_zero, List.set_cons_succ])
      refine rg_one 15 ({ dst := some 24, op := Op.call { callee := Callee.value (Operand.func 23), args := #[Operand.tmp 21, Operand.tmp 23], argTypes := #[25, 9] }, type := 3, pos := "job.go:57", after := #[{ on := 12, ground := Ground.data }, { on := 14, ground := Ground.data }, { on := 8, ground := Ground.chain }, { on := 8, ground := Ground.guard }], guard := some (8, false) } : Oper) (by kernel_rfl) rfl (fun K hK => ?_)
      go_simp
      (go_at_call 23; (with_reducible refine (psize_any _ b bm l d s hS.2.2.2.2.dk HS.out).mono ?_); rintro e w1 ⟨rfl, rfl⟩; rw [HZ.out])
      refine hK.out _ _ ?_ (fun hS1 => ?_)
      · (exact hS)
      clear hK K hS; have hS := hS1; clear hS1
      (try simp only [Act.put, List.setIfInBounds_toArray, List.set_cons_zero, List.set_cons_succ])
      refine wpAnyH_take (i := 18) (oi := ({ dst := some 27, op := Op.binOp BinOp.sub 3 (Operand.tmp 24) (Operand.tmp 26) 3, type := 3, pos := "job.go:57", after := #[{ on := 15, ground := Ground.data }, { on := 17, ground := Ground.data }, { on := 8, ground := Ground.guard }], guard := some (8, false) } : Oper)) (v := ?_) rfl (by kernel_rfl) (by kernel_rfl) (by kernel_rfl) (fun _ _ _ h => h) (Or.inl ⟨by rfl, ?_⟩) hS ?_
      rotate_left
      · (intro w hSw; (try dsimp only at hSw); go_simp; try with_reducible rfl)
      (try simp only [Act.put, List.setIfInBounds_toArray, List.set_cons_zero, List.set_cons_succ])
      refine wpAnyH_take (i := 19) (oi := ({ dst := some 28, op := Op.binOp BinOp.gtr 3 (Operand.tmp 19) (Operand.tmp 27) 3, type := 4, pos := "job.go:57", after := #[{ on := 10, ground := Ground.data }, { on := 18, ground := Ground.data }, { on := 8, ground := Ground.guard }], guard := some (8, false) } : Oper)) (v := ?_) rfl (by kernel_rfl) (by kernel_rfl) (by kernel_rfl) (fun _ _ _ h => h) (Or.inl ⟨by rfl, ?_⟩) hS ?_
      rotate_left
      · (intro w hSw; (try dsimp only at hSw); go_simp; try with_reducible rfl)
      (try simp only [Act.put, List.setIfInBounds_toArray, List.set_cons_zero, List.set_cons_succ])
      refine wpAnyH_take (i := 20) (oi := ({ dst := some 29, op := Op.pick (Operand.tmp 17) (Operand.const (Value.bool true)) (Operand.tmp 28), type := 4, pos := "job.go:57", after := #[{ on := 8, ground := Ground.data }, { on := 19, ground := Ground.data }], guard := none } : Oper)) (v := ?_) rfl (by kernel_rfl) (by kernel_rfl) (by kernel_rfl) (fun _ _ _ h => h) (Or.inl ⟨by rfl, ?_⟩) hS ?_
      rotate_left
      · (intro w hSw; (try dsimp only at hSw); go_simp; try with_reducible rfl)
      (try simp only [Act.put, List.setIfInBounds_toArray, List.set_cons_zero, List.set_cons_succ])
      refine wpAnyH_done (by kernel_rfl) ?_ _
      have HB := Lib.hid hS.2.2.2.2.below
      clear hS
      go_wp2
      go_ret
      exact ⟨rfl, HB.out⟩
    · rw [if_neg (by omega)] at hy
      subst hy
      go_enter Try.func53, Try.ntmps53
      go_wp2_with (first
        | (refine wpList_load_row rfl 84 _ rfl w.heap.size rfl _ (jobC ⟨b, 0, none⟩ s t x n (.slice a m c)) (0, 0) _ HJ.out.jb Try.underlying84 rfl (by kernel_rfl) ?_)
        | (go_at_call 56; (with_reducible refine (mayFind_any _ b bm l d s t x n a m c HJ.out.dk HG.out HS.out).mono ?_); rintro e w1 ⟨rfl, hb⟩; rw [HF.out]; have HJ1 := Lib.hid (HJ.out.next hb); clear hb))
      refine wp_region_held_drew (S := (fun w' => w'.cell? ⟨w.heap.size, 0, none⟩ = some (ptr ⟨b, 0, none⟩) ∧ w'.cell? ⟨w.heap.size, 1, none⟩ = some (.string s) ∧ w'.cell? ⟨w.heap.size, 3, none⟩ = some (.int .i64 x) ∧ w'.cell? ⟨w.heap.size, 4, none⟩ = some (.int .i64 n) ∧ Jd w b bm l d s t x n (.slice a m c) w')) (by kernel_rfl) (Jd.five HJ1.out.drew) (fun hS => ?_)
      refine wpAnyH_take (i := 0) (oi := ({ dst := some 9, op := Op.fieldAddr 84 (Operand.tmp 1) 3, type := 0, pos := "job.go:57", after := #[], guard := none } : Oper)) (v := ?_) rfl (by kernel_rfl) (by kernel_rfl) (by kernel_rfl) (fun _ _ _ h => h) (Or.inl ⟨by rfl, ?_⟩) hS ?_
      rotate_left
      · (intro w hSw; (try dsimp only at hSw); go_simp; try with_reducible rfl)
      (try simp only [Act.put, List.setIfInBounds_toArray, List.set_cons_zero, List.set_cons_succ])
      refine wpAnyH_take (i := 1) (oi := ({ dst := some 10, op := Op.load 3 (Operand.tmp 9), type := 3, pos := "job.go:57", after := #[{ on := 0, ground := Ground.data }], guard := none } : Oper)) (v := ?_) rfl (by kernel_rfl) (by kernel_rfl) (by kernel_rfl) (fun _ _ _ h => h) (Or.inl ⟨by rfl, ?_⟩) hS ?_
      rotate_left
      · (intro w hSw; (try dsimp only at hSw); go_simp; try with_reducible rfl)
      (try simp only [Act.put, List.setIfInBounds_toArray, List.set_cons_zero, List.set_cons_succ])
      refine wpAnyH_take (i := 2) (oi := ({ dst := some 11, op := Op.binOp BinOp.lss 3 (Operand.tmp 10) (Operand.const (Value.int IntKind.i64 0)) 3, type := 4, pos := "job.go:57", after := #[{ on := 1, ground := Ground.data }], guard := none } : Oper)) (v := .bool false) rfl (by kernel_rfl) (by kernel_rfl) (by kernel_rfl) (fun _ _ _ h => h) (Or.inl ⟨by rfl, ?_⟩) hS ?_
      · (intro w hSw; (try dsimp only at hSw); go_simp)
      (try simp only [Act.put, List.setIfInBounds_toArray, List.set_cons_zero, List.set_cons_succ])
      refine wpAnyH_take (i := 3) (oi := ({ dst := some 12, op := Op.move (Operand.tmp 11), type := 4, pos := "job.go:57", after := #[{ on := 2, ground := Ground.data }], guard := none } : Oper)) (v := ?_) rfl (by kernel_rfl) (by kernel_rfl) (by kernel_rfl) (fun _ _ _ h => h) (Or.inl ⟨by rfl, ?_⟩) hS ?_
      rotate_left
      · (intro w hSw; (try dsimp only at hSw); go_simp; try with_reducible rfl)
      (try simp only [Act.put, List.setIfInBounds_toArray, List.set_cons_zero, List.set_cons_succ])
      refine wpAnyH_take (i := 4) (oi := ({ dst := some 13, op := Op.fieldAddr 84 (Operand.tmp 1) 4, type := 0, pos := "job.go:57", after := #[{ on := 3, ground := Ground.guard }], guard := some (3, false) } : Oper)) (v := ?_) rfl (by kernel_rfl) (by kernel_rfl) (by kernel_rfl) (fun _ _ _ h => h) (Or.inl ⟨by rfl, ?_⟩) hS ?_
      rotate_left
      · (intro w hSw; (try dsimp only at hSw); go_simp; try with_reducible rfl)
      (try simp only [Act.put, List.setIfInBounds_toArray, List.set_cons_zero, List.set_cons_succ])
      refine wpAnyH_take (i := 5) (oi := ({ dst := some 14, op := Op.load 3 (Operand.tmp 13), type := 3, pos := "job.go:57", after := #[{ on := 4, ground := Ground.data }, { on := 3, ground := Ground.guard }], guard := some (3, false) } : Oper)) (v := ?_) rfl (by kernel_rfl) (by kernel_rfl) (by kernel_rfl) (fun _ _ _ h => h) (Or.inl ⟨by rfl, ?_⟩) hS ?_
      rotate_left
      · (intro w hSw; (try dsimp only at hSw); go_simp; try with_reducible rfl)
      (try simp only [Act.put, List.setIfInBounds_toArray, List.set_cons_zero, List.set_cons_succ])
      refine wpAnyH_take (i := 6) (oi := ({ dst := some 15, op := Op.binOp BinOp.lss 3 (Operand.tmp 14) (Operand.const (Value.int IntKind.i64 0)) 3, type := 4, pos := "job.go:57", after := #[{ on := 5, ground := Ground.data }, { on := 3, ground := Ground.guard }], guard := some (3, false) } : Oper)) (v := .bool false) rfl (by kernel_rfl) (by kernel_rfl) (by kernel_rfl) (fun _ _ _ h => h) (Or.inl ⟨by rfl, ?_⟩) hS ?_
      · (intro w hSw; (try dsimp only at hSw); go_simp)
      (try simp only [Act.put, List.setIfInBounds_toArray, List.set_cons_zero, List.set_cons_succ])
      refine wpAnyH_take (i := 7) (oi := ({ dst := some 16, op := Op.pick (Operand.tmp 12) (Operand.const (Value.bool true)) (Operand.tmp 15), type := 4, pos := "job.go:57", after := #[{ on := 3, ground := Ground.data }, { on := 6, ground := Ground.data }], guard := none } : Oper)) (v := ?_) rfl (by kernel_rfl) (by kernel_rfl) (by kernel_rfl) (fun _ _ _ h => h) (Or.inl ⟨by rfl, ?_⟩) hS ?_
      rotate_left
      · (intro w hSw; (try dsimp only at hSw); go_simp; try with_reducible rfl)
      (try simp only [Act.put, List.setIfInBounds_toArray, List.set_cons_zero, List.set_cons_succ])
      refine wpAnyH_take (i := 8) (oi := ({ dst := some 17, op := Op.move (Operand.tmp 16), type := 4, pos := "job.go:57", after := #[{ on := 7, ground := Ground.data }, { on := 3, ground := Ground.chain }], guard := none } : Oper)) (v := ?_) rfl (by kernel_rfl) (by kernel_rfl) (by kernel_rfl) (fun _ _ _ h => h) (Or.inl ⟨by rfl, ?_⟩) hS ?_
      rotate_left
      · (intro w hSw; (try dsimp only at hSw); go_simp; try with_reducible rfl)
      (try simp only [Act.put, List.setIfInBounds_toArray, List.set_cons_zero, List.set_cons_succ])
      refine wpAnyH_take (i := 9) (oi := ({ dst := some 18, op := Op.fieldAddr 84 (Operand.tmp 1) 3, type := 0, pos := "job.go:57", after := #[{ on := 8, ground := Ground.guard }], guard := some (8, false) } : Oper)) (v := ?_) rfl (by kernel_rfl) (by kernel_rfl) (by kernel_rfl) (fun _ _ _ h => h) (Or.inl ⟨by rfl, ?_⟩) hS ?_
      rotate_left
      · (intro w hSw; (try dsimp only at hSw); go_simp; try with_reducible rfl)
      (try simp only [Act.put, List.setIfInBounds_toArray, List.set_cons_zero, List.set_cons_succ])
      refine wpAnyH_take (i := 10) (oi := ({ dst := some 19, op := Op.load 3 (Operand.tmp 18), type := 3, pos := "job.go:57", after := #[{ on := 9, ground := Ground.data }, { on := 8, ground := Ground.guard }], guard := some (8, false) } : Oper)) (v := ?_) rfl (by kernel_rfl) (by kernel_rfl) (by kernel_rfl) (fun _ _ _ h => h) (Or.inl ⟨by rfl, ?_⟩) hS ?_
      rotate_left
      · (intro w hSw; (try dsimp only at hSw); go_simp; try with_reducible rfl)
      (try simp only [Act.put, List.setIfInBounds_toArray, List.set_cons_zero, List.set_cons_succ])
      refine wpAnyH_take (i := 11) (oi := ({ dst := some 20, op := Op.fieldAddr 84 (Operand.tmp 1) 0, type := 0, pos := "job.go:57", after := #[{ on := 8, ground := Ground.guard }], guard := some (8, false) } : Oper)) (v := ?_) rfl (by kernel_rfl) (by kernel_rfl) (by kernel_rfl) (fun _ _ _ h => h) (Or.inl ⟨by rfl, ?_⟩) hS ?_
      rotate_left
      · (intro w hSw; (try dsimp only at hSw); go_simp; try with_reducible rfl)
      (try simp only [Act.put, List.setIfInBounds_toArray, List.set_cons_zero, List.set_cons_succ])
      refine wpAnyH_take (i := 12) (oi := ({ dst := some 21, op := Op.load 25 (Operand.tmp 20), type := 25, pos := "job.go:57", after := #[{ on := 11, ground := Ground.data }, { on := 8, ground := Ground.guard }], guard := some (8, false) } : Oper)) (v := ?_) rfl (by kernel_rfl) (by kernel_rfl) (by kernel_rfl) (fun _ _ _ h => h) (Or.inl ⟨by rfl, ?_⟩) hS ?_
      rotate_left
      · (intro w hSw; (try dsimp only at hSw); go_simp; try with_reducible rfl)
      (try simp only [Act.put, List.setIfInBounds_toArray, List.set_cons_zero, List.set_cons_succ])
      refine wpAnyH_take (i := 13) (oi := ({ dst := some 22, op := Op.fieldAddr 84 (Operand.tmp 1) 1, type := 0, pos := "job.go:57", after := #[{ on := 8, ground := Ground.guard }], guard := some (8, false) } : Oper)) (v := ?_) rfl (by kernel_rfl) (by kernel_rfl) (by kernel_rfl) (fun _ _ _ h => h) (Or.inl ⟨by rfl, ?_⟩) hS ?_
      rotate_left
      · (intro w hSw; (try dsimp only at hSw); go_simp; try with_reducible rfl)
      (try simp only [Act.put, List.setIfInBounds_toArray, List.set_cons_zero, List.set_cons_succ])
      refine wpAnyH_take (i := 14) (oi := ({ dst := some 23, op := Op.load 9 (Operand.tmp 22), type := 9, pos := "job.go:57", after := #[{ on := 13, ground := Ground.data }, { on := 8, ground := Ground.guard }], guard := some (8, false) } : Oper)) (v := ?_) rfl (by kernel_rfl) (by kernel_rfl) (by kernel_rfl) (fun _ _ _ h => h) (Or.inl ⟨by rfl, ?_⟩) hS ?_
      rotate_left
      · (intro w hSw; (try dsimp only at hSw); go_simp; try with_reducible rfl)
      (try simp only [Act.put, List.setIfInBounds_toArray, List.set_cons_zero, List.set_cons_succ])
      refine wpAnyH_take (i := 16) (oi := ({ dst := some 25, op := Op.fieldAddr 84 (Operand.tmp 1) 4, type := 0, pos := "job.go:57", after := #[{ on := 8, ground := Ground.guard }], guard := some (8, false) } : Oper)) (v := ?_) rfl (by kernel_rfl) (by kernel_rfl) (by kernel_rfl) (fun _ _ _ h => h) (Or.inl ⟨by rfl, ?_⟩) hS ?_
      rotate_left
      · (intro w hSw; (try dsimp only at hSw); go_simp; try with_reducible rfl)
      (try simp only [Act.put, List.setIfInBounds_toArray, List.set_cons_zero, List.set_cons_succ])
      refine wpAnyH_take (i := 17) (oi := ({ dst := some 26, op := Op.load 3 (Operand.tmp 25), type := 3, pos := "job.go:57", after := #[{ on := 16, ground := Ground.data }, { on := 8, ground := Ground.guard }], guard := some (8, false) } : Oper)) (v := ?_) rfl (by kernel_rfl) (by kernel_rfl) (by kernel_rfl) (fun _ _ _ h => h) (Or.inl ⟨by rfl, ?_⟩) hS ?_
      rotate_left
      · (intro w hSw; (try dsimp only at hSw); go_simp; try with_reducible rfl)
      (try simp only [Act.put, List.setIfInBounds_toArray, List.set_cons_zero, List.set_cons_succ])
      refine rg_one 15 ({ dst := some 24, op := Op.call { callee := Callee.value (Operand.func 23), args := #[Operand.tmp 21, Operand.tmp 23], argTypes := #[25, 9] }, type := 3, pos := "job.go:57", after := #[{ on := 12, ground := Ground.data }, { on := 14, ground := Ground.data }, { on := 8, ground := Ground.chain }, { on := 8, ground := Ground.guard }], guard := some (8, false) } : Oper) (by kernel_rfl) rfl (fun K hK => ?_)
      go_simp
      (go_at_call 23; (with_reducible refine (psize_any _ b bm l d s hS.2.2.2.2.dk HS.out).mono ?_); rintro e w1 ⟨rfl, rfl⟩; rw [HZ.out])
      refine hK.out _ _ ?_ (fun hS1 => ?_)
      · (exact hS)
      clear hK K hS; have hS := hS1; clear hS1
      (try simp only [Act.put, List.setIfInBounds_toArray, List.set_cons_zero, List.set_cons_succ])
      refine wpAnyH_take (i := 18) (oi := ({ dst := some 27, op := Op.binOp BinOp.sub 3 (Operand.tmp 24) (Operand.tmp 26) 3, type := 3, pos := "job.go:57", after := #[{ on := 15, ground := Ground.data }, { on := 17, ground := Ground.data }, { on := 8, ground := Ground.guard }], guard := some (8, false) } : Oper)) (v := ?_) rfl (by kernel_rfl) (by kernel_rfl) (by kernel_rfl) (fun _ _ _ h => h) (Or.inl ⟨by rfl, ?_⟩) hS ?_
      rotate_left
      · (intro w hSw; (try dsimp only at hSw); go_simp; try with_reducible rfl)
      (try simp only [Act.put, List.setIfInBounds_toArray, List.set_cons_zero, List.set_cons_succ])
      refine wpAnyH_take (i := 19) (oi := ({ dst := some 28, op := Op.binOp BinOp.gtr 3 (Operand.tmp 19) (Operand.tmp 27) 3, type := 4, pos := "job.go:57", after := #[{ on := 10, ground := Ground.data }, { on := 18, ground := Ground.data }, { on := 8, ground := Ground.guard }], guard := some (8, false) } : Oper)) (v := ?_) rfl (by kernel_rfl) (by kernel_rfl) (by kernel_rfl) (fun _ _ _ h => h) (Or.inl ⟨by rfl, ?_⟩) hS ?_
      rotate_left
      · (intro w hSw; (try dsimp only at hSw); go_simp; try with_reducible rfl)
      (try simp only [Act.put, List.setIfInBounds_toArray, List.set_cons_zero, List.set_cons_succ])
      refine wpAnyH_take (i := 20) (oi := ({ dst := some 29, op := Op.pick (Operand.tmp 17) (Operand.const (Value.bool true)) (Operand.tmp 28), type := 4, pos := "job.go:57", after := #[{ on := 8, ground := Ground.data }, { on := 19, ground := Ground.data }], guard := none } : Oper)) (v := ?_) rfl (by kernel_rfl) (by kernel_rfl) (by kernel_rfl) (fun _ _ _ h => h) (Or.inl ⟨by rfl, ?_⟩) hS ?_
      rotate_left
      · (intro w hSw; (try dsimp only at hSw); go_simp; try with_reducible rfl)
      (try simp only [Act.put, List.setIfInBounds_toArray, List.set_cons_zero, List.set_cons_succ])
      refine wpAnyH_done (by kernel_rfl) ?_ _
      have HB := Lib.hid hS.2.2.2.2.below
      clear hS
      go_wp2
      go_ret
      exact ⟨rfl, HB.out⟩
  · rw [if_pos hh] at hy
    subst hy
    have HF := Lib.hid (show (if d.has s then (0 : Int) else 7) = 7 by rw [if_neg hh])
    clear h hs hg hx hn hh
    go_enter Try.func53, Try.ntmps53
    go_wp2_with (first
      | (refine wpList_load_row rfl 84 _ rfl w.heap.size rfl _ (jobC ⟨b, 0, none⟩ s t x n (.slice a m c)) (0, 0) _ HJ.out.jb Try.underlying84 rfl (by kernel_rfl) ?_)
      | (go_at_call 56; (with_reducible refine (mayFind_any _ b bm l d s t x n a m c HJ.out.dk HG.out HS.out).mono ?_); rintro e w1 ⟨rfl, hb⟩; rw [HF.out]; have HJ1 := Lib.hid (HJ.out.next hb); clear hb))
    go_ret
    exact ⟨rfl, HJ1.out.below⟩
end Go.Proofs.Ytpnialanmidekaa
