/-
  WHAT ALL LAYERS' TEXTS STAND ON: slices of integers that lie somewhere (RI), rows that a call made (ownsRow .. (il ..)), steps of the walk for make, copy, append and cuts over them, and a little arithmetic. Nothing here speaks of the program's functions. No condition.
-/
import Derived.Test.YthickhfbllddjaaDoorRows
import Derived.WalkKit
import Derived.ProofKit
import Derived.OpenShut
import Derived.BigQuiet
import Derived.Deep.QuietTactic
import Derived.Lib.Hide
import Derived.Laws.BytesArg
import Derived.Laws.AppendOwnNone
import Derived.Deep.DeepAppendWide
import Derived.Laws.CopyOwn
import Derived.OwnWalk
import Derived.Below
namespace Go.Proofs.YthickhfbllddjaaDoor
open Go.RowKit

/-! arithmetic -/
def I63 (n : Int) : Prop := -9223372036854775808 ≤ n ∧ n ≤ 9223372036854775807
def U64 (n : Int) : Prop := 0 ≤ n ∧ n ≤ 18446744073709551615
theorem pow_split (a b : Nat) (h : a ≤ b) : (2 : Int) ^ b = 2 ^ a * 2 ^ (b - a) := by rw [← Int.pow_add]; congr 1; omega
theorem pow_pos' (a : Nat) : (0 : Int) < 2 ^ a := Int.pow_pos (by decide)
theorem pow_le' (a b : Nat) (h : a ≤ b) : (2 : Int) ^ a ≤ 2 ^ b := by
  rw [pow_split a b h]
  have h2 := pow_pos' (b - a)
  have h3 : (2 : Int) ^ a * 1 ≤ 2 ^ a * 2 ^ (b - a) := Int.mul_le_mul_of_nonneg_left (by omega) (Int.le_of_lt (pow_pos' _))
  omega
/-- numbers of a byte each -/
def Bytes (l : List Int) : Prop := ∀ j, 0 ≤ l.getD j 0 ∧ l.getD j 0 ≤ 255
theorem bytes_of_mem {l : List Int} (h : ∀ x ∈ l, 0 ≤ x ∧ x ≤ 255) : Bytes l := by
  intro j
  by_cases hj : j < l.length
  · have := h l[j] (List.getElem_mem hj); simpa [List.getD, hj] using this
  · simp [List.getD, Nat.not_lt.1 hj]
theorem Bytes.mem {l : List Int} (h : Bytes l) : ∀ x ∈ l, 0 ≤ x ∧ x ≤ 255 := by
  intro x hx
  obtain ⟨j, hj, rfl⟩ := List.getElem_of_mem hx
  have := h j
  simpa [List.getD, hj] using this
theorem getD_mem {l : List Int} {k : Nat} (h : k < l.length) : l.getD k 0 ∈ l := by
  simp [List.getD, h]
theorem u64_of {a : Int} (h : (Lit.int .u64 a).wf = true) : U64 a := by simp [Lit.wf, IntKind.min, IntKind.max, IntKind.signed, IntKind.bits] at h; unfold U64; omega
theorem i63_of {a : Int} (h : (Lit.int .i64 a).wf = true) : I63 a := by simp [Lit.wf, IntKind.min, IntKind.max, IntKind.signed, IntKind.bits] at h; unfold I63; omega
theorem u32_of {a : Int} (h : (Lit.int .u32 a).wf = true) : 0 ≤ a ∧ a < 4294967296 := by simp [Lit.wf, IntKind.min, IntKind.max, IntKind.signed, IntKind.bits] at h; omega
theorem ret_int {k : IntKind} {a b : Int} (h : a = b) : Ending.returned (.int k a) = .returned (.int k b) := by rw [h]
theorem ret_bool {a b : Bool} (h : a = b) : Ending.returned (.bool a) = .returned (.bool b) := by rw [h]

/-! integers as cells -/
def il (k : IntKind) (l : List Int) : List Value := l.map (Value.int k)
theorem il_length (k : IntKind) (l : List Int) : (il k l).length = l.length := by simp [il]
theorem il_append (k : IntKind) (a b : List Int) : il k (a ++ b) = il k a ++ il k b := by simp [il]
theorem il_get (k : IntKind) (l : List Int) (j : Nat) (h : j < l.length) : (il k l)[j]? = some (.int k (l.getD j 0)) := by simp [il, List.getD, h]
theorem il_set (k : IntKind) (l : List Int) (j : Nat) (x : Int) : (il k l).set j (.int k x) = il k (l.set j x) := by simp [il, List.map_set]
theorem il_one (k : IntKind) (l : List Int) : ∀ u ∈ il k l, u.oneCell' = true := by
  intro u hu; obtain ⟨x, _, rfl⟩ := List.mem_map.1 hu; rfl

/-! slices of integers that lie somewhere -/
/-- in the world w the slice v has len elements, the numbers zs -/
def RI (k : IntKind) (w : World) (v : Value) (len : Nat) (zs : List Int) : Prop :=
  ∃ a cap, v = .slice a len cap ∧ zs.length = len ∧ len ≤ cap ∧ cap ≤ 9223372036854775807 ∧ (a = none → cap = 0) ∧
    (0 < len → ∃ b off, a = some ⟨b, off, none⟩ ∧ ∀ j, j < len → w.cell? ⟨b, off + j, none⟩ = some (.int k (zs.getD j 0)))
theorem RI.length {k : IntKind} {w : World} {v : Value} {len : Nat} {zs : List Int} (h : RI k w v len zs) : zs.length = len := h.choose_spec.choose_spec.2.1
theorem RI.le {k : IntKind} {w : World} {v : Value} {len : Nat} {zs : List Int} (h : RI k w v len zs) : len ≤ 9223372036854775807 := by
  obtain ⟨_, _, _, _, h1, h2, _⟩ := h; omega
theorem cell_keep {w w' : World} (hb : Below w.heap.size w w') {a : Addr} {v : Value} (h : w.cell? a = some v) : w'.cell? a = some v :=
  (hb.cell (World.block_lt_of_cell? w _ h)).trans h
theorem RI.keep {k : IntKind} {w w' : World} (hb : Below w.heap.size w w') {v : Value} {len : Nat} {zs : List Int} (h : RI k w v len zs) : RI k w' v len zs := by
  obtain ⟨a, cap, rfl, h1, h2, h3, h4, hc⟩ := h
  refine ⟨a, cap, rfl, h1, h2, h3, h4, fun h0 => ?_⟩
  obtain ⟨b, off, rfl, hcell⟩ := hc h0
  exact ⟨b, off, rfl, fun j hj => cell_keep hb (hcell j hj)⟩
theorem RI.nil (k : IntKind) (w : World) : RI k w (.slice none 0 0) 0 [] := ⟨none, 0, rfl, rfl, Nat.le_refl _, by omega, fun _ => rfl, fun h => absurd h (by omega)⟩
/-- a row that a call made -/
theorem RI.own {k : IntKind} {w : World} {base : Nat} {e : TypeId} {v : Value} {n : Nat} {zs : List Int} (h : w.ownsRow base e 1 v n (il k zs)) : RI k w v n zs := by
  have hl : zs.length = n := by have := h.1; rw [il_length] at this; omega
  rcases h.2 with ⟨rfl, rfl⟩ | ⟨g, cap, cur, rfl, _, _, hnc, hcm, _⟩
  · exact ⟨none, 0, rfl, hl, Nat.le_refl _, by omega, fun _ => rfl, fun h => absurd h (by omega)⟩
  · refine ⟨_, cap, rfl, hl, hnc, by unfold maxLen at hcm; omega, fun h => by simp at h, fun _ => ⟨g, 0, rfl, fun j hj => ?_⟩⟩
    rw [Nat.zero_add, h.cellAt j (by omega), il_get k zs j (by omega)]
/-- what the frame tells of a slice of integers that came in -/
def IRow (k : IntKind) (w : World) (a : Option Addr) (len cap : Nat) (zs : List Int) : Prop :=
  (a = none ∧ len = 0 ∧ cap = 0 ∧ zs = []) ∨
  ∃ x, a = some x ∧ len ≤ cap ∧ cap ≤ maxLen ∧ zs.length = cap ∧ (∀ i, i < zs.length → w.cell? (x.add i) = some (.int k (zs.getD i 0))) ∧ ∀ n ∈ zs, (Lit.int k n).wf = true
theorem IRow.ri {k : IntKind} {w : World} {a : Option Addr} {len cap : Nat} {zs : List Int} (h : IRow k w a len cap zs) : RI k w (.slice a len cap) len (zs.take len) := by
  rcases h with ⟨rfl, rfl, rfl, rfl⟩ | ⟨x, rfl, h1, h2, h3, h4, _⟩
  · exact RI.nil k w
  · refine ⟨some x, cap, rfl, by simp; omega, h1, by unfold maxLen at h2; omega, fun h => by simp at h, fun h0 => ?_⟩
    obtain ⟨b, off, rfl, hc⟩ := ints_at h4 (by omega)
    refine ⟨b, off, rfl, fun j hj => ?_⟩
    rw [hc j (by omega)]
    simp [List.getD, hj]
theorem IRow.le {k : IntKind} {w : World} {a : Option Addr} {len cap : Nat} {zs : List Int} (h : IRow k w a len cap zs) : len ≤ cap := by
  rcases h with ⟨_, rfl, rfl, _⟩ | ⟨_, _, h1, _⟩
  · omega
  · exact h1
theorem IRow.wf {k : IntKind} {w : World} {a : Option Addr} {len cap : Nat} {zs : List Int} (h : IRow k w a len cap zs) : ∀ n ∈ zs.take len, (Lit.int k n).wf = true := by
  rcases h with ⟨_, _, _, rfl⟩ | ⟨_, _, _, _, _, _, h5⟩
  · simp
  · exact fun n hn => h5 n (List.mem_of_mem_take hn)
theorem IRow.bytes {w : World} {a : Option Addr} {len cap : Nat} {zs : List Int} (h : IRow .u8 w a len cap zs) : Bytes (zs.take len) :=
  bytes_of_mem fun x hx => by have := h.wf x hx; simp [Lit.wf, IntKind.min, IntKind.max, IntKind.signed, IntKind.bits] at this; omega
/-- cut: from m on -/
theorem RI.from {k : IntKind} {w : World} {a : Option Addr} {len cap : Nat} {zs : List Int} (h : RI k w (.slice a len cap) len zs) (m : Nat) (hm : m ≤ len) : RI k w (sliced a m len cap 1) (len - m) (zs.drop m) := by
  obtain ⟨a', cap', e, h1, h2, h3, h4, hc⟩ := h
  simp only [Value.slice.injEq, true_and] at e
  obtain ⟨rfl, rfl⟩ := e
  have hl : (zs.drop m).length = len - m := by simp; omega
  unfold sliced
  by_cases h0 : cap = m
  · rw [if_pos h0]
    exact ⟨a, cap - m, rfl, hl, by omega, by omega, fun _ => by omega, fun h => absurd h (by omega)⟩
  · rw [if_neg h0]
    cases a with
    | none => have := h4 rfl; omega
    | some x =>
      refine ⟨some (x.add (m * 1)), cap - m, rfl, hl, by omega, by omega, fun h => by simp at h, fun hp => ?_⟩
      obtain ⟨b, off, hx, hcell⟩ := hc (by omega)
      obtain rfl := Option.some.inj hx
      refine ⟨b, off + m, by simp [Addr.add], fun j hj => ?_⟩
      have := hcell (m + j) (by omega)
      rw [Nat.add_assoc, this]
      simp [List.getD, List.getElem?_drop]
/-- cut: the first m -/
theorem RI.upto {k : IntKind} {w : World} {a : Option Addr} {len cap : Nat} {zs : List Int} (h : RI k w (.slice a len cap) len zs) (m : Nat) (hm : m ≤ len) : RI k w (sliced a 0 m cap 1) m (zs.take m) := by
  obtain ⟨a', cap', e, h1, h2, h3, h4, hc⟩ := h
  simp only [Value.slice.injEq, true_and] at e
  obtain ⟨rfl, rfl⟩ := e
  have hl : (zs.take m).length = m := by simp; omega
  unfold sliced
  have e : (if cap = 0 then a else a.map (·.add (0 * 1))) = a := by
    cases a <;> simp [Addr.add]
  rw [e]
  refine ⟨a, cap, rfl, hl, by omega, by omega, h4, fun hp => ?_⟩
  obtain ⟨b, off, hx, hcell⟩ := hc (by omega)
  refine ⟨b, off, hx, fun j hj => ?_⟩
  rw [hcell j (by omega)]
  simp [List.getD, hj]
/-! steps of the walk -/
section
variable {P : Program} {w : World} {ops : Array Oper} {rest : List Oper} {o : Oper} {a : Act} {Q : Exit → Act → World → Prop}
/-- make: L zeros, room for C -/
theorem wpl_make (hg : o.guard = none) (l c : Operand) (t : TypeId) (hop : o.op = Op.makeSlice t l c) (e : TypeId) (k : IntKind) (bytes : Nat)
    (ht : P.underlying t = some (.slice e)) (hinfo : (P.info? e).map (fun i => (i.zero, i.size, i.bytes)) = some (some (.int k 0), 1, bytes))
    (kl kc : IntKind) (L C : Int) (m n : Nat) (hl : a.eval l = .int kl L) (hc : a.eval c = .int kc C) (hL : L = (m : Int)) (hC : C = (n : Int)) (hLC : m ≤ n) (hbytes : bytes * n ≤ 281474976710656) (h63 : n ≤ 9223372036854775807)
    (B : Nat) (W : World) (hb : Below B W w) (hB : B ≤ w.heap.size)
    (h : ∀ w', Hid (w'.heap[w.heap.size]? = some (.cells (List.replicate n (Value.int k 0)).toArray e (0, 0))) → Hid (Below B W w') → wpList P ops Q rest (a.put o.dst (.slice (some ⟨w.heap.size, 0, none⟩) m n)) w') :
    wpList P ops Q (o :: rest) a w := by
  refine wpList_plain hg fun K hK' => ?_
  obtain ⟨i, hi, hzz⟩ := Option.map_eq_some_iff.1 hinfo
  simp only [Prod.mk.injEq] at hzz
  obtain ⟨hz, hs, hb'⟩ := hzz
  subst hL; subst hC
  have hbb : (i.bytes : Int) * (n : Int) ≤ 281474976710656 := by
    have h : ((i.bytes * n : Nat) : Int) ≤ 281474976710656 := by rw [hb']; omega
    rwa [Int.natCast_mul] at h
  have hrun := run_make (P := P) w t e i _ ht hi hz kl kc m n (by omega) (by omega) hbb (by omega)
  simp only [Int.toNat_natCast, hs, Nat.mul_one] at hrun
  have hm : madeCells (Value.int k 0).cells n = (List.replicate n (Value.int k 0)).toArray := by
    rw [show (Value.int k 0).cells = #[.int k 0] from rfl, ← toList_madeCells_one]
  rw [hm] at hrun
  unfold Oper.wp
  simp [execOp, hop, hl, hc, hrun, Result.andThen]
  exact hK' _ _ (h _ (heap_alloc_new w _) (hb.alloc hB _))
/-- append of one number to a row that the call made; the number lies in the cell ad -/
theorem wpl_app1 (hgd : o.guard = none) (s x : Operand) (t : TypeId) (ho : o.op = .call { callee := .builtin .append, args := #[s, x], argTypes := #[t, t] })
    (e : TypeId) (k : IntKind) (bytes : Nat) (ht : P.underlying t = some (.slice e)) (hinfo : (P.info? e).map (fun i => (i.zero, i.size, i.bytes)) = some (some (.int k 0), 1, bytes))
    (base : Nat) (v : Value) (n : Nat) (xs : List Int) (hs : a.eval s = v) (hown : Hid (w.ownsRow base e 1 v n (il k xs)))
    (ad : Addr) (y : Int) (hx : a.eval x = .slice (some ad) 1 1) (hcell : w.cell? ad = some (.int k y)) (hbytes : ((n + 1) + (n + 1) / 4 + 192) * bytes ≤ 281474976710656) (h63 : n + 1 ≤ 9223372036854775807)
    (B : Nat) (W : World) (hb : Hid (Below B W w)) (hB : B ≤ base) (hbase : base ≤ w.heap.size)
    (h : ∀ v' w', Hid (w'.ownsRow base e 1 v' (n + 1) (il k (xs ++ [y]))) → Hid (Below B W w') → wpList P ops Q rest (a.put o.dst v') w') : wpList P ops Q (o :: rest) a w := by
  obtain ⟨i, hi, hz0, hz1, hz2⟩ := info_parts hinfo
  refine wpList_append_own_wide w hgd s x t ho base e i (.int k 0) 1 bytes ht hi hz0 hz1 hz2 rfl (by omega) v n (il k xs) hs hown.out ad 1 1 (il k [y]) hx rfl ?_ (il_one k _) (by unfold maxLen; omega) hbytes hbase ?_
  · intro j u hj
    match j, hj with
    | 0, hj => simp [il] at hj; subst hj; simpa [Addr.add] using hcell
  · intro v' w' h1 h2 _
    exact h v' w' (by rw [il_append]; exact h1) (hb.out.grown h2 (by omega) (fun q hq => by have := (hown.out.lt q hq).1; omega))
/-- append of a slice's numbers to a row that the call made -/
theorem wpl_appn (hgd : o.guard = none) (s x : Operand) (t : TypeId) (ho : o.op = .call { callee := .builtin .append, args := #[s, x], argTypes := #[t, t] })
    (e : TypeId) (k : IntKind) (bytes : Nat) (ht : P.underlying t = some (.slice e)) (hinfo : (P.info? e).map (fun i => (i.zero, i.size, i.bytes)) = some (some (.int k 0), 1, bytes))
    (base : Nat) (v : Value) (n : Nat) (xs : List Int) (hs : a.eval s = v) (hown : Hid (w.ownsRow base e 1 v n (il k xs)))
    (v2 : Value) (m : Nat) (ys : List Int) (hx : a.eval x = v2) (hri : Hid (RI k w v2 m ys)) (hbytes : ((n + m) + (n + m) / 4 + 192) * bytes ≤ 281474976710656) (h63 : n + m ≤ 9223372036854775807)
    (B : Nat) (W : World) (hb : Hid (Below B W w)) (hB : B ≤ base) (hbase : base ≤ w.heap.size)
    (h : ∀ v' w', Hid (w'.ownsRow base e 1 v' (n + m) (il k (xs ++ ys))) → Hid (Below B W w') → wpList P ops Q rest (a.put o.dst v') w') : wpList P ops Q (o :: rest) a w := by
  obtain ⟨i, hi, hz0, hz1, hz2⟩ := info_parts hinfo
  obtain ⟨ad, cap, rfl, hl, hlc, _, hnil, hc⟩ := hri.out
  cases ad with
  | none =>
    obtain rfl : cap = 0 := hnil rfl
    obtain rfl : m = 0 := by omega
    obtain rfl : ys = [] := List.length_eq_zero_iff.1 hl
    refine wpList_append_own_none hgd s x t ho base e i 1 ht hi v n (il k xs) hs hown.out hx ?_
    exact h v w (by rw [List.append_nil]; exact hown) hb
  | some ad =>
    refine wpList_append_own_wide w hgd s x t ho base e i (.int k 0) 1 bytes ht hi hz0 hz1 hz2 rfl (by omega) v n (il k xs) hs hown.out ad m cap (il k ys) hx (by rw [il_length]; omega) ?_ (il_one k _) (by unfold maxLen; omega) hbytes hbase ?_
    · intro j u hj
      have hjl : j < ys.length := by
        have := (List.getElem?_eq_some_iff.1 hj).1; rwa [il_length] at this
      obtain ⟨b, off, e1, hcell⟩ := hc (by omega)
      obtain rfl := Option.some.inj e1
      rw [il_get k ys j hjl] at hj
      obtain rfl := Option.some.inj hj
      have := hcell j (by omega)
      by_cases h0 : j = 0
      · subst h0; simpa [Addr.add] using this
      · simpa [Addr.add, h0] using this
    · intro v' w' h1 h2 _
      exact h v' w' (by rw [il_append]; exact h1) (hb.out.grown h2 (by omega) (fun q hq => by have := (hown.out.lt q hq).1; omega))
end
/-- a row that was made and then filled from its head on -/
theorem own_spliced {w : World} {B g : Nat} {e : TypeId} {k : IntKind} {len cap : Nat} {zs : List Int} (hg : w.heap[g]? = some (.cells (splice (List.replicate cap (Value.int k 0)) 0 (il k zs)).toArray e (0, 0)))
    (hB : B ≤ g) (hl : zs.length = len) (hlc : len ≤ cap) (hm : cap ≤ maxLen) : w.ownsRow B e 1 (.slice (some ⟨g, 0, none⟩) len cap) len (il k zs) := by
  refine ⟨by rw [il_length]; omega, .inr ⟨g, cap, _, rfl, hB, hg, hlc, hm, ?_, ?_⟩⟩
  · rw [List.size_toArray, length_splice _ _ _ (by rw [il_length]; simp; omega)]; simp
  · simp only [splice, List.take_zero, List.nil_append]
    rw [show len * 1 = (il k zs).length from by rw [il_length]; omega, List.take_left]
/-- the cell of a slice of one element that was just made -/
theorem alloc_cell (w : World) (v : Value) (e : TypeId) : (w.alloc (.cells #[v] e)).cell? ⟨w.heap.size, 0, none⟩ = some v := by simp
/-- the cells of a slice, as copy asks for them -/
theorem RI.cells {k : IntKind} {w : World} {a : Option Addr} {len cap : Nat} {zs : List Int} (h : RI k w (.slice a len cap) len zs) (h0 : 0 < len) :
    ∃ ad, a = some ad ∧ ∀ (j : Nat) (v : Value), (il k zs)[j]? = some v → w.cell? (ad.add j) = some v := by
  obtain ⟨a', cap', e, hl, _, _, _, hc⟩ := h
  simp only [Value.slice.injEq, true_and] at e
  obtain ⟨rfl, rfl⟩ := e
  obtain ⟨b, off, rfl, hcell⟩ := hc h0
  refine ⟨_, rfl, fun j u hj => ?_⟩
  have hjl : j < zs.length := by
    have := (List.getElem?_eq_some_iff.1 hj).1; rwa [il_length] at this
  rw [il_get k zs j hjl] at hj
  obtain rfl := Option.some.inj hj
  have := hcell j (by omega)
  by_cases h0 : j = 0
  · subst h0; simpa [Addr.add] using this
  · simpa [Addr.add, h0] using this
/-- the walk's spelling of a cut from m on, where m isn't the capacity -/
theorem RI.from' {k : IntKind} {w : World} {a : Option Addr} {len cap : Nat} {zs : List Int} (h : RI k w (.slice a len cap) len zs) (m : Nat) (hm : m ≤ len) (hne : ¬ cap = m) :
    RI k w (.slice (Option.map (fun x => x.add m) a) (len - m) (cap - m)) (len - m) (zs.drop m) := by
  have := h.from m hm
  unfold sliced at this
  rw [if_neg hne] at this
  simpa using this
/-- where a slice that isn't empty lies -/
theorem RI.at_ {k : IntKind} {w : World} {a : Option Addr} {len cap : Nat} {zs : List Int} (h : RI k w (.slice a len cap) len zs) (h0 : 0 < len) :
    ∃ b off, a = some ⟨b, off, none⟩ ∧ ∀ j, j < len → w.cell? ⟨b, off + j, none⟩ = some (.int k (zs.getD j 0)) := by
  obtain ⟨a', cap', e, _, _, _, _, hc⟩ := h
  simp only [Value.slice.injEq, true_and] at e
  obtain ⟨rfl, rfl⟩ := e
  exact hc h0
/-- texts of bytes are the same just if the bytes are -/
theorem strOfNums_inj {a b : List Int} (ha : ∀ x ∈ a, 0 ≤ x ∧ x ≤ 255) (hb : ∀ x ∈ b, 0 ≤ x ∧ x ≤ 255) (h : strOfNums a = strOfNums b) : a = b := by
  have h1 := congrArg (fun s => s.data.toList) h
  simp only [strOfNums_data] at h1
  clear h
  induction a generalizing b with
  | nil => cases b with
    | nil => rfl
    | cons _ _ => simp at h1
  | cons c a ih => cases b with
    | nil => simp at h1
    | cons d b =>
      simp only [List.map_cons, List.cons.injEq] at h1
      have hc := ha c (by simp)
      have hd := hb d (by simp)
      have e := congrArg UInt8.toNat h1.1
      simp only [UInt8.toNat_ofNat'] at e
      rw [show c = d from by omega, ih (fun x hx => ha x (List.mem_cons_of_mem _ hx)) (fun x hx => hb x (List.mem_cons_of_mem _ hx)) h1.2]
/-- the text of what a slice of bytes holds -/
theorem conv_of {P : Program} {src e dst : TypeId} (hs : P.underlying src = some (.slice e)) (he : P.underlying e = some (.int .u8)) (hd : P.underlying dst = some .string) {w : World} {v : Value} {n : Nat} {zs : List Int} (h : RI .u8 w v n zs) :
    (convert src dst v).run P w = .ok (.string (strOfNums zs)) w := by
  obtain ⟨a, cap, rfl, hl, _, _, _, hc⟩ := h
  by_cases h0 : 0 < n
  · obtain ⟨b, off, rfl, hcell⟩ := hc h0
    exact run_convert_bytes_arg w _ _ hs he b off n cap zs hl hcell _ hd
  · obtain rfl : n = 0 := by omega
    obtain rfl : zs = [] := List.length_eq_zero_iff.1 hl
    cases a with
    | none => exact run_convert_bytes_nil w _ _ hs he 0 cap _ hd
    | some x =>
      have hl : (loadCells x 0).run P w = .ok (([] : List Int).map (Value.int .u8)).toArray w := run_loadCells_list (P := P) w x [] (fun j v hj => by simp at hj)
      rw [run_convert_bytes_string w _ _ _ _ 0 cap hs he hd, run_bytesToString w x 0 cap [] hl]
      rfl
/-- '[]T{}', its block's number as the walk spells it -/
theorem own_empty {w : World} {e : TypeId} {k : IntKind} {base b : Nat} (hb : w.heap.size = b) (h : base ≤ b) : Hid ((w.alloc (.cells #[] e)).ownsRow base e 1 (.slice (some ⟨b, 0, none⟩) 0 0) 0 (il k [])) := by
  subst hb
  exact World.ownsRow_lit w #[] 0 h (by unfold maxLen; omega) rfl
/-- texts that differ, in the walk's spelling of '==' -/
theorem str_ne {a b : ByteArray} (h : ¬ a = b) : (a.toList == b.toList) = false := by
  rw [beq_eq_false_iff_ne]
  intro e
  rw [ByteArray.toList_eq, ByteArray.toList_eq] at e
  exact h (by cases a; cases b; simp at e; rw [e])
end Go.Proofs.YthickhfbllddjaaDoor
