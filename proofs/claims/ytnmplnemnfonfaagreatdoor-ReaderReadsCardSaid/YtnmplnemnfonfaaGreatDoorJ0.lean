/-
  TEXTS JOINED: Base, Frame, Pick, Secs, List, Open, OpenS. Each one's own words stand at its head.
-/
import Derived.Test.YtnmplnemnfonfaaGreatDoorRows
import Derived.WalkKit
import Derived.ProofKit
import Derived.OpenShut
import Derived.BigQuiet
import Derived.Deep.QuietTactic
import Derived.Lib.Hide
import Derived.Laws.BytesArg
import Derived.Laws.AppendOwnNone
import Derived.Deep.DeepAppendWide
import Derived.Laws.CopyOwn
import Derived.OwnWalk
import Derived.Below
import Derived.ChangeSlices
import Derived.SizedLaws
import Derived.ChangeMaps5
import Derived.ChangeSame
import Derived.Deep.MidRow
import Derived.Deep.WholeRow
import Derived.Lib.SmallJoins
import Derived.ChangeKeysEq
import Derived.DeepKeys
import Derived.Laws.StructEq
namespace Go.Proofs.YtnmplnemnfonfaaGreatDoor
open Go.RowKit
def I63 (n : Int) : Prop := -9223372036854775808 ≤ n ∧ n ≤ 9223372036854775807
def U64 (n : Int) : Prop := 0 ≤ n ∧ n ≤ 18446744073709551615
theorem pow_split (a b : Nat) (h : a ≤ b) : (2 : Int) ^ b = 2 ^ a * 2 ^ (b - a) := by rw [← Int.pow_add]; congr 1; omega
theorem pow_pos' (a : Nat) : (0 : Int) < 2 ^ a := Int.pow_pos (by decide)
def Bytes (l : List Int) : Prop := ∀ j, 0 ≤ l.getD j 0 ∧ l.getD j 0 ≤ 255
theorem bytes_of_mem {l : List Int} (h : ∀ x ∈ l, 0 ≤ x ∧ x ≤ 255) : Bytes l := by
  intro j
  by_cases hj : j < l.length
  · have := h l[j] (List.getElem_mem hj); simpa [List.getD, hj] using this
  · simp [List.getD, Nat.not_lt.1 hj]
theorem Bytes.mem {l : List Int} (h : Bytes l) : ∀ x ∈ l, 0 ≤ x ∧ x ≤ 255 := by
  intro x hx
  obtain ⟨j, hj, rfl⟩ := List.getElem_of_mem hx
  have := h j
  simpa [List.getD, hj] using this
theorem getD_mem {l : List Int} {k : Nat} (h : k < l.length) : l.getD k 0 ∈ l := by
  simp [List.getD, h]
theorem u64_of {a : Int} (h : (Lit.int .u64 a).wf = true) : U64 a := by simp [Lit.wf, IntKind.min, IntKind.max, IntKind.signed, IntKind.bits] at h; unfold U64; omega
theorem ret_int {k : IntKind} {a b : Int} (h : a = b) : Ending.returned (.int k a) = .returned (.int k b) := by rw [h]
theorem ret_bool {a b : Bool} (h : a = b) : Ending.returned (.bool a) = .returned (.bool b) := by rw [h]
def il (k : IntKind) (l : List Int) : List Value := l.map (Value.int k)
theorem il_length (k : IntKind) (l : List Int) : (il k l).length = l.length := by simp [il]
theorem il_append (k : IntKind) (a b : List Int) : il k (a ++ b) = il k a ++ il k b := by simp [il]
theorem il_get (k : IntKind) (l : List Int) (j : Nat) (h : j < l.length) : (il k l)[j]? = some (.int k (l.getD j 0)) := by simp [il, List.getD, h]
theorem il_set (k : IntKind) (l : List Int) (j : Nat) (x : Int) : (il k l).set j (.int k x) = il k (l.set j x) := by simp [il, List.map_set]
theorem il_one (k : IntKind) (l : List Int) : ∀ u ∈ il k l, u.oneCell' = true := by
  intro u hu; obtain ⟨x, _, rfl⟩ := List.mem_map.1 hu; rfl
def RI (k : IntKind) (w : World) (v : Value) (len : Nat) (zs : List Int) : Prop :=
  ∃ a cap, v = .slice a len cap ∧ zs.length = len ∧ len ≤ cap ∧ cap ≤ 9223372036854775807 ∧ (a = none → cap = 0) ∧
    (0 < len → ∃ b off, a = some ⟨b, off, none⟩ ∧ ∀ j, j < len → w.cell? ⟨b, off + j, none⟩ = some (.int k (zs.getD j 0)))
theorem RI.length {k : IntKind} {w : World} {v : Value} {len : Nat} {zs : List Int} (h : RI k w v len zs) : zs.length = len := h.choose_spec.choose_spec.2.1
theorem RI.le {k : IntKind} {w : World} {v : Value} {len : Nat} {zs : List Int} (h : RI k w v len zs) : len ≤ 9223372036854775807 := by
  obtain ⟨_, _, _, _, h1, h2, _⟩ := h; omega
theorem cell_keep {w w' : World} (hb : Below w.heap.size w w') {a : Addr} {v : Value} (h : w.cell? a = some v) : w'.cell? a = some v :=
  (hb.cell (World.block_lt_of_cell? w _ h)).trans h
theorem RI.keep {k : IntKind} {w w' : World} (hb : Below w.heap.size w w') {v : Value} {len : Nat} {zs : List Int} (h : RI k w v len zs) : RI k w' v len zs := by
  obtain ⟨a, cap, rfl, h1, h2, h3, h4, hc⟩ := h
  refine ⟨a, cap, rfl, h1, h2, h3, h4, fun h0 => ?_⟩
  obtain ⟨b, off, rfl, hcell⟩ := hc h0
  exact ⟨b, off, rfl, fun j hj => cell_keep hb (hcell j hj)⟩
theorem RI.nil (k : IntKind) (w : World) : RI k w (.slice none 0 0) 0 [] := ⟨none, 0, rfl, rfl, Nat.le_refl _, by omega, fun _ => rfl, fun h => absurd h (by omega)⟩
theorem RI.own {k : IntKind} {w : World} {base : Nat} {e : TypeId} {v : Value} {n : Nat} {zs : List Int} (h : w.ownsRow base e 1 v n (il k zs)) : RI k w v n zs := by
  have hl : zs.length = n := by have := h.1; rw [il_length] at this; omega
  rcases h.2 with ⟨rfl, rfl⟩ | ⟨g, cap, cur, rfl, _, _, hnc, hcm, _⟩
  · exact ⟨none, 0, rfl, hl, Nat.le_refl _, by omega, fun _ => rfl, fun h => absurd h (by omega)⟩
  · refine ⟨_, cap, rfl, hl, hnc, by unfold maxLen at hcm; omega, fun h => by simp at h, fun _ => ⟨g, 0, rfl, fun j hj => ?_⟩⟩
    rw [Nat.zero_add, h.cellAt j (by omega), il_get k zs j (by omega)]
def IRow (k : IntKind) (w : World) (a : Option Addr) (len cap : Nat) (zs : List Int) : Prop :=
  (a = none ∧ len = 0 ∧ cap = 0 ∧ zs = []) ∨
  ∃ x, a = some x ∧ len ≤ cap ∧ cap ≤ maxLen ∧ zs.length = cap ∧ (∀ i, i < zs.length → w.cell? (x.add i) = some (.int k (zs.getD i 0))) ∧ ∀ n ∈ zs, (Lit.int k n).wf = true
theorem IRow.ri {k : IntKind} {w : World} {a : Option Addr} {len cap : Nat} {zs : List Int} (h : IRow k w a len cap zs) : RI k w (.slice a len cap) len (zs.take len) := by
  rcases h with ⟨rfl, rfl, rfl, rfl⟩ | ⟨x, rfl, h1, h2, h3, h4, _⟩
  · exact RI.nil k w
  · refine ⟨some x, cap, rfl, by simp; omega, h1, by unfold maxLen at h2; omega, fun h => by simp at h, fun h0 => ?_⟩
    obtain ⟨b, off, rfl, hc⟩ := ints_at h4 (by omega)
    refine ⟨b, off, rfl, fun j hj => ?_⟩
    rw [hc j (by omega)]
    simp [List.getD, hj]
theorem IRow.le {k : IntKind} {w : World} {a : Option Addr} {len cap : Nat} {zs : List Int} (h : IRow k w a len cap zs) : len ≤ cap := by
  rcases h with ⟨_, rfl, rfl, _⟩ | ⟨_, _, h1, _⟩
  · omega
  · exact h1
theorem IRow.wf {k : IntKind} {w : World} {a : Option Addr} {len cap : Nat} {zs : List Int} (h : IRow k w a len cap zs) : ∀ n ∈ zs.take len, (Lit.int k n).wf = true := by
  rcases h with ⟨_, _, _, rfl⟩ | ⟨_, _, _, _, _, _, h5⟩
  · simp
  · exact fun n hn => h5 n (List.mem_of_mem_take hn)
theorem IRow.bytes {w : World} {a : Option Addr} {len cap : Nat} {zs : List Int} (h : IRow .u8 w a len cap zs) : Bytes (zs.take len) :=
  bytes_of_mem fun x hx => by have := h.wf x hx; simp [Lit.wf, IntKind.min, IntKind.max, IntKind.signed, IntKind.bits] at this; omega
theorem RI.from {k : IntKind} {w : World} {a : Option Addr} {len cap : Nat} {zs : List Int} (h : RI k w (.slice a len cap) len zs) (m : Nat) (hm : m ≤ len) : RI k w (sliced a m len cap 1) (len - m) (zs.drop m) := by
  obtain ⟨a', cap', e, h1, h2, h3, h4, hc⟩ := h
  simp only [Value.slice.injEq, true_and] at e
  obtain ⟨rfl, rfl⟩ := e
  have hl : (zs.drop m).length = len - m := by simp; omega
  unfold sliced
  by_cases h0 : cap = m
  · rw [if_pos h0]
    exact ⟨a, cap - m, rfl, hl, by omega, by omega, fun _ => by omega, fun h => absurd h (by omega)⟩
  · rw [if_neg h0]
    cases a with
    | none => have := h4 rfl; omega
    | some x =>
      refine ⟨some (x.add (m * 1)), cap - m, rfl, hl, by omega, by omega, fun h => by simp at h, fun hp => ?_⟩
      obtain ⟨b, off, hx, hcell⟩ := hc (by omega)
      obtain rfl := Option.some.inj hx
      refine ⟨b, off + m, by simp [Addr.add], fun j hj => ?_⟩
      have := hcell (m + j) (by omega)
      rw [Nat.add_assoc, this]
      simp [List.getD, List.getElem?_drop]
theorem RI.upto {k : IntKind} {w : World} {a : Option Addr} {len cap : Nat} {zs : List Int} (h : RI k w (.slice a len cap) len zs) (m : Nat) (hm : m ≤ len) : RI k w (sliced a 0 m cap 1) m (zs.take m) := by
  obtain ⟨a', cap', e, h1, h2, h3, h4, hc⟩ := h
  simp only [Value.slice.injEq, true_and] at e
  obtain ⟨rfl, rfl⟩ := e
  have hl : (zs.take m).length = m := by simp; omega
  unfold sliced
  have e : (if cap = 0 then a else a.map (·.add (0 * 1))) = a := by
    cases a <;> simp [Addr.add]
  rw [e]
  refine ⟨a, cap, rfl, hl, by omega, by omega, h4, fun hp => ?_⟩
  obtain ⟨b, off, hx, hcell⟩ := hc (by omega)
  refine ⟨b, off, hx, fun j hj => ?_⟩
  rw [hcell j (by omega)]
  simp [List.getD, hj]
section
variable {P : Program} {w : World} {ops : Array Oper} {rest : List Oper} {o : Oper} {a : Act} {Q : Exit → Act → World → Prop}
theorem wpl_app1 (hgd : o.guard = none) (s x : Operand) (t : TypeId) (ho : o.op = .call { callee := .builtin .append, args := #[s, x], argTypes := #[t, t] })
    (e : TypeId) (k : IntKind) (bytes : Nat) (ht : P.underlying t = some (.slice e)) (hinfo : (P.info? e).map (fun i => (i.zero, i.size, i.bytes)) = some (some (.int k 0), 1, bytes))
    (base : Nat) (v : Value) (n : Nat) (xs : List Int) (hs : a.eval s = v) (hown : Hid (w.ownsRow base e 1 v n (il k xs)))
    (ad : Addr) (y : Int) (hx : a.eval x = .slice (some ad) 1 1) (hcell : w.cell? ad = some (.int k y)) (hbytes : ((n + 1) + (n + 1) / 4 + 192) * bytes ≤ 281474976710656) (h63 : n + 1 ≤ 9223372036854775807)
    (B : Nat) (W : World) (hb : Hid (Below B W w)) (hB : B ≤ base) (hbase : base ≤ w.heap.size)
    (h : ∀ v' w', Hid (w'.ownsRow base e 1 v' (n + 1) (il k (xs ++ [y]))) → Hid (Below B W w') → wpList P ops Q rest (a.put o.dst v') w') : wpList P ops Q (o :: rest) a w := by
  obtain ⟨i, hi, hz0, hz1, hz2⟩ := info_parts hinfo
  refine wpList_append_own_wide w hgd s x t ho base e i (.int k 0) 1 bytes ht hi hz0 hz1 hz2 rfl (by omega) v n (il k xs) hs hown.out ad 1 1 (il k [y]) hx rfl ?_ (il_one k _) (by unfold maxLen; omega) hbytes hbase ?_
  · intro j u hj
    match j, hj with
    | 0, hj => simp [il] at hj; subst hj; simpa [Addr.add] using hcell
  · intro v' w' h1 h2 _
    exact h v' w' (by rw [il_append]; exact h1) (hb.out.grown h2 (by omega) (fun q hq => by have := (hown.out.lt q hq).1; omega))
theorem wpl_appn (hgd : o.guard = none) (s x : Operand) (t : TypeId) (ho : o.op = .call { callee := .builtin .append, args := #[s, x], argTypes := #[t, t] })
    (e : TypeId) (k : IntKind) (bytes : Nat) (ht : P.underlying t = some (.slice e)) (hinfo : (P.info? e).map (fun i => (i.zero, i.size, i.bytes)) = some (some (.int k 0), 1, bytes))
    (base : Nat) (v : Value) (n : Nat) (xs : List Int) (hs : a.eval s = v) (hown : Hid (w.ownsRow base e 1 v n (il k xs)))
    (v2 : Value) (m : Nat) (ys : List Int) (hx : a.eval x = v2) (hri : Hid (RI k w v2 m ys)) (hbytes : ((n + m) + (n + m) / 4 + 192) * bytes ≤ 281474976710656) (h63 : n + m ≤ 9223372036854775807)
    (B : Nat) (W : World) (hb : Hid (Below B W w)) (hB : B ≤ base) (hbase : base ≤ w.heap.size)
    (h : ∀ v' w', Hid (w'.ownsRow base e 1 v' (n + m) (il k (xs ++ ys))) → Hid (Below B W w') → wpList P ops Q rest (a.put o.dst v') w') : wpList P ops Q (o :: rest) a w := by
  obtain ⟨i, hi, hz0, hz1, hz2⟩ := info_parts hinfo
  obtain ⟨ad, cap, rfl, hl, hlc, _, hnil, hc⟩ := hri.out
  cases ad with
  | none =>
    obtain rfl : cap = 0 := hnil rfl
    obtain rfl : m = 0 := by omega
    obtain rfl : ys = [] := List.length_eq_zero_iff.1 hl
    refine wpList_append_own_none hgd s x t ho base e i 1 ht hi v n (il k xs) hs hown.out hx ?_
    exact h v w (by rw [List.append_nil]; exact hown) hb
  | some ad =>
    refine wpList_append_own_wide w hgd s x t ho base e i (.int k 0) 1 bytes ht hi hz0 hz1 hz2 rfl (by omega) v n (il k xs) hs hown.out ad m cap (il k ys) hx (by rw [il_length]; omega) ?_ (il_one k _) (by unfold maxLen; omega) hbytes hbase ?_
    · intro j u hj
      have hjl : j < ys.length := by
        have := (List.getElem?_eq_some_iff.1 hj).1; rwa [il_length] at this
      obtain ⟨b, off, e1, hcell⟩ := hc (by omega)
      obtain rfl := Option.some.inj e1
      rw [il_get k ys j hjl] at hj
      obtain rfl := Option.some.inj hj
      have := hcell j (by omega)
      by_cases h0 : j = 0
      · subst h0; simpa [Addr.add] using this
      · simpa [Addr.add, h0] using this
    · intro v' w' h1 h2 _
      exact h v' w' (by rw [il_append]; exact h1) (hb.out.grown h2 (by omega) (fun q hq => by have := (hown.out.lt q hq).1; omega))
end
theorem alloc_cell (w : World) (v : Value) (e : TypeId) : (w.alloc (.cells #[v] e)).cell? ⟨w.heap.size, 0, none⟩ = some v := by simp
theorem RI.cells {k : IntKind} {w : World} {a : Option Addr} {len cap : Nat} {zs : List Int} (h : RI k w (.slice a len cap) len zs) (h0 : 0 < len) :
    ∃ ad, a = some ad ∧ ∀ (j : Nat) (v : Value), (il k zs)[j]? = some v → w.cell? (ad.add j) = some v := by
  obtain ⟨a', cap', e, hl, _, _, _, hc⟩ := h
  simp only [Value.slice.injEq, true_and] at e
  obtain ⟨rfl, rfl⟩ := e
  obtain ⟨b, off, rfl, hcell⟩ := hc h0
  refine ⟨_, rfl, fun j u hj => ?_⟩
  have hjl : j < zs.length := by
    have := (List.getElem?_eq_some_iff.1 hj).1; rwa [il_length] at this
  rw [il_get k zs j hjl] at hj
  obtain rfl := Option.some.inj hj
  have := hcell j (by omega)
  by_cases h0 : j = 0
  · subst h0; simpa [Addr.add] using this
  · simpa [Addr.add, h0] using this
theorem RI.at_ {k : IntKind} {w : World} {a : Option Addr} {len cap : Nat} {zs : List Int} (h : RI k w (.slice a len cap) len zs) (h0 : 0 < len) :
    ∃ b off, a = some ⟨b, off, none⟩ ∧ ∀ j, j < len → w.cell? ⟨b, off + j, none⟩ = some (.int k (zs.getD j 0)) := by
  obtain ⟨a', cap', e, _, _, _, _, hc⟩ := h
  simp only [Value.slice.injEq, true_and] at e
  obtain ⟨rfl, rfl⟩ := e
  exact hc h0
theorem strOfNums_inj {a b : List Int} (ha : ∀ x ∈ a, 0 ≤ x ∧ x ≤ 255) (hb : ∀ x ∈ b, 0 ≤ x ∧ x ≤ 255) (h : strOfNums a = strOfNums b) : a = b := by
  have h1 := congrArg (fun s => s.data.toList) h
  simp only [strOfNums_data] at h1
  clear h
  induction a generalizing b with
  | nil => cases b with
    | nil => rfl
    | cons _ _ => simp at h1
  | cons c a ih => cases b with
    | nil => simp at h1
    | cons d b =>
      simp only [List.map_cons, List.cons.injEq] at h1
      have hc := ha c (by simp)
      have hd := hb d (by simp)
      have e := congrArg UInt8.toNat h1.1
      simp only [UInt8.toNat_ofNat'] at e
      rw [show c = d from by omega, ih (fun x hx => ha x (List.mem_cons_of_mem _ hx)) (fun x hx => hb x (List.mem_cons_of_mem _ hx)) h1.2]
theorem conv_of {P : Program} {src e dst : TypeId} (hs : P.underlying src = some (.slice e)) (he : P.underlying e = some (.int .u8)) (hd : P.underlying dst = some .string) {w : World} {v : Value} {n : Nat} {zs : List Int} (h : RI .u8 w v n zs) :
    (convert src dst v).run P w = .ok (.string (strOfNums zs)) w := by
  obtain ⟨a, cap, rfl, hl, _, _, _, hc⟩ := h
  by_cases h0 : 0 < n
  · obtain ⟨b, off, rfl, hcell⟩ := hc h0
    exact run_convert_bytes_arg w _ _ hs he b off n cap zs hl hcell _ hd
  · obtain rfl : n = 0 := by omega
    obtain rfl : zs = [] := List.length_eq_zero_iff.1 hl
    cases a with
    | none => exact run_convert_bytes_nil w _ _ hs he 0 cap _ hd
    | some x =>
      have hl : (loadCells x 0).run P w = .ok (([] : List Int).map (Value.int .u8)).toArray w := run_loadCells_list (P := P) w x [] (fun j v hj => by simp at hj)
      rw [run_convert_bytes_string w _ _ _ _ 0 cap hs he hd, run_bytesToString w x 0 cap [] hl]
      rfl
theorem own_empty {w : World} {e : TypeId} {k : IntKind} {base b : Nat} (hb : w.heap.size = b) (h : base ≤ b) : Hid ((w.alloc (.cells #[] e)).ownsRow base e 1 (.slice (some ⟨b, 0, none⟩) 0 0) 0 (il k [])) := by
  subst hb
  exact World.ownsRow_lit w #[] 0 h (by unfold maxLen; omega) rfl
theorem str_ne {a b : ByteArray} (h : ¬ a = b) : (a.toList == b.toList) = false := by
  rw [beq_eq_false_iff_ne]
  intro e
  rw [ByteArray.toList_eq, ByteArray.toList_eq] at e
  exact h (by cases a; cases b; simp at e; rw [e])
end Go.Proofs.YtnmplnemnfonfaaGreatDoor
namespace Go.Proofs.YtnmplnemnfonfaaGreatDoor
open Go.RowKit Go.ChangeShapes Go.WideShapes
section
variable {H : Type} {enc : TypeId × Value → H} {P : Program} {W : World} {t e : TypeId} {k : IntKind}
def RdC (enc : TypeId × Value → H) (P : Program) (W : World) (t : TypeId) (cs : List Value) (d : DataW H) : Prop :=
  ∃ (fuel : Nat) (p : List MemPlace), DataW.trod enc P W 0 (fun _ => true) true fuel t cs = some (d, p)
theorem rdc_of {v : Value} {d : DataW H} {p : List MemPlace} (h : DataW.Trod enc P W 0 (fun _ => true) true t v d p) : RdC enc P W t v.cells.toList d := by
  obtain ⟨f, hf⟩ := h; exact ⟨f, p, hf⟩
theorem rdc_int {cs : List Value} {d : DataW H} (ht : P.underlying t = some (.int k)) (h : RdC enc P W t cs d) : ∃ n, cs = [.int k n] ∧ d = .lit (.int k n) ∧ (Lit.int k n).wf = true := by
  obtain ⟨f, p, hf⟩ := h
  obtain ⟨n, h1, h2, h3⟩ := DataW.trod_int ht hf
  exact ⟨n, h1, congrArg Prod.fst h2, h3⟩
def DInts (k : IntKind) (len cap : Nat) (zs : List Int) (d : DataW H) : Prop :=
  (cap = 0 ∧ d = .nil) ∨ (d = .slice (lits k (zs.take len)) (lits k (zs.drop len)) ∧ zs.length = cap ∧ len ≤ cap)
theorem rdc_ints {cs : List Value} {d : DataW H} (ht : P.underlying t = some (.slice e)) (he : P.underlying e = some (.int k)) (hc : P.cellsOf e = 1) (h : RdC enc P W t cs d) :
    ∃ a len cap zs, cs = [.slice a len cap] ∧ IRow k W a len cap zs ∧ DInts k len cap zs d := by
  obtain ⟨f, p, hf⟩ := h
  rcases open_ints ht he hc hf with ⟨hcs, hx⟩ | ⟨x, l, c, zs, hcs, _, hl, hm, hz, hx, hcell, hwz⟩
  · exact ⟨none, 0, 0, [], hcs, .inl ⟨rfl, rfl, rfl, rfl⟩, .inl ⟨rfl, congrArg Prod.fst hx⟩⟩
  · simp at hz
    exact ⟨some x, l, c, zs, hcs, .inr ⟨x, rfl, hl, hm, hz, hcell, hwz⟩, .inr ⟨congrArg Prod.fst hx, hz, hl⟩⟩
theorem okWide_struct {r : Reach} {b : Nat} {v : Value} {fs : Array Field} (ht : P.underlying t = some (.struct fs)) (h : Value.okWide P W r b t v) : ∃ cs, v = .agg cs ∧ cs.size = P.cellsOf t := by
  simp only [Value.okWide, ht] at h
  obtain ⟨cs, h1, h2, _⟩ := h
  exact ⟨cs, h1, h2⟩
end
end Go.Proofs.YtnmplnemnfonfaaGreatDoor
namespace Go.Proofs.YtnmplnemnfonfaaGreatDoor
theorem pick {α β : Type} {R : α → β → Prop} : ∀ es : List α, (∀ e ∈ es, ∃ a, R e a) → ∃ l : List β, l.length = es.length ∧ ∀ (i : Nat) (e : α) (a : β), es[i]? = some e → l[i]? = some a → R e a
  | [], _ => ⟨[], rfl, fun i e a he => by simp at he⟩
  | e :: es, h => by
    obtain ⟨a, ha⟩ := h e (List.mem_cons_self ..)
    obtain ⟨l, hl, hr⟩ := pick es fun x hx => h x (List.mem_cons_of_mem _ hx)
    refine ⟨a :: l, by simp [hl], fun i x y hx hy => ?_⟩
    cases i with
    | zero => simp at hx hy; subst hx; subst hy; exact ha
    | succ i => exact hr i x y (by simpa using hx) (by simpa using hy)
end Go.Proofs.YtnmplnemnfonfaaGreatDoor
namespace Go.Proofs.YtnmplnemnfonfaaGreatDoor
open Go.RowKit
def sv (zs : List Int) : Array Value := (il .u8 zs).toArray
theorem sv_size (zs : List Int) : (sv zs).size = zs.length := by simp [sv, il_length]
theorem sv_one (zs : List Int) : (sv zs).all (·.oneCell') = true := all_oneCell_toArray (il_one _ _)
theorem sv_get (zs : List Int) (j : Nat) (h : j < zs.length) : (sv zs)[j]? = some (.int .u8 (zs.getD j 0)) := by
  have := il_get .u8 zs j h
  simpa [sv] using this
theorem sv_set (zs : List Int) (j : Nat) (x : Int) : (sv zs).setIfInBounds j (.int .u8 x) = sv (zs.set j x) := by
  unfold sv; rw [← il_set]; simp
def z64 : List Int := List.replicate 64 0
theorem z64_length : z64.length = 64 := by simp [z64]
theorem z64_cells : sv z64 = #[.int .u8 0, .int .u8 0, .int .u8 0, .int .u8 0, .int .u8 0, .int .u8 0, .int .u8 0, .int .u8 0, .int .u8 0, .int .u8 0, .int .u8 0, .int .u8 0, .int .u8 0, .int .u8 0, .int .u8 0, .int .u8 0, .int .u8 0, .int .u8 0, .int .u8 0, .int .u8 0, .int .u8 0, .int .u8 0, .int .u8 0, .int .u8 0, .int .u8 0, .int .u8 0, .int .u8 0, .int .u8 0, .int .u8 0, .int .u8 0, .int .u8 0, .int .u8 0, .int .u8 0, .int .u8 0, .int .u8 0, .int .u8 0, .int .u8 0, .int .u8 0, .int .u8 0, .int .u8 0, .int .u8 0, .int .u8 0, .int .u8 0, .int .u8 0, .int .u8 0, .int .u8 0, .int .u8 0, .int .u8 0, .int .u8 0, .int .u8 0, .int .u8 0, .int .u8 0, .int .u8 0, .int .u8 0, .int .u8 0, .int .u8 0, .int .u8 0, .int .u8 0, .int .u8 0, .int .u8 0, .int .u8 0, .int .u8 0, .int .u8 0, .int .u8 0] := rfl
theorem sec_info (c : Array Value) (h : c.size = 64) : (Tryz.prog.info? 92).map (·.size) = some c.size := by rw [h]; kernel_rfl
theorem sv_info (zs : List Int) (h : zs.length = 64) : (Tryz.prog.info? 92).map (·.size) = some (sv zs).size := sec_info _ (by rw [sv_size, h])
def Blk (w : World) (b : Nat) (zs : List Int) : Prop := w.heap[b]? = some (.cells (sv zs) 92 (0, 0)) ∧ zs.length = 64
theorem Blk.keep {w w' : World} {b : Nat} {c : List Int} (h : Blk w b c) (hb : Below w.heap.size w w') : Blk w' b c :=
  ⟨by rw [hb.block b (Array.getElem?_eq_some_iff.1 h.1).1]; exact h.1, h.2⟩
theorem Blk.cell {w : World} {b : Nat} {c : List Int} (h : Blk w b c) (j : Nat) (hj : j < 64) : w.cell? ⟨b, j, none⟩ = some (.int .u8 (c.getD j 0)) := by
  rw [Joins.cell_of_block h.1 j, sv_get _ _ (by rw [h.2]; exact hj)]
theorem Blk.frozen {w : World} {b : Nat} {c : List Int} (h : Blk w b c) (j : Nat) : w.frozen? ⟨b, j, none⟩ = false := Joins.unfrozen_of_block h.1 j
theorem Blk.stored {w : World} {b : Nat} {c : List Int} (h : Blk w b c) (j : Nat) (x : Int) : Blk (w.setCell ⟨b, j, none⟩ (.int .u8 x)) b (c.set j x) := ⟨by rw [← sv_set]; exact Joins.block_setCell h.1 _, by simpa using h.2⟩
theorem Blk.apart {w : World} {b b' : Nat} {c : List Int} (h : Blk w b c) (hne : b ≠ b') (j : Nat) (v : Value) : Blk (w.setCell ⟨b', j, none⟩ v) b c := ⟨by rw [Below.heap_setCell w ⟨b', j, none⟩ v b hne]; exact h.1, h.2⟩
theorem Blk.row {w : World} {b : Nat} {c c' : List Int} (h : Blk w b c) (hc : c'.length = 64) : Blk (w.setRow b (sv c')) b c' := ⟨setRow_heap w b (sv c) (sv c') _ _ h.1, hc⟩
theorem Blk.row_apart {w : World} {b b' : Nat} {c : List Int} (h : Blk w b c) (hne : b ≠ b') (c' : Array Value) : Blk (w.setRow b' c') b c := ⟨by rw [setRow_other w b' b c' hne]; exact h.1, h.2⟩
theorem below_row {B b : Nat} {a w : World} (h : Below B a w) (hB : B ≤ b) (c : Array Value) : Below B a (w.setRow b c) :=
  h.trans ⟨rfl, rfl, rfl, by simp, fun k hk => setRow_other w b k c (by omega)⟩
theorem Blk.new (w : World) (zs : List Int) (h : zs.length = 64) : Blk (w.alloc (.cells (sv zs) 92)) w.heap.size zs := ⟨heap_alloc_last w _, h⟩
theorem alloc_size (w : World) (o : Obj) : (w.alloc o).heap.size = w.heap.size + 1 := by show (w.heap.push o).size = _; simp
theorem below_alloc (w : World) (o : Obj) : Below w.heap.size w (w.alloc o) := (Below.refl _ _).alloc (Nat.le_refl _) _
theorem run_items {w : World} (a b : List Int) (ha : a.length = 64) (hb : b.length = 64) : ∀ is : List Nat, (∀ i ∈ is, i < 64) →
    (Op.eqItems 9999 5 1 (sv a) (sv b) is).run Tryz.prog w = .ok (is.all fun i => a.getD i 0 == b.getD i 0) w
  | [], _ => by simp [Op.eqItems]
  | i :: is, h => by
    have hi : i < 64 := h i (by simp)
    have p1 := run_part_plain (P := Tryz.prog) (w := w) (e := 5) (by kernel_rfl) (xs := sv a) (off := i * 1) (v := .int .u8 (a.getD i 0)) (by rw [Nat.mul_one]; exact sv_get a i (by omega))
    have p2 := run_part_plain (P := Tryz.prog) (w := w) (e := 5) (by kernel_rfl) (xs := sv b) (off := i * 1) (v := .int .u8 (b.getD i 0)) (by rw [Nat.mul_one]; exact sv_get b i (by omega))
    have p3 := run_equalIn_int (P := Tryz.prog) w 9998 5 .u8 .u8 (a.getD i 0) (b.getD i 0) Tryz.underlying5
    have p4 := run_items (w := w) a b ha hb is (fun j hj => h j (List.mem_cons_of_mem _ hj))
    simp only [Op.eqItems, Sem.run_bind, p1, p2, Result.andThen_ok, List.all_cons]
    rw [p3]
    simp only [Result.andThen_ok]
    cases hc : (a.getD i 0 == b.getD i 0)
    · simp
    · simpa using p4
theorem run_eq_sec (a b : List Int) (ha : a.length = 64) (hb : b.length = 64) (w : World) : (Op.equalIn 10000 92 (.agg (sv a)) (.agg (sv b))).run Tryz.prog w = .ok (decide (a = b)) w := by
  obtain ⟨i, hi⟩ : ∃ i, Tryz.prog.info? 5 = some i := info_of_underlying Tryz.underlying5
  have hc : Tryz.prog.cellsOf 5 = 1 := by kernel_rfl
  have h1 := run_equalIn_array w (P := Tryz.prog) 9999 (sv a) (sv b) Tryz.underlying92 hi
  rw [hc, run_items a b ha hb _ (fun i hi => List.mem_range.1 hi)] at h1
  rw [h1]
  refine congrArg (fun x => Result.ok x w) ?_
  rw [Bool.eq_iff_iff, List.all_eq_true, decide_eq_true_eq]
  constructor
  · intro h
    refine List.ext_getElem (by omega) fun j h1 h2 => ?_
    have := h j (List.mem_range.2 (by omega))
    simpa [List.getD, h1, h2] using this
  · rintro rfl j _
    simp
theorem exec_load_sec {a : Act} {o : Oper} {w : World} {g : Nat} {zs : List Int} (x : Operand) (ho : o.op = .load 92 x) (hx : a.eval x = .pointer (some ⟨g, 0, none⟩)) (h : Blk w g zs) :
    (execOp a.eval o).run Tryz.prog w = .ok (.value (.agg (sv zs))) w := by
  unfold execOp
  simp only [ho, hx, Instr.loadAt, Instr.sureAddr, Sem.run_bind, Sem.run_pure, Result.andThen_ok, run_loadVar_row w g _ 92 (sv zs) (0, 0) _ h.1 Tryz.underlying92 rfl (sv_info zs h.2)]
def At (w : World) (b off : Nat) (zs : List Int) : Prop := zs.length = 64 ∧ ∀ k, k < 64 → w.cell? ⟨b, off + k, none⟩ = some (.int .u8 (zs.getD k 0))
theorem At.keep {w w' : World} {b off : Nat} {zs : List Int} (h : At w b off zs) (hb : Below w.heap.size w w') : At w' b off zs := ⟨h.1, fun k hk => cell_keep hb (h.2 k hk)⟩
theorem run_loadVar_at {w : World} {b off : Nat} {zs : List Int} (h : At w b off zs) : (loadVar 92 ⟨b, off, none⟩).run Tryz.prog w = .ok (.agg (sv zs)) w := by
  have hl : (loadCells ⟨b, off, none⟩ (il .u8 zs).length).run Tryz.prog w = .ok (il .u8 zs).toArray w :=
    run_loadCells_list (P := Tryz.prog) w ⟨b, off, none⟩ (il .u8 zs) (fun j v hv => by
      have hadd : (⟨b, off, none⟩ : Addr).add j = ⟨b, off + j, none⟩ := by unfold Addr.add; split <;> simp_all
      have hj : j < zs.length := by have := (List.getElem?_eq_some_iff.1 hv).1; rwa [il_length] at this
      rw [il_get _ _ _ hj] at hv
      rw [hadd, h.2 j (by rw [← h.1]; exact hj)]
      exact hv)
  have hi := sv_info zs h.1
  cases hq : Tryz.prog.info? 92 with
  | none => simp [hq] at hi
  | some i =>
    have hs : i.size = 64 := by simpa [hq, sv_size, h.1] using hi
    have hagg : (isAgg 92).run Tryz.prog w = .ok true w := by
      unfold isAgg
      rw [Sem.run_bind, run_underlying Tryz.underlying92 w]
      rfl
    rw [il_length, h.1] at hl
    simp [loadVar, Sem.run_bind, hagg, sizeOf, typeInfo, hq, hs, hl, sv]
theorem exec_load_at {a : Act} {o : Oper} {w : World} {b off : Nat} {zs : List Int} (x : Operand) (ho : o.op = .load 92 x) (hx : a.eval x = .pointer (some ⟨b, off, none⟩)) (h : At w b off zs) :
    (execOp a.eval o).run Tryz.prog w = .ok (.value (.agg (sv zs))) w := by
  unfold execOp
  simp only [ho, hx, Instr.loadAt, Instr.sureAddr, Sem.run_bind, Sem.run_pure, Result.andThen_ok, run_loadVar_at h]
theorem RI.open_ {k : IntKind} {w : World} {v : Value} {len : Nat} {zs : List Int} (h : RI k w v len zs) (h0 : 0 < len) :
    ∃ b off cap, v = .slice (some ⟨b, off, none⟩) len cap ∧ len ≤ cap ∧ cap ≤ 9223372036854775807 ∧ ∀ j, j < len → w.cell? ⟨b, off + j, none⟩ = some (.int k (zs.getD j 0)) := by
  obtain ⟨a, cap, rfl, _, h2, h3, _, hc⟩ := h
  obtain ⟨b, off, rfl, hcell⟩ := hc h0
  exact ⟨b, off, cap, rfl, h2, h3, hcell⟩
def FS (w : World) (v : Value) (n : Nat) (fs : List Int) : Prop :=
  ∃ a cap, v = .slice a n cap ∧ fs.length = n * 64 ∧ n ≤ cap ∧ cap ≤ 9223372036854775807 ∧ (a = none → cap = 0) ∧
    (0 < n → ∃ b off, a = some ⟨b, off, none⟩ ∧ ∀ j, j < n * 64 → w.cell? ⟨b, off + j, none⟩ = some (.int .u8 (fs.getD j 0)))
theorem FS.keep {w w' : World} (hb : Below w.heap.size w w') {v : Value} {n : Nat} {fs : List Int} (h : FS w v n fs) : FS w' v n fs := by
  obtain ⟨a, cap, rfl, h1, h2, h3, h4, hc⟩ := h
  refine ⟨a, cap, rfl, h1, h2, h3, h4, fun h0 => ?_⟩
  obtain ⟨b, off, rfl, hcell⟩ := hc h0
  exact ⟨b, off, rfl, fun j hj => cell_keep hb (hcell j hj)⟩
theorem FS.nil (w : World) : FS w (.slice none 0 0) 0 [] := ⟨none, 0, rfl, rfl, Nat.le_refl _, by omega, fun _ => rfl, fun h => absurd h (by omega)⟩
theorem FS.length {w : World} {v : Value} {n : Nat} {fs : List Int} (h : FS w v n fs) : fs.length = n * 64 := h.choose_spec.choose_spec.2.1
theorem FS.own {w : World} {base : Nat} {v : Value} {n : Nat} {fs : List Int} (h : w.ownsRow base 92 64 v n (il .u8 fs)) : FS w v n fs := by
  have hl : fs.length = n * 64 := by have := h.1; rwa [il_length] at this
  rcases h.2 with ⟨rfl, rfl⟩ | ⟨g, cap, cur, rfl, _, _, hnc, hcm, _⟩
  · obtain rfl : fs = [] := List.length_eq_zero_iff.1 (by omega)
    exact FS.nil w
  · refine ⟨_, cap, rfl, hl, hnc, by unfold maxLen at hcm; omega, fun h => by simp at h, fun _ => ⟨g, 0, rfl, fun j hj => ?_⟩⟩
    rw [Nat.zero_add, h.cellAt j hj, il_get .u8 fs j (by omega)]
theorem FS.at_ {w : World} {a : Option Addr} {n cap : Nat} {fs : List Int} (h : FS w (.slice a n cap) n fs) (i : Nat) (hi : i < n) :
    ∃ b off, a = some ⟨b, off, none⟩ ∧ At w b (off + i * 64) ((fs.drop (i * 64)).take 64) := by
  obtain ⟨a', cap', e, hl, _, _, _, hc⟩ := h
  simp only [Value.slice.injEq, true_and] at e
  obtain ⟨rfl, rfl⟩ := e
  obtain ⟨b, off, rfl, hcell⟩ := hc (by omega)
  refine ⟨b, off, rfl, by simp; omega, fun k hk => ?_⟩
  rw [Nat.add_assoc, hcell (i * 64 + k) (by omega)]
  simp only [List.getD, List.getElem?_take, hk, if_true, List.getElem?_drop]
theorem sec_parts : (Tryz.prog.info? 92).map (fun i => (i.zero, i.size, i.bytes)) = some (some (.agg (sv z64)), 64, 64) := by kernel_rfl
theorem chain {a b c : World} (h : Below a.heap.size a b) (k : Below b.heap.size b c) : Below a.heap.size a c := h.trans (k.mono h.size)
theorem wpl_store_new {w w1 : World} {ops : Array Oper} {rest : List Oper} {o : Oper} {a : Act} {Q : Exit → Act → World → Prop} (hgd : o.guard = none) (x y : Operand)
    (ho : o.op = .store 92 x y) (hw : w = w1.alloc (.cells (sv z64) 92)) (g : Nat) (hg : w1.heap.size = g) (l : List Int) (hl : l.length = 64)
    (hx : a.eval x = .pointer (some ⟨g, 0, none⟩)) (hy : a.eval y = .agg (sv l)) (W : World) (hb : Hid (Below W.heap.size W w1))
    (h : ∀ w', Hid (Blk w' g l) → Hid (Below W.heap.size W w') → Hid (Below w1.heap.size w1 w') → wpList Tryz.prog ops Q rest (a.put o.dst undef) w') : wpList Tryz.prog ops Q (o :: rest) a w := by
  subst hw; subst hg
  have hk := Blk.new w1 z64 z64_length
  have h1 : Below w1.heap.size w1 ((w1.alloc (.cells (sv z64) 92)).setRow w1.heap.size (sv l)) := below_row (below_alloc w1 _) (Nat.le_refl _) _
  refine wpList_store_row hgd 92 x y ho w1.heap.size (sv l) hx hy _ (sv z64) hk.1 (sv_info _ hl) (by rw [sv_size, sv_size, hl, z64_length]) (sv_one _) ?_
  exact h _ (hk.row hl) (chain hb.out h1) h1
theorem wpl_load_sec {w : World} {ops : Array Oper} {rest : List Oper} {o : Oper} {a : Act} {Q : Exit → Act → World → Prop} (hw : Region.wanted o (yielded ops a.tmps) = true) (x : Operand) (ho : o.op = .load 92 x)
    (g : Nat) (hx : a.eval x = .pointer (some ⟨g, 0, none⟩)) (zs : List Int) (hk : Blk w g zs) (h : wpList Tryz.prog ops Q rest (a.put o.dst (.agg (sv zs))) w) : wpList Tryz.prog ops Q (o :: rest) a w := by
  unfold wpList
  rw [if_pos hw]
  exact Or.inl (wp_load_row 92 x ho g hx _ (sv zs) (0, 0) _ hk.1 Tryz.underlying92 rfl (sv_info _ hk.2) h)
theorem u8_size1 : (Tryz.prog.info? 5).map (·.size) = some 1 := by kernel_rfl
theorem il_splice (k : IntKind) (l cs : List Int) (off : Nat) : splice (il k l) off (il k cs) = il k (splice l off cs) := by simp [splice, il]
theorem Blk.keepB {w w' : World} {b g : Nat} {c : List Int} (h : Blk w b c) (hb : Below g w w') (hlt : b < g) : Blk w' b c := ⟨by rw [hb.block b hlt]; exact h.1, h.2⟩
theorem Blk.ri {w : World} {g : Nat} {l : List Int} (h : Blk w g l) (m d c : Nat) (hm : m + d ≤ 64) (hc : d ≤ c) (hc2 : c ≤ 64) : RI .u8 w (.slice (some ⟨g, m, none⟩) d c) d ((l.drop m).take d) := by
  refine ⟨_, c, rfl, by simp [h.2]; omega, hc, by omega, fun h => by simp at h, fun _ => ⟨g, m, rfl, fun j hj => ?_⟩⟩
  rw [h.cell (m + j) (by omega)]
  simp only [List.getD, List.getElem?_take, hj, if_true, List.getElem?_drop]
theorem step_copy_sec {ops : Array Oper} {o : Oper} {a : Act} {w : World} {K : Act → World → Prop} {Q : Exit → Act → World → Prop} {E : Prop} (hgd : o.guard = none) (d s : Operand)
    (ho : o.op = .call { callee := .builtin .copy, args := #[d, s], argTypes := #[49, 49] }) (g off dLen dCap : Nat) (l : List Int) (hblk : Blk w g l)
    (hd : a.eval d = .slice (some ⟨g, off, none⟩) dLen dCap) (v : Value) (n : Nat) (zs : List Int) (hs : a.eval s = v) (hri : RI .u8 w v n zs) (hfit : off + dLen ≤ 64)
    (h : ∀ w', Hid (Blk w' g (splice l off (zs.take (min n dLen)))) → Below g w w' → K (a.put o.dst (goInt ((min n dLen : Nat) : Int))) w') :
    if Region.wanted o (yielded ops a.tmps) = true then Oper.wp Tryz.prog o a w K Q else E := by
  obtain ⟨sp, sCap, rfl, hl, _, _, _, hc⟩ := hri
  have hcl : (il .u8 (zs.take (min n dLen))).length = min n dLen := by rw [il_length]; simp; omega
  refine step_copy_splice hgd d s 49 49 ho 5 Tryz.underlying49 u8_size1 (some ⟨g, off, none⟩) sp dLen dCap n sCap hd hs g off (il .u8 l) 92 hblk.1 (il .u8 (zs.take (min n dLen))) hcl ?_ (by rw [hcl, il_length, hblk.2]; omega) (il_one _ _) g w (Below.refl _ _) (Nat.le_refl _) ?_
  · intro hp
    rw [hcl] at hp
    obtain ⟨b, of2, rfl, hcell⟩ := hc (by omega)
    refine ⟨rfl, _, rfl, fun j u hj => ?_⟩
    have hjl : j < min n dLen := by have := (List.getElem?_eq_some_iff.1 hj).1; rwa [hcl] at this
    rw [il_get _ _ _ (by simp; omega)] at hj
    have h2 := hcell j (by omega)
    have h3 : (zs.take (min n dLen)).getD j 0 = zs.getD j 0 := by simp only [List.getD, List.getElem?_take, hjl, if_true]
    rw [h3] at hj
    rw [← hj]
    by_cases h0 : j = 0
    · subst h0; simpa [Addr.add] using h2
    · simpa [Addr.add, h0] using h2
  · intro w' hg hb
    have e : goInt (il .u8 (zs.take (min n dLen))).length = goInt ((min n dLen : Nat) : Int) := by rw [hcl]
    rw [e]
    refine h w' ⟨?_, by rw [length_splice _ _ _ (by rw [hblk.2]; simp; omega)]; exact hblk.2⟩ hb
    have := hg.out
    rwa [il_splice] at this
theorem wpl_copy_sec {ops : Array Oper} {rest : List Oper} {o : Oper} {a : Act} {w : World} {Q : Exit → Act → World → Prop} (hgd : o.guard = none) (d s : Operand)
    (ho : o.op = .call { callee := .builtin .copy, args := #[d, s], argTypes := #[49, 49] }) (g off dLen dCap : Nat) (l : List Int) (hblk : Blk w g l)
    (hd : a.eval d = .slice (some ⟨g, off, none⟩) dLen dCap) (v : Value) (n : Nat) (zs : List Int) (hs : a.eval s = v) (hri : RI .u8 w v n zs) (hfit : off + dLen ≤ 64)
    (h : ∀ w', Hid (Blk w' g (splice l off (zs.take (min n dLen)))) → Below g w w' → wpList Tryz.prog ops Q rest (a.put o.dst (goInt ((min n dLen : Nat) : Int))) w') : wpList Tryz.prog ops Q (o :: rest) a w := by
  refine wpList_plain hgd fun K hK => ?_
  have h1 := step_copy_sec (ops := ops) (K := K) (Q := Q) (E := True) hgd d s ho g off dLen dCap l hblk hd v n zs hs hri hfit (fun w' h2 h3 => hK _ _ (h w' h2 h3))
  rwa [if_pos (by simp [Region.wanted, hgd])] at h1
theorem wpl_load_at {w : World} {ops : Array Oper} {rest : List Oper} {o : Oper} {a : Act} {Q : Exit → Act → World → Prop} (hgd : o.guard = none) (x : Operand) (ho : o.op = .load 92 x)
    (b off : Nat) (hx : a.eval x = .pointer (some ⟨b, off, none⟩)) (zs : List Int) (hk : At w b off zs) (h : wpList Tryz.prog ops Q rest (a.put o.dst (.agg (sv zs))) w) : wpList Tryz.prog ops Q (o :: rest) a w := by
  refine wpList_plain hgd fun K hK => ?_
  unfold Oper.wp
  rw [exec_load_at x ho hx hk]
  simp only [Oper.upon]
  exact hK _ _ h
theorem made_secs (n : Nat) : (madeCells (Value.agg (sv z64)).cells n).toList = il .u8 (List.replicate n 0) := by
  refine List.ext_getElem (by simp [madeCells, il]) fun j h1 h2 => ?_
  have hs : (Value.agg (sv z64)).cells = sv z64 := rfl
  have hj : j % 64 < (sv z64).size := by rw [sv_size, z64_length]; omega
  have hg : (sv z64)[j % (sv z64).size]! = .int .u8 0 := by
    have h3 := sv_get z64 (j % 64) (by rw [z64_length]; omega)
    have h4 : z64.getD (j % 64) 0 = 0 := by simp only [z64, List.getD, List.getElem?_replicate]; split <;> rfl
    rw [h4] at h3
    rw [sv_size, z64_length, getElem!_def, h3]
  simp only [madeCells, hs, il, Array.toList_map, List.getElem_map, List.getElem_replicate]
  simpa using hg
theorem RI.lit (w : World) (e : TypeId) (k : IntKind) (zs : List Int) (n : Nat) (hn : zs.length = n) (h63 : n ≤ 9223372036854775807) :
    RI k (w.alloc (.cells (il k zs).toArray e)) (.slice (some ⟨w.heap.size, 0, none⟩) n n) n zs := by
  refine ⟨_, n, rfl, hn, Nat.le_refl _, h63, fun h => by simp at h, fun _ => ⟨w.heap.size, 0, rfl, fun j hj => ?_⟩⟩
  have hg : (w.alloc (.cells (il k zs).toArray e)).heap[w.heap.size]? = some (.cells (il k zs).toArray e (0, 0)) := by
    show (w.heap.push _)[w.heap.size]? = _
    simp
  rw [Nat.zero_add, cell_of_row _ w.heap.size j _ e _ hg]
  simpa using il_get k zs j (by omega)
end Go.Proofs.YtnmplnemnfonfaaGreatDoor
namespace Go.Proofs.YtnmplnemnfonfaaGreatDoor
open Go.RowKit
def Kin (w w' : World) : Prop := ∀ (a : Addr) (v : Value), w.cell? a = some v → w'.cell? a = some v
theorem Kin.refl (w : World) : Kin w w := fun _ _ h => h
theorem Kin.trans {a b c : World} (h : Kin a b) (k : Kin b c) : Kin a c := fun x v hx => k x v (h x v hx)
theorem Kin.below {w w' : World} (h : Below w.heap.size w w') : Kin w w' := fun _ _ hx => cell_keep h hx
theorem RI.kin {k : IntKind} {w w' : World} (hb : Kin w w') {v : Value} {len : Nat} {zs : List Int} (h : RI k w v len zs) : RI k w' v len zs := by
  obtain ⟨a, cap, rfl, h1, h2, h3, h4, hc⟩ := h
  refine ⟨a, cap, rfl, h1, h2, h3, h4, fun h0 => ?_⟩
  obtain ⟨b, off, rfl, hcell⟩ := hc h0
  exact ⟨b, off, rfl, fun j hj => hb _ _ (hcell j hj)⟩
def CS (k : Nat) (w : World) (v : Value) (n : Nat) (cs : List Value) : Prop :=
  ∃ a cap, v = .slice a n cap ∧ cs.length = n * k ∧ n ≤ cap ∧ cap ≤ 9223372036854775807 ∧ (a = none → cap = 0) ∧
    (0 < n → ∃ b off, a = some ⟨b, off, none⟩ ∧ ∀ j, j < n * k → w.cell? ⟨b, off + j, none⟩ = cs[j]?)
theorem CS.length {k : Nat} {w : World} {v : Value} {n : Nat} {cs : List Value} (h : CS k w v n cs) : cs.length = n * k := h.choose_spec.choose_spec.2.1
theorem CS.le {k : Nat} {w : World} {v : Value} {n : Nat} {cs : List Value} (h : CS k w v n cs) : n ≤ 9223372036854775807 := by
  obtain ⟨_, _, _, _, h1, h2, _⟩ := h; omega
theorem CS.form {k : Nat} {w : World} {v : Value} {n : Nat} {cs : List Value} (h : CS k w v n cs) : ∃ a cap, v = .slice a n cap ∧ n ≤ cap ∧ cap ≤ 9223372036854775807 ∧ (a = none → cap = 0) := by
  obtain ⟨a, cap, h1, _, h2, h3, h4, _⟩ := h; exact ⟨a, cap, h1, h2, h3, h4⟩
theorem CS.nil (k : Nat) (w : World) : CS k w (.slice none 0 0) 0 [] := ⟨none, 0, rfl, by simp, Nat.le_refl _, by omega, fun _ => rfl, fun h => absurd h (by omega)⟩
theorem CS.kin {k : Nat} {w w' : World} (hb : Kin w w') {v : Value} {n : Nat} {cs : List Value} (h : CS k w v n cs) : CS k w' v n cs := by
  obtain ⟨a, cap, rfl, h1, h2, h3, h4, hc⟩ := h
  refine ⟨a, cap, rfl, h1, h2, h3, h4, fun h0 => ?_⟩
  obtain ⟨b, off, rfl, hcell⟩ := hc h0
  refine ⟨b, off, rfl, fun j hj => ?_⟩
  have hj2 : cs[j]? = some cs[j] := List.getElem?_eq_getElem (by omega)
  have := hcell j hj
  rw [hj2] at this ⊢
  exact hb _ _ this
theorem CS.own {w : World} {base k : Nat} {e : TypeId} {v : Value} {n : Nat} {cs : List Value} (h : w.ownsRow base e k v n cs) : CS k w v n cs := by
  have hl : cs.length = n * k := h.1
  rcases h.2 with ⟨rfl, rfl⟩ | ⟨g, cap, cur, rfl, _, _, hnc, hcm, _⟩
  · exact ⟨none, 0, rfl, hl, Nat.le_refl _, by omega, fun _ => rfl, fun h => absurd h (by omega)⟩
  · refine ⟨_, cap, rfl, hl, hnc, by unfold maxLen at hcm; omega, fun h => by simp at h, fun _ => ⟨g, 0, rfl, fun j hj => ?_⟩⟩
    rw [Nat.zero_add, h.cellAt j (by omega)]
theorem CS.at_ {k : Nat} {w : World} {a : Option Addr} {n cap : Nat} {cs : List Value} (h : CS k w (.slice a n cap) n cs) (i : Nat) (hi : i < n) :
    ∃ b off, a = some ⟨b, off, none⟩ ∧ ∀ j, j < k → w.cell? ⟨b, off + i * k + j, none⟩ = cs[i * k + j]? := by
  obtain ⟨a', cap', e, _, _, _, _, hc⟩ := h
  simp only [Value.slice.injEq, true_and] at e
  obtain ⟨rfl, rfl⟩ := e
  obtain ⟨b, off, rfl, hcell⟩ := hc (by omega)
  refine ⟨b, off, rfl, fun j hj => ?_⟩
  rw [Nat.add_assoc]
  refine hcell (i * k + j) ?_
  have : (i + 1) * k ≤ n * k := Nat.mul_le_mul_right k hi
  rw [Nat.add_mul, Nat.one_mul] at this
  omega
def BS (w : World) (v : Value) (n : Nat) (bs : List Bool) : Prop := CS 1 w v n (bs.map .bool)
theorem BS.length {w : World} {v : Value} {n : Nat} {bs : List Bool} (h : BS w v n bs) : bs.length = n := by have := CS.length h; simpa using this
theorem BS.kin {w w' : World} (hb : Kin w w') {v : Value} {n : Nat} {bs : List Bool} (h : BS w v n bs) : BS w' v n bs := CS.kin hb h
theorem BS.at_ {w : World} {a : Option Addr} {n cap : Nat} {bs : List Bool} (h : BS w (.slice a n cap) n bs) (i : Nat) (hi : i < n) :
    ∃ b off, a = some ⟨b, off, none⟩ ∧ w.cell? ⟨b, off + i, none⟩ = some (.bool (bs.getD i false)) := by
  obtain ⟨b, off, rfl, hc⟩ := CS.at_ h i hi
  refine ⟨b, off, rfl, ?_⟩
  have h1 := hc 0 (by omega)
  have hl := h.length
  have hi2 : i < bs.length := by omega
  simpa [hi2, List.getD] using h1
theorem flat_length (k : Nat) : ∀ es : List (List Value), (∀ e ∈ es, e.length = k) → es.flatten.length = es.length * k
  | [], _ => by simp
  | e :: es, h => by
    rw [List.flatten_cons, List.length_append, flat_length k es (fun x hx => h x (List.mem_cons_of_mem _ hx)), h e (List.mem_cons_self ..), List.length_cons, Nat.add_mul]; omega
theorem flat_get (k : Nat) : ∀ (es : List (List Value)) (i j : Nat), (∀ e ∈ es, e.length = k) → j < k → ∀ e, es[i]? = some e → es.flatten[i * k + j]? = e[j]?
  | [], i, j, _, _, e, he => by simp at he
  | a :: es, 0, j, h, hj, e, he => by
    simp at he; subst he
    rw [List.flatten_cons, Nat.zero_mul, Nat.zero_add, List.getElem?_append_left (by rw [h a (List.mem_cons_self ..)]; exact hj)]
  | a :: es, i + 1, j, h, hj, e, he => by
    have ha := h a (List.mem_cons_self ..)
    rw [List.flatten_cons, List.getElem?_append_right (by rw [ha, Nat.add_mul]; omega), ha, show (i + 1) * k + j - k = i * k + j from by rw [Nat.add_mul]; omega]
    exact flat_get k es i j (fun x hx => h x (List.mem_cons_of_mem _ hx)) hj e (by simpa using he)
end Go.Proofs.YtnmplnemnfonfaaGreatDoor
namespace Go.Proofs.YtnmplnemnfonfaaGreatDoor
open Go.RowKit Go.ChangeShapes Go.WideShapes
section
variable {H : Type} {enc : TypeId × Value → H} {P : Program} {W : World} {t e : TypeId} {k : IntKind}
theorem rdc_struct {cs : List Value} {d : DataW H} {fs : Array Field} (ht : P.underlying t = some (.struct fs)) (h : RdC enc P W t cs d) :
    ∃ ds : List (DataW H), d = .agg ds ∧ ds.length = fs.size ∧ cs.length = P.cellsOf t ∧ ∀ (i : Nat) (f : Field) (x : DataW H), fs[i]? = some f → ds[i]? = some x → RdC enc P W f.type ((cs.drop f.offset).take (P.cellsOf f.type)) x := by
  obtain ⟨f, p, hf⟩ := h
  obtain ⟨xs, n, _, hx, hl, hn, hel⟩ := DataW.trod_struct ht hf
  refine ⟨xs.map (·.1), congrArg Prod.fst hx, by simp [hn], hl, fun i f x hi hx => ?_⟩
  have h1 := hel i f hi
  rw [List.getElem?_map] at hx
  simp only [Option.map_eq_some_iff] at hx
  obtain ⟨y, hy, rfl⟩ := hx
  exact ⟨n, y.2, by rw [h1, hy]⟩
theorem rdc_slice {k : Nat} {cs : List Value} {d : DataW H} (ht : P.underlying t = some (.slice e)) (hk : P.cellsOf e = k) (hk0 : 0 < k) (h : RdC enc P W t cs d) :
    ∃ (v : Value) (n : Nat) (es : List (List Value)) (ds : List (DataW H)), cs = [v] ∧ CS k W v n es.flatten ∧ es.length = n ∧ ds.length = n ∧ (∀ c ∈ es, c.length = k) ∧
      (∀ (i : Nat) (c : List Value) (x : DataW H), es[i]? = some c → ds[i]? = some x → RdC enc P W e c x) ∧ (n = 0 ∨ ∃ rest, d = .slice ds rest) := by
  obtain ⟨f, p, hf⟩ := h
  rcases DataW.trod_slice ht hf with ⟨rfl, _⟩ | ⟨a, len, cap, elems, rest, m, _, rfl, hx, _, hl, hm, hlen, hel, _, _⟩
  · exact ⟨_, 0, [], [], rfl, CS.nil k W, rfl, rfl, fun c hc => by simp at hc, fun i c x hc => by simp at hc, .inl rfl⟩
  · rw [hk] at hel
    have hall : ∀ i, i < len → ∃ c y, elems[i]? = some y ∧ c.length = k ∧ (∀ j, j < k → W.cell? ((a.add (i * k)).add j) = c[j]?) ∧ DataW.trod enc P W 0 (fun _ => true) true m e c = some y := fun i hi => by
      have h1 := hel i hi
      rw [List.getElem?_eq_getElem (by omega)] at h1
      obtain ⟨c, h2, h3⟩ := Option.bind_eq_some_iff.1 h1
      obtain ⟨_, h4, h5⟩ := World.cells?_some h2
      exact ⟨c, _, List.getElem?_eq_getElem (by omega), h4, h5, h3⟩
    let ce : Nat → List Value := fun i => if h : i < len then (hall i h).choose else []
    have hce : ∀ i (h : i < len), ∃ y, elems[i]? = some y ∧ (ce i).length = k ∧ (∀ j, j < k → W.cell? ((a.add (i * k)).add j) = (ce i)[j]?) ∧ DataW.trod enc P W 0 (fun _ => true) true m e (ce i) = some y := fun i h => by
      show ∃ y, _
      simp only [ce, dif_pos h]
      exact (hall i h).choose_spec
    have hcl : ∀ c ∈ (List.range len).map ce, c.length = k := by
      intro c hc
      obtain ⟨i, hi, rfl⟩ := List.mem_map.1 hc
      obtain ⟨y, _, h1, _⟩ := hce i (by simpa using hi)
      exact h1
    refine ⟨_, len, (List.range len).map ce, elems.map (·.1), rfl, ⟨some a, cap, rfl, ?_, hl, by unfold maxLen at hm; omega, fun h => by simp at h, fun h0 => ?_⟩, by simp, by simp [hlen], hcl, ?_, .inr ⟨_, congrArg Prod.fst hx⟩⟩
    · rw [flat_length k _ hcl]; simp
    · obtain ⟨y, _, h1, h2, _⟩ := hce 0 h0
      have h3 := h2 0 hk0
      rw [List.getElem?_eq_getElem (by omega)] at h3
      have hs := World.cell?_spot h3
      obtain ⟨b, off, spot⟩ := a
      have hspot : spot = none := by simpa [Addr.add] using hs
      subst hspot
      refine ⟨b, off, rfl, fun j hj => ?_⟩
      have hjk : j / k < len := (Nat.div_lt_iff_lt_mul hk0).2 hj
      obtain ⟨y, _, h4, h5, _⟩ := hce (j / k) hjk
      have h6 := h5 (j % k) (Nat.mod_lt _ hk0)
      have h7 := flat_get k ((List.range len).map ce) (j / k) (j % k) hcl (Nat.mod_lt _ hk0) (ce (j / k)) (by simp [hjk])
      rw [Nat.div_add_mod' j k] at h7
      rw [h7, ← h6, Go.WideShapes.add_plain, Go.WideShapes.add_plain, Nat.add_assoc, Nat.div_add_mod' j k]
    · intro i c x hc hx
      have hi : i < len := by have := (List.getElem?_eq_some_iff.1 hc).1; simpa using this
      obtain ⟨y, h1, _, _, h2⟩ := hce i hi
      have e1 : c = ce i := by
        rw [List.getElem?_map, List.getElem?_range hi] at hc
        exact (Option.some.inj hc).symm
      rw [List.getElem?_map, h1] at hx
      have e2 : y.1 = x := Option.some.inj hx
      subst e1; subst e2
      exact ⟨m, y.2, h2⟩
def Rch (P : Program) (t : TypeId) (d : DataW H) : Prop := ∀ n ∈ d.weights P t, n ≤ reachBytes
theorem weightsAll_mem : ∀ {ds : List (DataW H)} {x : DataW H}, x ∈ ds → ∀ n ∈ x.weights P e, n ∈ DataW.weightsAll P e ds
  | d :: r, x, hx, n, hn => by
    simp only [DataW.weightsAll, List.mem_append]
    rcases List.mem_cons.1 hx with rfl | hx
    · exact .inl hn
    · exact .inr (weightsAll_mem hx n hn)
theorem Rch.elem {ds rest : List (DataW H)} (ht : P.underlying t = some (.slice e)) (h : Rch P t (.slice ds rest)) {x : DataW H} (hx : x ∈ ds) : Rch P e x := fun n hn =>
  h n (by simp only [DataW.weights, ht]; exact List.mem_cons_of_mem _ (List.mem_append_left _ (weightsAll_mem hx n hn)))
theorem Rch.field {ds : List (DataW H)} {fs : Array Field} (ht : P.underlying t = some (.struct fs)) (h : Rch P t (.agg ds)) {i : Nat} {f : Field} {x : DataW H} (hf : fs[i]? = some f) (hx : ds[i]? = some x) : Rch P f.type x := fun n hn =>
  h n (by simp only [DataW.weights, ht]; exact DataW.weights_mem_each (j := i) (by simp [hf]) hx n hn)
end
end Go.Proofs.YtnmplnemnfonfaaGreatDoor
namespace Go.Proofs.YtnmplnemnfonfaaGreatDoor
open Go.RowKit Go.ChangeShapes Go.WideShapes
section
variable {H : Type} {enc : TypeId × Value → H} {W : World}
theorem i63_wf {n : Int} (h : (Lit.int .i64 n).wf = true) : I63 n := by
  unfold I63; simp [Lit.wf, IntKind.min, IntKind.max, IntKind.signed, IntKind.bits] at h; omega
theorem c_bytes : Tryz.prog.cellsOf 49 = 1 := by kernel_rfl
theorem c_u8 : Tryz.prog.cellsOf 5 = 1 := by kernel_rfl
set_option maxRecDepth 8000 in
theorem rdc_bytes {cs : List Value} {d : DataW H} (h : RdC enc Tryz.prog W 49 cs d) : ∃ v len zs, cs = [v] ∧ RI .u8 W v len zs ∧ Bytes zs := by
  obtain ⟨a, len, cap, zs, h1, h2, _⟩ := rdc_ints Tryz.underlying49 Tryz.underlying5 c_u8 h
  exact ⟨_, len, _, h1, IRow.ri h2, IRow.bytes h2⟩
theorem FS.cs {v : Value} {n : Nat} {fs : List Int} (h : CS 64 W v n (il .u8 fs)) : FS W v n fs := by
  obtain ⟨a, cap, rfl, h1, h2, h3, h4, hc⟩ := h
  rw [il_length] at h1
  refine ⟨a, cap, rfl, h1, h2, h3, h4, fun h0 => ?_⟩
  obtain ⟨b, off, rfl, hcell⟩ := hc h0
  exact ⟨b, off, rfl, fun j hj => by rw [hcell j hj, il_get _ _ _ (by omega)]⟩
end
end Go.Proofs.YtnmplnemnfonfaaGreatDoor
