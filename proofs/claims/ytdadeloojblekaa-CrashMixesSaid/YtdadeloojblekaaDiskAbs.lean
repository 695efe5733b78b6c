/-
  LAYER 8 (disk): what a disk is (plain mathematics: files by rising names, each with what is lasting, what is seen and which sectors wait), and where the document's own disk, a value, tells one (RD). No condition.
-/
import Derived.Test.YtdadeloojblekaaView
namespace Go.Proofs.Ytdadeloojblekaa
open Go.RowKit
/-- a file: its name, how many sectors, what is lasting, what is seen (all bytes), which wait -/
structure AF where
  name : ByteArray
  n : Nat
  las : List Int
  seen : List Int
  ws : List Bool
/-- a disk -/
structure AD where
  L : List AF
  cap : Int
  ops : Int
  down : Bool
  told : Bool
  after : Int
/-- n more than m, of names -/
def gtN (n m : ByteArray) : Bool := !(Op.bytesLess n.toList m.toList || n.toList == m.toList)
theorem eqN (n m : ByteArray) : (n.toList == m.toList) = decide (n = m) := by
  by_cases h : n = m
  · subst h; simp
  · rw [str_ne h]; simp [h]
theorem gtr_run {P : Program} (t : TypeId) (a b : ByteArray) (w : World) : (binOp .gtr t (.string a) (.string b)).run P w = .ok (.bool (gtN a b)) w := by
  simp [binOp, Op.stringOp, gtN]
/-- how many sectors all files have -/
def usedN (L : List AF) : Nat := (L.map AF.n).sum
/-- how many wait -/
def waitsN (bs : List Bool) : Nat := (bs.filter id).length
def waitingN (L : List AF) : Nat := (L.map fun f => waitsN f.ws).sum
/-- the place of the first file of that name -/
def idxN (L : List AF) (s : ByteArray) : Nat := L.findIdx fun f => decide (f.name = s)
/-- .. as it is told -/
def findI (L : List AF) (s : ByteArray) : Int := if idxN L s < L.length then (idxN L s : Int) else -1
def withoutF (L : List AF) (s : ByteArray) : List AF := L.filter fun f => !decide (f.name = s)
def insK (L : List AF) (f : AF) : Nat := L.findIdx fun g => gtN g.name f.name
def insF (L : List AF) (f : AF) : List AF := L.take (insK L f) ++ f :: L.drop (insK L f)
def AD.without (d : AD) (s : ByteArray) : AD := { d with L := withoutF d.L s }
def AD.withF (d : AD) (f : AF) : AD := { d with L := insF (withoutF d.L f.name) f }
/-- in w these four cells tell the file -/
def RF (w : World) (e : List Value) (f : AF) : Prop :=
  ∃ v1 v2 v3, e = [.string f.name, v1, v2, v3] ∧ FS w v1 f.n f.las ∧ FS w v2 f.n f.seen ∧ BS w v3 f.n f.ws
theorem RF.kin {w w' : World} (hb : Kin w w') {e : List Value} {f : AF} (h : RF w e f) : RF w' e f := by
  obtain ⟨v1, v2, v3, he, h1, h2, h3⟩ := h
  exact ⟨v1, v2, v3, he, h1.kin hb, h2.kin hb, h3.kin hb⟩
theorem RF.length {w : World} {e : List Value} {f : AF} (h : RF w e f) : e.length = 4 := by obtain ⟨v1, v2, v3, rfl, _⟩ := h; rfl
/-- element by element -/
def RFs (w : World) (es : List (List Value)) (L : List AF) : Prop := es.length = L.length ∧ ∀ (i : Nat) (e : List Value) (f : AF), es[i]? = some e → L[i]? = some f → RF w e f
theorem RFs.kin {w w' : World} (hb : Kin w w') {es : List (List Value)} {L : List AF} (h : RFs w es L) : RFs w' es L := ⟨h.1, fun i e f he hf => (h.2 i e f he hf).kin hb⟩
theorem RFs.nil (w : World) : RFs w [] [] := ⟨rfl, fun i e f he => by simp at he⟩
theorem RFs.at_ {w : World} {es : List (List Value)} {L : List AF} (h : RFs w es L) (i : Nat) (hi : i < L.length) : ∃ e, es[i]? = some e ∧ RF w e L[i] := by
  have hi2 : i < es.length := by rw [h.1]; exact hi
  exact ⟨es[i], List.getElem?_eq_getElem hi2, h.2 i _ _ (List.getElem?_eq_getElem hi2) (List.getElem?_eq_getElem hi)⟩
theorem RFs.snoc {w : World} {es : List (List Value)} {L : List AF} {e : List Value} {f : AF} (h : RFs w es L) (hf : RF w e f) : RFs w (es ++ [e]) (L ++ [f]) := by
  refine ⟨by simp [h.1], fun i e' f' he hf' => ?_⟩
  by_cases hi : i < L.length
  · rw [List.getElem?_append_left (by rw [h.1]; exact hi)] at he
    rw [List.getElem?_append_left hi] at hf'
    exact h.2 i _ _ he hf'
  · have hl := h.1
    rw [List.getElem?_append_right (by omega)] at he hf'
    have hi0 : i - L.length = 0 := by
      have := (List.getElem?_eq_some_iff.1 hf').1; simp at this; omega
    rw [hl, hi0] at he
    rw [hi0] at hf'
    simp at he hf'
    subst he; subst hf'
    exact hf
theorem RFs.lengths {w : World} {es : List (List Value)} {L : List AF} (h : RFs w es L) : ∀ e ∈ es, e.length = 4 := by
  intro e he
  obtain ⟨i, hi, rfl⟩ := List.getElem_of_mem he
  have hi2 : i < L.length := by rw [← h.1]; exact hi
  exact (h.2 i _ _ (List.getElem?_eq_getElem hi) (List.getElem?_eq_getElem hi2)).length
theorem flat_length (k : Nat) : ∀ es : List (List Value), (∀ e ∈ es, e.length = k) → es.flatten.length = es.length * k
  | [], _ => by simp
  | e :: es, h => by
    rw [List.flatten_cons, List.length_append, flat_length k es (fun x hx => h x (List.mem_cons_of_mem _ hx)), h e (List.mem_cons_self ..), List.length_cons, Nat.add_mul]; omega
theorem flat_get (k : Nat) : ∀ (es : List (List Value)) (i j : Nat), (∀ e ∈ es, e.length = k) → j < k → ∀ e, es[i]? = some e → es.flatten[i * k + j]? = e[j]?
  | [], i, j, _, _, e, he => by simp at he
  | a :: es, 0, j, h, hj, e, he => by
    simp at he; subst he
    rw [List.flatten_cons, Nat.zero_mul, Nat.zero_add, List.getElem?_append_left (by rw [h a (List.mem_cons_self ..)]; exact hj)]
  | a :: es, i + 1, j, h, hj, e, he => by
    have ha := h a (List.mem_cons_self ..)
    rw [List.flatten_cons, List.getElem?_append_right (by rw [ha, Nat.add_mul]; omega), ha, show (i + 1) * k + j - k = i * k + j from by rw [Nat.add_mul]; omega]
    exact flat_get k es i j (fun x hx => h x (List.mem_cons_of_mem _ hx)) hj e (by simpa using he)
/-- a slice of files -/
def FLs (w : World) (v : Value) (L : List AF) : Prop := ∃ es, CS 4 w v L.length es.flatten ∧ RFs w es L
theorem FLs.kin {w w' : World} (hb : Kin w w') {v : Value} {L : List AF} (h : FLs w v L) : FLs w' v L := by obtain ⟨es, h1, h2⟩ := h; exact ⟨es, h1.kin hb, h2.kin hb⟩
theorem FLs.nil (w : World) : FLs w (.slice none 0 0) [] := ⟨[], CS.nil 4 w, RFs.nil w⟩
theorem FLs.form {w : World} {v : Value} {L : List AF} (h : FLs w v L) : ∃ a cap, v = .slice a L.length cap ∧ L.length ≤ cap ∧ cap ≤ 9223372036854775807 ∧ (a = none → cap = 0) := h.choose_spec.1.form
theorem FLs.le {w : World} {v : Value} {L : List AF} (h : FLs w v L) : L.length ≤ 9223372036854775807 := h.choose_spec.1.le
/-- where a file lies, and its four cells -/
theorem FLs.at_ {w : World} {a : Option Addr} {n cap : Nat} {L : List AF} (h : FLs w (.slice a n cap) L) (i : Nat) (f : AF) (hf : L[i]? = some f) :
    ∃ b off v1 v2 v3, a = some ⟨b, off, none⟩ ∧ w.cell? ⟨b, off + i * 4, none⟩ = some (.string f.name) ∧ w.cell? ⟨b, off + i * 4 + 1, none⟩ = some v1 ∧ w.cell? ⟨b, off + i * 4 + 2, none⟩ = some v2 ∧ w.cell? ⟨b, off + i * 4 + 3, none⟩ = some v3 ∧
      FS w v1 f.n f.las ∧ FS w v2 f.n f.seen ∧ BS w v3 f.n f.ws := by
  obtain ⟨es, h1, h2⟩ := h
  obtain ⟨hi, rfl⟩ := List.getElem?_eq_some_iff.1 hf
  obtain ⟨e, he, v1, v2, v3, rfl, hf1, hf2, hf3⟩ := h2.at_ i hi
  have hn : n = L.length := by obtain ⟨_, _, hv, _⟩ := h1; simp at hv; exact hv.2.1
  subst hn
  obtain ⟨b, off, rfl, hc⟩ := h1.at_ i hi
  have hg := fun j hj => (hc j hj).trans (flat_get 4 es i j h2.lengths hj _ he)
  exact ⟨b, off, v1, v2, v3, rfl, by simpa using hg 0 (by omega), by simpa using hg 1 (by omega), by simpa using hg 2 (by omega), by simpa using hg 3 (by omega), hf1, hf2, hf3⟩
/-- the document's disk -/
def dv (vl : Value) (d : AD) : Value := .agg #[vl, .int .i64 d.cap, .int .i64 d.ops, .bool d.down, .bool d.told, .int .i64 d.after]
def RD (w : World) (v : Value) (d : AD) : Prop := ∃ vl, v = dv vl d ∧ FLs w vl d.L
theorem RD.kin {w w' : World} (hb : Kin w w') {v : Value} {d : AD} (h : RD w v d) : RD w' v d := by obtain ⟨vl, h1, h2⟩ := h; exact ⟨vl, h1, h2.kin hb⟩
/-! places and names -/
/-- Find tells a number below 0, or the place of the first file of that name -/
theorem findI_at (L : List AF) (s : ByteArray) (i : Nat) (f : AF) (hf : L[i]? = some f) (hs : f.name = s) (hn : ∀ (j : Nat) (g : AF), j < i → L[j]? = some g → g.name ≠ s) : findI L s = (i : Int) := by
  obtain ⟨hi, rfl⟩ := List.getElem?_eq_some_iff.1 hf
  have : idxN L s = i := by
    rcases Nat.lt_trichotomy (idxN L s) i with h1 | h1 | h1
    · have h2 : idxN L s < L.length := by omega
      exact absurd (of_decide_eq_true (List.findIdx_getElem (p := fun f : AF => decide (f.name = s)) (xs := L) (w := h2))) (hn _ _ h1 (List.getElem?_eq_getElem h2))
    · exact h1
    · have := List.not_of_lt_findIdx (p := fun f : AF => decide (f.name = s)) (xs := L) h1
      simp [hs] at this
  unfold findI; rw [this, if_pos hi]
theorem findI_not (L : List AF) (s : ByteArray) (hn : ∀ (j : Nat) (g : AF), j < L.length → L[j]? = some g → g.name ≠ s) : findI L s = -1 := by
  unfold findI
  by_cases h : idxN L s < L.length
  · exact absurd (of_decide_eq_true (List.findIdx_getElem (p := fun f : AF => decide (f.name = s)) (xs := L) (w := h))) (hn _ _ h (List.getElem?_eq_getElem h))
  · rw [if_neg h]
theorem idxN_le (L : List AF) (s : ByteArray) : idxN L s ≤ L.length := List.findIdx_le_length
theorem idxN_at (L : List AF) (s : ByteArray) (h : idxN L s < L.length) : (L[idxN L s]).name = s :=
  of_decide_eq_true (List.findIdx_getElem (p := fun f : AF => decide (f.name = s)) (xs := L) (w := h))
theorem idxN_not (L : List AF) (s : ByteArray) (j : Nat) (h : j < idxN L s) : (L[j]'(Nat.lt_of_lt_of_le h (idxN_le L s))).name ≠ s := by
  have := List.not_of_lt_findIdx (p := fun f : AF => decide (f.name = s)) (xs := L) h
  simpa using this
theorem insK_le (L : List AF) (f : AF) : insK L f ≤ L.length := List.findIdx_le_length
theorem insK_at (L : List AF) (f : AF) (h : insK L f < L.length) : gtN (L[insK L f]).name f.name = true :=
  List.findIdx_getElem (p := fun g : AF => gtN g.name f.name) (xs := L) (w := h)
theorem insK_not (L : List AF) (f : AF) (j : Nat) (h : j < insK L f) : gtN (L[j]'(Nat.lt_of_lt_of_le h (insK_le L f))).name f.name = false := by
  have := List.not_of_lt_findIdx (p := fun g : AF => gtN g.name f.name) (xs := L) h
  simpa using this
theorem row_some {α : Type} {L : List α} {i : Nat} (h : i < L.length) : ∃ f, L[i]? = some f := ⟨_, List.getElem?_eq_getElem h⟩
theorem usedN_take (L : List AF) (i : Nat) (f : AF) (h : L[i]? = some f) : usedN (L.take (i + 1)) = usedN (L.take i) + f.n := by
  obtain ⟨hi, rfl⟩ := List.getElem?_eq_some_iff.1 h
  unfold usedN
  rw [List.take_succ_eq_append_getElem hi, List.map_append, List.sum_append]; simp
theorem waitingN_take (L : List AF) (i : Nat) (f : AF) (h : L[i]? = some f) : waitingN (L.take (i + 1)) = waitingN (L.take i) + waitsN f.ws := by
  obtain ⟨hi, rfl⟩ := List.getElem?_eq_some_iff.1 h
  unfold waitingN
  rw [List.take_succ_eq_append_getElem hi, List.map_append, List.sum_append]; simp
theorem waitingN_le (L : List AF) (i : Nat) : waitingN (L.take i) ≤ waitingN L := by
  have h : waitingN L = waitingN (L.take i) + waitingN (L.drop i) := by
    unfold waitingN; rw [← List.sum_append, ← List.map_append, List.take_append_drop]
  omega
theorem waitsN_take (bs : List Bool) (i : Nat) (h : i < bs.length) : waitsN (bs.take (i + 1)) = waitsN (bs.take i) + (if bs.getD i false then 1 else 0) := by
  unfold waitsN
  rw [List.take_succ_eq_append_getElem h, List.filter_append, List.length_append]
  simp only [List.getD, List.getElem?_eq_getElem h, Option.getD_some]
  cases bs[i] <;> simp
theorem waitsN_le (bs : List Bool) (i : Nat) : waitsN (bs.take i) ≤ waitsN bs := by
  have h : waitsN bs = waitsN (bs.take i) + waitsN (bs.drop i) := by
    unfold waitsN; rw [← List.length_append, ← List.filter_append, List.take_append_drop]
  omega
theorem waitsN_len (bs : List Bool) : waitsN bs ≤ bs.length := List.length_filter_le ..
theorem usedN_le (L : List AF) (i : Nat) : usedN (L.take i) ≤ usedN L := by
  have h : usedN L = usedN (L.take i) + usedN (L.drop i) := by
    unfold usedN; rw [← List.sum_append, ← List.map_append, List.take_append_drop]
  omega
end Go.Proofs.Ytdadeloojblekaa
