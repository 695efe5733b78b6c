/-
  TEXTS JOINED: DiskAbs, Below, DiskRef, Keep, Slices, DiskRow, DiskWith. Each one's own words stand at its head.
-/
import Derived.Test.YtpoiapfgbbmekaaGreatDoorJ0
import Derived.Deep.WholeRow
import Derived.Lib.SmallJoins
import Derived.Deep.Slices
namespace Go.Proofs.YtpoiapfgbbmekaaGreatDoor
open Go.RowKit
structure AF where
  name : ByteArray
  n : Nat
  las : List Int
  seen : List Int
  ws : List Bool
structure AD where
  L : List AF
  cap : Int
  ops : Int
  down : Bool
  told : Bool
  after : Int
theorem eqN (n m : ByteArray) : (n.toList == m.toList) = decide (n = m) := by
  by_cases h : n = m
  · subst h; simp
  · rw [str_ne h]; simp [h]
def usedN (L : List AF) : Nat := (L.map AF.n).sum
def waitsN (bs : List Bool) : Nat := (bs.filter id).length
def waitingN (L : List AF) : Nat := (L.map fun f => waitsN f.ws).sum
def idxN (L : List AF) (s : ByteArray) : Nat := L.findIdx fun f => decide (f.name = s)
def findI (L : List AF) (s : ByteArray) : Int := if idxN L s < L.length then (idxN L s : Int) else -1
def withoutF (L : List AF) (s : ByteArray) : List AF := L.filter fun f => !decide (f.name = s)
def insK (L : List AF) (f : AF) : Nat := L.findIdx fun g => gtN g.name f.name
def insF (L : List AF) (f : AF) : List AF := L.take (insK L f) ++ f :: L.drop (insK L f)
def AD.without (d : AD) (s : ByteArray) : AD := { d with L := withoutF d.L s }
def AD.withF (d : AD) (f : AF) : AD := { d with L := insF (withoutF d.L f.name) f }
def RF (w : World) (e : List Value) (f : AF) : Prop :=
  ∃ v1 v2 v3, e = [.string f.name, v1, v2, v3] ∧ FS w v1 f.n f.las ∧ FS w v2 f.n f.seen ∧ BS w v3 f.n f.ws
theorem RF.kin {w w' : World} (hb : Kin w w') {e : List Value} {f : AF} (h : RF w e f) : RF w' e f := by
  obtain ⟨v1, v2, v3, he, h1, h2, h3⟩ := h
  exact ⟨v1, v2, v3, he, h1.kin hb, h2.kin hb, h3.kin hb⟩
theorem RF.length {w : World} {e : List Value} {f : AF} (h : RF w e f) : e.length = 4 := by obtain ⟨v1, v2, v3, rfl, _⟩ := h; rfl
def RFs (w : World) (es : List (List Value)) (L : List AF) : Prop := es.length = L.length ∧ ∀ (i : Nat) (e : List Value) (f : AF), es[i]? = some e → L[i]? = some f → RF w e f
theorem RFs.kin {w w' : World} (hb : Kin w w') {es : List (List Value)} {L : List AF} (h : RFs w es L) : RFs w' es L := ⟨h.1, fun i e f he hf => (h.2 i e f he hf).kin hb⟩
theorem RFs.nil (w : World) : RFs w [] [] := ⟨rfl, fun i e f he => by simp at he⟩
theorem RFs.at_ {w : World} {es : List (List Value)} {L : List AF} (h : RFs w es L) (i : Nat) (hi : i < L.length) : ∃ e, es[i]? = some e ∧ RF w e L[i] := by
  have hi2 : i < es.length := by rw [h.1]; exact hi
  exact ⟨es[i], List.getElem?_eq_getElem hi2, h.2 i _ _ (List.getElem?_eq_getElem hi2) (List.getElem?_eq_getElem hi)⟩
theorem RFs.snoc {w : World} {es : List (List Value)} {L : List AF} {e : List Value} {f : AF} (h : RFs w es L) (hf : RF w e f) : RFs w (es ++ [e]) (L ++ [f]) := by
  refine ⟨by simp [h.1], fun i e' f' he hf' => ?_⟩
  by_cases hi : i < L.length
  · rw [List.getElem?_append_left (by rw [h.1]; exact hi)] at he
    rw [List.getElem?_append_left hi] at hf'
    exact h.2 i _ _ he hf'
  · have hl := h.1
    rw [List.getElem?_append_right (by omega)] at he hf'
    have hi0 : i - L.length = 0 := by
      have := (List.getElem?_eq_some_iff.1 hf').1; simp at this; omega
    rw [hl, hi0] at he
    rw [hi0] at hf'
    simp at he hf'
    subst he; subst hf'
    exact hf
theorem RFs.lengths {w : World} {es : List (List Value)} {L : List AF} (h : RFs w es L) : ∀ e ∈ es, e.length = 4 := by
  intro e he
  obtain ⟨i, hi, rfl⟩ := List.getElem_of_mem he
  have hi2 : i < L.length := by rw [← h.1]; exact hi
  exact (h.2 i _ _ (List.getElem?_eq_getElem hi) (List.getElem?_eq_getElem hi2)).length
def FLs (w : World) (v : Value) (L : List AF) : Prop := ∃ es, CS 4 w v L.length es.flatten ∧ RFs w es L
theorem FLs.kin {w w' : World} (hb : Kin w w') {v : Value} {L : List AF} (h : FLs w v L) : FLs w' v L := by obtain ⟨es, h1, h2⟩ := h; exact ⟨es, h1.kin hb, h2.kin hb⟩
theorem FLs.nil (w : World) : FLs w (.slice none 0 0) [] := ⟨[], CS.nil 4 w, RFs.nil w⟩
theorem FLs.form {w : World} {v : Value} {L : List AF} (h : FLs w v L) : ∃ a cap, v = .slice a L.length cap ∧ L.length ≤ cap ∧ cap ≤ 9223372036854775807 ∧ (a = none → cap = 0) := h.choose_spec.1.form
theorem FLs.le {w : World} {v : Value} {L : List AF} (h : FLs w v L) : L.length ≤ 9223372036854775807 := h.choose_spec.1.le
theorem FLs.at_ {w : World} {a : Option Addr} {n cap : Nat} {L : List AF} (h : FLs w (.slice a n cap) L) (i : Nat) (f : AF) (hf : L[i]? = some f) :
    ∃ b off v1 v2 v3, a = some ⟨b, off, none⟩ ∧ w.cell? ⟨b, off + i * 4, none⟩ = some (.string f.name) ∧ w.cell? ⟨b, off + i * 4 + 1, none⟩ = some v1 ∧ w.cell? ⟨b, off + i * 4 + 2, none⟩ = some v2 ∧ w.cell? ⟨b, off + i * 4 + 3, none⟩ = some v3 ∧
      FS w v1 f.n f.las ∧ FS w v2 f.n f.seen ∧ BS w v3 f.n f.ws := by
  obtain ⟨es, h1, h2⟩ := h
  obtain ⟨hi, rfl⟩ := List.getElem?_eq_some_iff.1 hf
  obtain ⟨e, he, v1, v2, v3, rfl, hf1, hf2, hf3⟩ := h2.at_ i hi
  have hn : n = L.length := by obtain ⟨_, _, hv, _⟩ := h1; simp at hv; exact hv.2.1
  subst hn
  obtain ⟨b, off, rfl, hc⟩ := h1.at_ i hi
  have hg := fun j hj => (hc j hj).trans (flat_get 4 es i j h2.lengths hj _ he)
  exact ⟨b, off, v1, v2, v3, rfl, by simpa using hg 0 (by omega), by simpa using hg 1 (by omega), by simpa using hg 2 (by omega), by simpa using hg 3 (by omega), hf1, hf2, hf3⟩
def dv (vl : Value) (d : AD) : Value := .agg #[vl, .int .i64 d.cap, .int .i64 d.ops, .bool d.down, .bool d.told, .int .i64 d.after]
def RD (w : World) (v : Value) (d : AD) : Prop := ∃ vl, v = dv vl d ∧ FLs w vl d.L
theorem RD.kin {w w' : World} (hb : Kin w w') {v : Value} {d : AD} (h : RD w v d) : RD w' v d := by obtain ⟨vl, h1, h2⟩ := h; exact ⟨vl, h1, h2.kin hb⟩
theorem findI_at (L : List AF) (s : ByteArray) (i : Nat) (f : AF) (hf : L[i]? = some f) (hs : f.name = s) (hn : ∀ (j : Nat) (g : AF), j < i → L[j]? = some g → g.name ≠ s) : findI L s = (i : Int) := by
  obtain ⟨hi, rfl⟩ := List.getElem?_eq_some_iff.1 hf
  have : idxN L s = i := by
    rcases Nat.lt_trichotomy (idxN L s) i with h1 | h1 | h1
    · have h2 : idxN L s < L.length := by omega
      exact absurd (of_decide_eq_true (List.findIdx_getElem (p := fun f : AF => decide (f.name = s)) (xs := L) (w := h2))) (hn _ _ h1 (List.getElem?_eq_getElem h2))
    · exact h1
    · have := List.not_of_lt_findIdx (p := fun f : AF => decide (f.name = s)) (xs := L) h1
      simp [hs] at this
  unfold findI; rw [this, if_pos hi]
theorem findI_not (L : List AF) (s : ByteArray) (hn : ∀ (j : Nat) (g : AF), j < L.length → L[j]? = some g → g.name ≠ s) : findI L s = -1 := by
  unfold findI
  by_cases h : idxN L s < L.length
  · exact absurd (of_decide_eq_true (List.findIdx_getElem (p := fun f : AF => decide (f.name = s)) (xs := L) (w := h))) (hn _ _ h (List.getElem?_eq_getElem h))
  · rw [if_neg h]
theorem insK_le (L : List AF) (f : AF) : insK L f ≤ L.length := List.findIdx_le_length
theorem insK_at (L : List AF) (f : AF) (h : insK L f < L.length) : gtN (L[insK L f]).name f.name = true :=
  List.findIdx_getElem (p := fun g : AF => gtN g.name f.name) (xs := L) (w := h)
theorem insK_not (L : List AF) (f : AF) (j : Nat) (h : j < insK L f) : gtN (L[j]'(Nat.lt_of_lt_of_le h (insK_le L f))).name f.name = false := by
  have := List.not_of_lt_findIdx (p := fun g : AF => gtN g.name f.name) (xs := L) h
  simpa using this
theorem row_some {α : Type} {L : List α} {i : Nat} (h : i < L.length) : ∃ f, L[i]? = some f := ⟨_, List.getElem?_eq_getElem h⟩
theorem usedN_take (L : List AF) (i : Nat) (f : AF) (h : L[i]? = some f) : usedN (L.take (i + 1)) = usedN (L.take i) + f.n := by
  obtain ⟨hi, rfl⟩ := List.getElem?_eq_some_iff.1 h
  unfold usedN
  rw [List.take_succ_eq_append_getElem hi, List.map_append, List.sum_append]; simp
theorem waitingN_take (L : List AF) (i : Nat) (f : AF) (h : L[i]? = some f) : waitingN (L.take (i + 1)) = waitingN (L.take i) + waitsN f.ws := by
  obtain ⟨hi, rfl⟩ := List.getElem?_eq_some_iff.1 h
  unfold waitingN
  rw [List.take_succ_eq_append_getElem hi, List.map_append, List.sum_append]; simp
theorem waitingN_le (L : List AF) (i : Nat) : waitingN (L.take i) ≤ waitingN L := by
  have h : waitingN L = waitingN (L.take i) + waitingN (L.drop i) := by
    unfold waitingN; rw [← List.sum_append, ← List.map_append, List.take_append_drop]
  omega
theorem waitsN_take (bs : List Bool) (i : Nat) (h : i < bs.length) : waitsN (bs.take (i + 1)) = waitsN (bs.take i) + (if bs.getD i false then 1 else 0) := by
  unfold waitsN
  rw [List.take_succ_eq_append_getElem h, List.filter_append, List.length_append]
  simp only [List.getD, List.getElem?_eq_getElem h, Option.getD_some]
  cases bs[i] <;> simp
theorem waitsN_le (bs : List Bool) (i : Nat) : waitsN (bs.take i) ≤ waitsN bs := by
  have h : waitsN bs = waitsN (bs.take i) + waitsN (bs.drop i) := by
    unfold waitsN; rw [← List.length_append, ← List.filter_append, List.take_append_drop]
  omega
theorem waitsN_len (bs : List Bool) : waitsN bs ≤ bs.length := List.length_filter_le ..
theorem usedN_le (L : List AF) (i : Nat) : usedN (L.take i) ≤ usedN L := by
  have h : usedN L = usedN (L.take i) + usedN (L.drop i) := by
    unfold usedN; rw [← List.sum_append, ← List.map_append, List.take_append_drop]
  omega
end Go.Proofs.YtpoiapfgbbmekaaGreatDoor
namespace Go.Proofs.YtpoiapfgbbmekaaGreatDoor
open Go.RowKit
theorem own_mono {w : World} {base base' : Nat} {e : TypeId} {size : Nat} {v : Value} {n : Nat} {xs : List Value} (h : w.ownsRow base e size v n xs) (hb : base' ≤ base) : w.ownsRow base' e size v n xs := by
  refine ⟨h.1, ?_⟩
  rcases h.2 with h2 | ⟨g, cap, cur, hv, hg, h3⟩
  · exact .inl h2
  · exact .inr ⟨g, cap, cur, hv, Nat.le_trans hb hg, h3⟩
theorem own_form {w : World} {base : Nat} {e : TypeId} {size : Nat} {v : Value} {n : Nat} {xs : List Value} (h : w.ownsRow base e size v n xs) : ∃ a c, v = .slice a n c := by
  rcases h.2 with ⟨rfl, rfl⟩ | ⟨g, cap, cur, hv, _⟩
  · exact ⟨none, 0, rfl⟩
  · exact ⟨_, cap, hv⟩
theorem balloc (w : World) (o : Obj) : Below w.heap.size w (w.alloc o) := (Below.refl _ _).alloc (Nat.le_refl _) _
theorem bch {a b c : World} (h : Below a.heap.size a b) (k : Below b.heap.size b c) : Below a.heap.size a c := h.trans (k.mono h.size)
theorem results_row_tmp2 {fn : Func} {p u x : Tmp} {ty : TypeId} {P : Program} (h : fn.results = #[.cell p ty, .tmp u, .tmp x]) (tmps : Array Value) (w : World) (g : Nat) (v : Value)
    (hp : tmps.getD p undef = .pointer (some ⟨g, 0, none⟩)) (hl : (loadVar ty ⟨g, 0, none⟩).run P w = .ok v w) :
    (results fn tmps).run P w = .ok (.tuple #[v, tmps.getD u undef, tmps.getD x undef]) w := by
  have hp' : tmps[p]?.getD undef = .pointer (some ⟨g, 0, none⟩) := by simpa using hp
  simp [results, h, hp', asAddr, hl, Result.andThen]
theorem conv_ri {w : World} {v : Value} {n : Nat} {zs : List Int} (h : RI .u8 w v n zs) : (convert 36 9 v).run Tryz.prog w = .ok (.string (strOfNums zs)) w :=
  conv_of Tryz.underlying36 Tryz.underlying5 Tryz.underlying9 h
theorem results_row_tmp {fn : Func} {p u : Tmp} {ty : TypeId} {P : Program} (h : fn.results = #[.cell p ty, .tmp u]) (tmps : Array Value) (w : World) (g : Nat) (v : Value)
    (hp : tmps.getD p undef = .pointer (some ⟨g, 0, none⟩)) (hl : (loadVar ty ⟨g, 0, none⟩).run P w = .ok v w) :
    (results fn tmps).run P w = .ok (.tuple #[v, tmps.getD u undef]) w := by
  rw [results_cell_tmp h]
  simp only [hp, asAddr, Sem.run_pure, Result.andThen_ok, hl]
theorem own_over {w w' : World} {base : Nat} {e : TypeId} {size : Nat} {v : Value} {n : Nat} {xs : List Value} {row : Option Nat} (h : w.ownsRow base e size v n xs) (hg : w.grownBy w' row) (hne : ∀ g, v.ownBlock = some g → some g ≠ row) : w'.ownsRow base e size v n xs := by
  refine ⟨h.1, ?_⟩
  rcases h.2 with h2 | ⟨g, cap, cur, hv, hb, hcur, h3⟩
  · exact .inl h2
  · refine .inr ⟨g, cap, cur, hv, hb, ?_, h3⟩
    rw [hg.block g (Array.getElem?_eq_some_iff.1 hcur).1 (hne g (by rw [hv]; rfl))]; exact hcur
theorem own_types {w : World} {base base' : Nat} {e e' : TypeId} {size size' : Nat} {v v' : Value} {n n' : Nat} {xs xs' : List Value} (h : w.ownsRow base e size v n xs) (h' : w.ownsRow base' e' size' v' n' xs') (hne : e ≠ e') : ∀ g, v.ownBlock = some g → some g ≠ v'.ownBlock := by
  intro g hg he
  rcases h.2 with ⟨rfl, _⟩ | ⟨q, cap, cur, rfl, _, hcur, _⟩
  · simp [Value.ownBlock] at hg
  · simp only [Value.ownBlock, Option.some.injEq] at hg
    subst hg
    rcases h'.2 with ⟨rfl, _⟩ | ⟨q', cap', cur', rfl, _, hcur', _⟩
    · simp [Value.ownBlock] at he
    · simp only [Value.ownBlock, Option.some.injEq] at he
      subst he
      rw [hcur] at hcur'
      simp only [Option.some.injEq, Obj.cells.injEq] at hcur'
      exact hne hcur'.2.1
end Go.Proofs.YtpoiapfgbbmekaaGreatDoor
namespace Go.Proofs.YtpoiapfgbbmekaaGreatDoor
open Go.RowKit
set_option maxRecDepth 8000 in
set_option maxHeartbeats 1000000 in
theorem rused_any (vd : Value) (d : AD) (w : World) (h : RD w vd d) (hu : usedN d.L ≤ 1000000000000) :
    Calls Tryz.prog 49 #[vd] w fun e w' => e = .returned (.int .i64 (usedN d.L : Int)) ∧ Below w.heap.size w w' := by
  obtain ⟨vl, rfl, hl⟩ := h
  obtain ⟨a, cap, rfl, hc1, hc2, _⟩ := hl.form
  obtain ⟨n, hn⟩ : ∃ n, d.L.length = n := ⟨_, rfl⟩
  obtain ⟨n, hn⟩ : ∃ n, d.L.length = n := ⟨_, rfl⟩
  obtain ⟨W0, hW0⟩ : ∃ W0, w.alloc (.cells #[.slice a d.L.length cap, .int .i64 d.cap, .int .i64 d.ops, .bool d.down, .bool d.told, .int .i64 d.after] 28) = W0 := ⟨_, rfl⟩
  have hb : Below w.heap.size w W0 := by rw [← hW0]; exact below_alloc w _
  have hc0 : W0.cell? ⟨w.heap.size, 0, none⟩ = some (.slice a d.L.length cap) := by
    rw [← hW0]; exact cell_of_row _ w.heap.size 0 _ _ _ (heap_alloc_last w _)
  have HL := Lib.hid (hl.kin (Kin.below hb))
  have HB := Lib.hid hb
  have HN := Lib.hid hn
  have HU := Lib.hid hu
  rw [hn] at HL hc0 hc1 hW0
  unfold dv
  rw [hn]
  generalize d.cap = x1 at *
  generalize d.ops = x2 at *
  generalize d.down = x3 at *
  generalize d.told = x4 at *
  generalize d.after = x5 at *
  generalize d.L = L at *
  clear hb hl hu hn
  go_enter Tryz.func49, Tryz.ntmps49
  go_wp2
  go_loop [3, 4] (fun nv iv => ∃ i : Nat, iv = .int .i64 i ∧ i ≤ n ∧ nv = .int .i64 (usedN (L.take i) : Int)) (fun _ iv => n - (intOf iv).toNat)
  case atStart => exact ⟨0, rfl, by omega, rfl⟩
  case round =>
    obtain ⟨i, rfl, hi, rfl⟩ := hrel
    by_cases hlt : (i : Int) < (n : Int)
    · obtain ⟨f, hf⟩ := row_some (L := L) (i := i) (by have := HN.out; omega)
      obtain ⟨b, off, v1, v2, v3, rfl, _, _, hcell, _, _, hf2, _⟩ := HL.out.at_ i f hf
      obtain ⟨a2, c2, rfl, _⟩ := hf2
      have hst := usedN_take L i f hf
      have hle1 := usedN_le L (i + 1)
      generalize f.n = m at *
      obtain ⟨u, hu⟩ : ∃ u, usedN (L.take i) = u := ⟨_, rfl⟩
      rw [hu] at hst ⊢
      have hle := HU.out
      have hw1 : wrap64 ((u : Int) + (m : Int)) = (u : Int) + (m : Int) := by unfold wrap64; omega
      have HST := Lib.hid hst
      clear hst hu
      go_wp2
      refine ⟨⟨i + 1, by go_num, by omega, ?_⟩, by simp [intOf]; omega⟩
      rw [HST.out, hw1]; rfl
    · have hq : i = n := by omega
      subst hq
      go_wp2
      go_ret
      refine ⟨ret_int ?_, HB.out⟩
      rw [List.take_of_length_le (Nat.le_of_eq HN.out)]
set_option maxRecDepth 8000 in
set_option maxHeartbeats 1000000 in
theorem rfind_any (vd : Value) (d : AD) (s : ByteArray) (w : World) (h : RD w vd d) :
    Calls Tryz.prog 35 #[vd, .string s] w fun e w' => e = .returned (.int .i64 (findI d.L s)) ∧ Below w.heap.size w w' := by
  obtain ⟨vl, rfl, hl⟩ := h
  obtain ⟨a, cap, rfl, hc1, hc2, _⟩ := hl.form
  obtain ⟨n, hn⟩ : ∃ n, d.L.length = n := ⟨_, rfl⟩
  obtain ⟨W0, hW0⟩ : ∃ W0, w.alloc (.cells #[.slice a d.L.length cap, .int .i64 d.cap, .int .i64 d.ops, .bool d.down, .bool d.told, .int .i64 d.after] 28) = W0 := ⟨_, rfl⟩
  have hb : Below w.heap.size w W0 := by rw [← hW0]; exact below_alloc w _
  have hc0 : W0.cell? ⟨w.heap.size, 0, none⟩ = some (.slice a d.L.length cap) := by
    rw [← hW0]; exact cell_of_row _ w.heap.size 0 _ _ _ (heap_alloc_last w _)
  have HL := Lib.hid (hl.kin (Kin.below hb))
  have HB := Lib.hid hb
  have HN := Lib.hid hn
  rw [hn] at HL hc0 hc1 hW0
  unfold dv
  rw [hn]
  generalize d.cap = x1 at *
  generalize d.ops = x2 at *
  generalize d.down = x3 at *
  generalize d.told = x4 at *
  generalize d.after = x5 at *
  generalize d.L = L at *
  clear hb hl hn
  go_enter Tryz.func35, Tryz.ntmps35
  go_wp2
  go_loop [5] (fun iv => ∃ i : Nat, iv = .int .i64 i ∧ i ≤ n ∧ Hid (∀ (j : Nat) (g : AF), j < i → L[j]? = some g → g.name ≠ s)) (fun iv => n - (intOf iv).toNat)
  case atStart => exact ⟨0, rfl, by omega, Lib.hid fun j g hj => absurd hj (by omega)⟩
  case round =>
    obtain ⟨i, rfl, hi, HF⟩ := hrel
    by_cases hlt : (i : Int) < (n : Int)
    · obtain ⟨f, hf⟩ := row_some (L := L) (i := i) (by have := HN.out; omega)
      obtain ⟨b, off, v1, v2, v3, rfl, hcell, _⟩ := HL.out.at_ i f hf
      have HFF := Lib.hid hf
      clear hf
      by_cases hs : f.name = s
      · have hq : (f.name.toList == s.toList) = true := by rw [eqN, hs]; simp
        have HS := Lib.hid hs
        clear hs
        go_wp2
        go_ret
        exact ⟨ret_int (findI_at L s i f HFF.out HS.out HF.out).symm, HB.out⟩
      · have hq : (f.name.toList == s.toList) = false := by rw [eqN]; simp [hs]
        have HS := Lib.hid hs
        clear hs
        go_wp2
        refine ⟨⟨i + 1, by go_num, by omega, Lib.hid fun j g hj hg => ?_⟩, by simp [intOf]; omega⟩
        by_cases hji : j < i
        · exact HF.out j g hji hg
        · have : j = i := by omega
          subst this
          rw [HFF.out] at hg
          obtain rfl := Option.some.inj hg
          exact HS.out
    · have hq : i = n := by omega
      subst hq
      go_wp2
      go_ret
      exact ⟨ret_int (findI_not L s (by rw [HN.out]; exact HF.out)).symm, HB.out⟩
def AD.opd (d : AD) : AD := if d.told = true ∧ d.after = 0 then { d with told := false, down := true } else { d with after := if d.told then wrap64 (d.after - 1) else d.after, ops := wrap64 (d.ops + 1) }
def AD.ope (d : AD) : Int := if d.told = true ∧ d.after = 0 then 9 else 0
theorem disk_info : (Tryz.prog.info? 28).map (·.size) = some 6 := by kernel_rfl
theorem alloc2_last (w : World) (x y : Obj) : ((w.alloc x).alloc y).heap[w.heap.size + 1]? = some y := by
  have := heap_alloc_last (w.alloc x) y
  rwa [alloc_size] at this
theorem below2 (w : World) (x y : Obj) : Below w.heap.size w ((w.alloc x).alloc y) := chain (below_alloc w x) (below_alloc _ y)
theorem disk_load {w : World} {g : Nat} {t : TypeId} {cs : Array Value} (hg : w.heap[g]? = some (.cells cs t (0, 0))) (h6 : cs.size = 6) : (loadVar 28 ⟨g, 0, none⟩).run Tryz.prog w = .ok (.agg cs) w :=
  run_loadVar_row w g t 28 cs (0, 0) _ hg Tryz.underlying28 rfl (by rw [h6]; exact disk_info)
set_option maxRecDepth 8000 in
set_option maxHeartbeats 1000000 in
theorem rop_any (a : Option Addr) (n c : Nat) (d : AD) (w : World) :
    Calls Tryz.prog 50 #[dv (.slice a n c) d] w fun e w' => e = .returned (.tuple #[dv (.slice a n c) d.opd, .int .i64 d.ope]) ∧ Below w.heap.size w w' := by
  obtain ⟨L, x1, x2, x3, x4, x5⟩ := d
  unfold dv
  cases x4 with
  | false =>
    go_enter Tryz.func50, Tryz.ntmps50
    go_wp2
    exact bodyPost_ret_by (results_row_tmp rfl _ _ (w.heap.size + 1) _ rfl (disk_load (alloc2_last _ _ _) rfl)) rfl ⟨rfl, below2 _ _ _⟩
  | true =>
    by_cases h5 : x5 = 0
    · subst h5
      go_enter Tryz.func50, Tryz.ntmps50
      go_wp2
      exact bodyPost_ret_by (results_row_tmp rfl _ _ (w.heap.size + 1) _ rfl (disk_load (alloc2_last _ _ _) rfl)) rfl ⟨rfl, below2 _ _ _⟩
    · go_enter Tryz.func50, Tryz.ntmps50
      go_wp2
      refine bodyPost_ret_by (results_row_tmp rfl _ _ (w.heap.size + 1) _ rfl (disk_load (alloc2_last _ _ _) rfl)) rfl ⟨?_, below2 _ _ _⟩
      simp [AD.opd, AD.ope, h5]
end Go.Proofs.YtpoiapfgbbmekaaGreatDoor
namespace Go.Proofs.YtpoiapfgbbmekaaGreatDoor
open Go.RowKit
theorem own_keep {w w' : World} {base : Nat} {e : TypeId} {size : Nat} {v : Value} {n : Nat} {xs : List Value} (h : w.ownsRow base e size v n xs) (hb : Below w.heap.size w w') : w'.ownsRow base e size v n xs := by
  refine ⟨h.1, ?_⟩
  rcases h.2 with h2 | ⟨g, cap, cur, hv, hg, hcur, h3⟩
  · exact .inl h2
  · exact .inr ⟨g, cap, cur, hv, hg, by rw [hb.block g (Array.getElem?_eq_some_iff.1 hcur).1]; exact hcur, h3⟩
end Go.Proofs.YtpoiapfgbbmekaaGreatDoor
namespace Go.Proofs.YtpoiapfgbbmekaaGreatDoor
open Go.RowKit
def RV (w : World) (v : Value) (n : Nat) (es : List Value) : Prop :=
  ∃ a cap, v = .slice a n cap ∧ es.length = n ∧ n ≤ cap ∧ cap ≤ 9223372036854775807 ∧ (a = none → cap = 0) ∧
    (0 < n → ∃ b off, a = some ⟨b, off, none⟩ ∧ ∀ j, j < n → w.cell? ⟨b, off + j, none⟩ = es[j]?)
theorem RV.length {w : World} {v : Value} {n : Nat} {es : List Value} (h : RV w v n es) : es.length = n := h.choose_spec.choose_spec.2.1
theorem RV.le {w : World} {v : Value} {n : Nat} {es : List Value} (h : RV w v n es) : n ≤ 9223372036854775807 := by
  obtain ⟨_, _, _, _, h1, h2, _⟩ := h; omega
theorem RV.keep {w w' : World} (hb : Below w.heap.size w w') {v : Value} {n : Nat} {es : List Value} (h : RV w v n es) : RV w' v n es := by
  obtain ⟨a, cap, rfl, h1, h2, h3, h4, hc⟩ := h
  refine ⟨a, cap, rfl, h1, h2, h3, h4, fun h0 => ?_⟩
  obtain ⟨b, off, rfl, hcell⟩ := hc h0
  refine ⟨b, off, rfl, fun j hj => ?_⟩
  have hj2 : es[j]? = some es[j] := List.getElem?_eq_getElem (by omega)
  have := hcell j hj
  rw [hj2] at this ⊢
  exact cell_keep hb this
theorem RV.nil (w : World) : RV w (.slice none 0 0) 0 [] := ⟨none, 0, rfl, rfl, Nat.le_refl _, by omega, fun _ => rfl, fun h => absurd h (by omega)⟩
theorem RV.own {w : World} {base : Nat} {e : TypeId} {v : Value} {n : Nat} {es : List Value} (h : w.ownsRow base e 1 v n es) : RV w v n es := by
  have hl : es.length = n := by have := h.1; omega
  rcases h.2 with ⟨rfl, rfl⟩ | ⟨g, cap, cur, rfl, _, _, hnc, hcm, _⟩
  · exact ⟨none, 0, rfl, hl, Nat.le_refl _, by omega, fun _ => rfl, fun h => absurd h (by omega)⟩
  · refine ⟨_, cap, rfl, hl, hnc, by unfold maxLen at hcm; omega, fun h => by simp at h, fun _ => ⟨g, 0, rfl, fun j hj => ?_⟩⟩
    rw [Nat.zero_add, h.cellAt j (by omega)]
theorem RV.at_ {w : World} {a : Option Addr} {n cap : Nat} {es : List Value} (h : RV w (.slice a n cap) n es) (h0 : 0 < n) :
    ∃ b off, a = some ⟨b, off, none⟩ ∧ ∀ j, j < n → w.cell? ⟨b, off + j, none⟩ = es[j]? := by
  obtain ⟨a', cap', e, _, _, _, _, hc⟩ := h
  simp only [Value.slice.injEq, true_and] at e
  obtain ⟨rfl, rfl⟩ := e
  exact hc h0
def RL (k : IntKind) (w : World) (v : Value) (n : Nat) (ls : List (List Int)) : Prop :=
  ∃ es, RV w v n es ∧ ls.length = n ∧ ∀ (j : Nat) (e : Value) (l : List Int), es[j]? = some e → ls[j]? = some l → RI k w e l.length l
theorem RL.length {k : IntKind} {w : World} {v : Value} {n : Nat} {ls : List (List Int)} (h : RL k w v n ls) : ls.length = n := h.choose_spec.2.1
theorem RL.le {k : IntKind} {w : World} {v : Value} {n : Nat} {ls : List (List Int)} (h : RL k w v n ls) : n ≤ 9223372036854775807 := h.choose_spec.1.le
theorem RL.keep {k : IntKind} {w w' : World} (hb : Below w.heap.size w w') {v : Value} {n : Nat} {ls : List (List Int)} (h : RL k w v n ls) : RL k w' v n ls := by
  obtain ⟨es, h1, h2, h3⟩ := h
  exact ⟨es, h1.keep hb, h2, fun j e l he hl => (h3 j e l he hl).keep hb⟩
theorem RL.nil (k : IntKind) (w : World) : RL k w (.slice none 0 0) 0 [] := ⟨[], RV.nil w, rfl, fun j e l he => by simp at he⟩
theorem RL.form {k : IntKind} {w : World} {v : Value} {n : Nat} {ls : List (List Int)} (h : RL k w v n ls) : ∃ a cap, v = .slice a n cap ∧ n ≤ cap ∧ cap ≤ 9223372036854775807 ∧ (a = none → cap = 0) := by
  obtain ⟨_, ⟨a, cap, h1, _, h2, h3, h4, _⟩, _⟩ := h; exact ⟨a, cap, h1, h2, h3, h4⟩
theorem RL.at_ {k : IntKind} {w : World} {a : Option Addr} {n cap : Nat} {ls : List (List Int)} (h : RL k w (.slice a n cap) n ls) (h0 : 0 < n) :
    ∃ b off, a = some ⟨b, off, none⟩ ∧ ∀ j, j < n → ∃ x c, w.cell? ⟨b, off + j, none⟩ = some (.slice x (ls.getD j []).length c) ∧ RI k w (.slice x (ls.getD j []).length c) (ls.getD j []).length (ls.getD j []) := by
  obtain ⟨es, h1, h2, h3⟩ := h
  obtain ⟨b, off, rfl, hc⟩ := h1.at_ h0
  refine ⟨b, off, rfl, fun j hj => ?_⟩
  have he : es[j]? = some (es[j]'(by rw [h1.length]; exact hj)) := List.getElem?_eq_getElem _
  have hl : ls[j]? = some (ls.getD j []) := by simp [List.getD, h2, hj]
  have hr := h3 j _ _ he hl
  obtain ⟨x, c, hx, _⟩ := id hr
  refine ⟨x, c, ?_, ?_⟩
  · rw [hc j hj, he, hx]
  · rw [← hx]; exact hr
theorem RV.mid {w : World} {a : Option Addr} {n cap : Nat} {es : List Value} (h : RV w (.slice a n cap) n es) (m d : Nat) (hm : m + d ≤ n) (c : Nat) (hc : c = cap - m) : RV w (sliced a m (m + d) cap 1) d ((es.drop m).take d) := by
  obtain ⟨a', cap', e, h1, h2, h3, h4, hcell⟩ := h
  simp only [Value.slice.injEq, true_and] at e
  obtain ⟨rfl, rfl⟩ := e
  have hl : ((es.drop m).take d).length = d := by simp; omega
  unfold sliced
  rw [show m + d - m = d from by omega]
  by_cases h0 : cap = m
  · rw [if_pos h0]
    exact ⟨a, cap - m, rfl, hl, by omega, by omega, fun _ => by omega, fun h => absurd h (by omega)⟩
  · rw [if_neg h0]
    cases a with
    | none => have := h4 rfl; omega
    | some x =>
      refine ⟨some (x.add (m * 1)), cap - m, rfl, hl, by omega, by omega, fun h => by simp at h, fun hp => ?_⟩
      obtain ⟨b, off, hx, hcl⟩ := hcell (by omega)
      obtain rfl := Option.some.inj hx
      refine ⟨b, off + m, by simp [Addr.add], fun j hj => ?_⟩
      have := hcl (m + j) (by omega)
      rw [Nat.add_assoc, this]
      simp [hj]
theorem RL.mid {k : IntKind} {w : World} {a : Option Addr} {n cap : Nat} {ls : List (List Int)} (h : RL k w (.slice a n cap) n ls) (m d : Nat) (hm : m + d ≤ n) : RL k w (sliced a m (m + d) cap 1) d ((ls.drop m).take d) := by
  obtain ⟨es, h1, h2, h3⟩ := h
  refine ⟨_, h1.mid m d hm _ rfl, by simp; omega, fun j e l he hl => ?_⟩
  have hj : j < d := by
    have := (List.getElem?_eq_some_iff.1 hl).1; simp at this; omega
  rw [List.getElem?_take, if_pos hj, List.getElem?_drop] at he hl
  exact h3 (m + j) e l he hl
def Apart (w : World) (base : Nat) (t : TypeId) (g : Nat) : Prop := g < base ∨ ∃ c t' fr, w.heap[g]? = some (.cells c t' fr) ∧ t' ≠ t
theorem Apart.ne {w : World} {base : Nat} {t : TypeId} {g : Nat} (h : Apart w base t g) {v : Value} {n : Nat} {es : List Value} (ho : w.ownsRow base t 1 v n es) : some g ≠ v.ownBlock := by
  rcases ho.2 with ⟨rfl, _⟩ | ⟨q, cap, cur, rfl, hq, hcur, _⟩
  · simp [Value.ownBlock]
  · simp only [Value.ownBlock]
    intro e
    obtain rfl := Option.some.inj e
    rcases h with h | ⟨c, t', fr, hc, ht⟩
    · exact Nat.lt_irrefl _ (Nat.lt_of_lt_of_le h hq)
    · rw [hcur] at hc
      simp only [Option.some.injEq, Obj.cells.injEq] at hc
      exact ht hc.2.1.symm
theorem RI.over {k : IntKind} {w w' : World} {v : Value} {n : Nat} {zs : List Int} (h : RI k w v n zs) (row : Option Nat) (hg : w.grownBy w' row) (hne : 0 < n → ∀ g, v.ownBlock = some g → some g ≠ row) : RI k w' v n zs := by
  obtain ⟨a, cap, rfl, h1, h2, h3, h4, hc⟩ := h
  refine ⟨a, cap, rfl, h1, h2, h3, h4, fun h0 => ?_⟩
  obtain ⟨b, off, rfl, hcell⟩ := hc h0
  exact ⟨b, off, rfl, fun j hj => hg.cell (hcell j hj) (hne h0 b rfl)⟩
def UL (k : IntKind) (w : World) (base : Nat) (t : TypeId) (v : Value) (n : Nat) (ls : List (List Int)) : Prop :=
  ∃ es, w.ownsRow base t 1 v n es ∧ ls.length = n ∧ ∀ (j : Nat) (e : Value) (l : List Int), es[j]? = some e → ls[j]? = some l → RI k w e l.length l ∧ (0 < l.length → ∀ g, e.ownBlock = some g → Apart w base t g)
theorem UL.rl {k : IntKind} {w : World} {base : Nat} {t : TypeId} {v : Value} {n : Nat} {ls : List (List Int)} (h : UL k w base t v n ls) : RL k w v n ls := by
  obtain ⟨es, h1, h2, h3⟩ := h
  exact ⟨es, RV.own h1, h2, fun j e l he hl => (h3 j e l he hl).1⟩
theorem UL.none (k : IntKind) (w : World) (base : Nat) (t : TypeId) : UL k w base t (.slice Option.none 0 0) 0 [] := ⟨[], World.ownsRow_nil _ _ _ _, rfl, fun j e l he => by simp at he⟩
theorem Apart.keep {w w' : World} {base : Nat} {t : TypeId} {g : Nat} (h : Apart w base t g) (hb : Below w.heap.size w w') : Apart w' base t g := by
  rcases h with h | ⟨c, t', fr, hc, ht⟩
  · exact .inl h
  · exact .inr ⟨c, t', fr, by rw [hb.block g (Array.getElem?_eq_some_iff.1 hc).1]; exact hc, ht⟩
theorem UL.keep {k : IntKind} {w w' : World} {base : Nat} {t : TypeId} {v : Value} {n : Nat} {ls : List (List Int)} (h : UL k w base t v n ls) (hb : Below w.heap.size w w') : UL k w' base t v n ls := by
  obtain ⟨es, h1, h2, h3⟩ := h
  exact ⟨es, own_keep h1 hb, h2, fun j e l he hl => ⟨(h3 j e l he hl).1.keep hb, fun h0 g hg => ((h3 j e l he hl).2 h0 g hg).keep hb⟩⟩
theorem UL.append {k : IntKind} {w w' : World} {base : Nat} {t : TypeId} {v v' : Value} {n : Nat} {es : List Value} {ls : List (List Int)} (h1 : w.ownsRow base t 1 v n es) (h2 : ls.length = n)
    (h3 : ∀ (j : Nat) (e : Value) (l : List Int), es[j]? = some e → ls[j]? = some l → RI k w e l.length l ∧ (0 < l.length → ∀ g, e.ownBlock = some g → Apart w base t g))
    {y : Value} {l : List Int} (hy : RI k w y l.length l) (hya : 0 < l.length → ∀ g, y.ownBlock = some g → Apart w base t g)
    (ho : w'.ownsRow base t 1 v' (n + 1) (es ++ [y])) (hg : w.grownBy w' v.ownBlock) : UL k w' base t v' (n + 1) (ls ++ [l]) := by
  have hel : es.length = n := by have := h1.1; omega
  have hap : ∀ g, Apart w base t g → Apart w' base t g := fun g ha => by
    rcases id ha with h | ⟨c, t', fr, hc, ht⟩
    · exact .inl h
    · exact .inr ⟨c, t', fr, by rw [hg.block g (Array.getElem?_eq_some_iff.1 hc).1 (ha.ne h1)]; exact hc, ht⟩
  refine ⟨_, ho, by simp [h2], fun j e m he hm => ?_⟩
  by_cases hj : j < n
  · rw [List.getElem?_append_left (by omega)] at he hm
    obtain ⟨ha, hb⟩ := h3 j e m he hm
    exact ⟨ha.over _ hg fun h0 g hgg => (hb h0 g hgg).ne h1, fun h0 g hgg => hap g (hb h0 g hgg)⟩
  · rw [List.getElem?_append_right (by omega)] at he hm
    rw [hel] at he; rw [h2] at hm
    cases hk : j - n with
    | zero =>
      rw [hk] at he hm
      simp at he hm
      subst he hm
      exact ⟨hy.over _ hg fun h0 g hgg => (hya h0 g hgg).ne h1, fun h0 g hgg => hap g (hya h0 g hgg)⟩
    | succ q => rw [hk] at he; simp at he
section
variable {P : Program} {w : World} {ops : Array Oper} {rest : List Oper} {o : Oper} {a : Act} {Q : Exit → Act → World → Prop}
theorem UL.over {k j : IntKind} {w w' : World} {base : Nat} {t : TypeId} {v y : Value} {n m : Nat} {ls : List (List Int)} {l : List Int} (h : UL k w base t v n ls) (hg : w.grownBy w' v.ownBlock)
    (hr : RI j w y m l) (ha : ∀ g, y.ownBlock = some g → Apart w base t g) : RI j w' y m l ∧ ∀ g, y.ownBlock = some g → Apart w' base t g := by
  obtain ⟨es, h1, _, _⟩ := h
  refine ⟨hr.over _ hg fun _ g hgg => (ha g hgg).ne h1, fun g hgg => ?_⟩
  rcases id (ha g hgg) with h | ⟨c, t', fr, hc, ht⟩
  · exact .inl h
  · exact .inr ⟨c, t', fr, by rw [hg.block g (Array.getElem?_eq_some_iff.1 hc).1 ((ha g hgg).ne h1)]; exact hc, ht⟩
end
section
open Go.ChangeShapes Go.WideShapes Go.Deep
variable {H : Type} {enc : TypeId × Value → H} {P : Program} {W : World} {t e q : TypeId} {k : IntKind}
end
end Go.Proofs.YtpoiapfgbbmekaaGreatDoor
namespace Go.Proofs.YtpoiapfgbbmekaaGreatDoor
open Go.RowKit
def DB (w : World) (b : Nat) (cs : Array Value) : Prop := w.heap[b]? = some (.cells cs 28 (0, 0)) ∧ cs.size = 6
theorem DB.below {w w' : World} {b B : Nat} {cs : Array Value} (h : DB w b cs) (hb : Below B w w') (hlt : b < B) : DB w' b cs := ⟨by rw [hb.block b hlt]; exact h.1, h.2⟩
theorem DB.cell {w : World} {b : Nat} {cs : Array Value} (h : DB w b cs) (j : Nat) : w.cell? ⟨b, j, none⟩ = cs[j]? := Joins.cell_of_block h.1 j
theorem DB.frozen {w : World} {b : Nat} {cs : Array Value} (h : DB w b cs) (j : Nat) : w.frozen? ⟨b, j, none⟩ = false := Joins.unfrozen_of_block h.1 j
theorem DB.stored {w : World} {b : Nat} {cs : Array Value} (h : DB w b cs) (j : Nat) (v : Value) : DB (w.setCell ⟨b, j, none⟩ v) b (cs.setIfInBounds j v) := ⟨Joins.block_setCell h.1 _, by simpa using h.2⟩
theorem DB.apart {w : World} {b b' : Nat} {cs : Array Value} (h : DB w b cs) (hne : b ≠ b') (j : Nat) (v : Value) : DB (w.setCell ⟨b', j, none⟩ v) b cs := ⟨by rw [Below.heap_setCell w ⟨b', j, none⟩ v b hne]; exact h.1, h.2⟩
theorem DB.row {w : World} {b : Nat} {cs cs' : Array Value} (h : DB w b cs) (hc : cs'.size = 6) : DB (w.setRow b cs') b cs' := ⟨setRow_heap w b cs cs' _ _ h.1, hc⟩
theorem DB.info {w : World} {b : Nat} {cs : Array Value} (h : DB w b cs) : (Tryz.prog.info? 28).map (·.size) = some cs.size := by rw [h.2]; exact disk_info
def dz : Array Value := #[.slice none 0 0, .int .i64 0, .int .i64 0, .bool false, .bool false, .int .i64 0]
theorem DB.start (w : World) (cs : Array Value) (h : cs.size = 6) : DB ((w.alloc (.cells cs 28)).alloc (.cells dz 28)) w.heap.size cs ∧ DB ((w.alloc (.cells cs 28)).alloc (.cells dz 28)) (w.heap.size + 1) dz :=
  ⟨⟨by rw [heap_alloc_old _ _ (by rw [alloc_size]; omega)]; exact heap_alloc_last w _, h⟩, ⟨alloc2_last w _ _, rfl⟩⟩
theorem file_parts : (Tryz.prog.info? 85).map (fun i => (i.zero, i.size, i.bytes)) = some (some (.agg #[.string ByteArray.empty, .slice none 0 0, .slice none 0 0, .slice none 0 0]), 4, 88) := by kernel_rfl
theorem wpl_app_file {w : World} {ops : Array Oper} {rest : List Oper} {o : Oper} {a : Act} {Q : Exit → Act → World → Prop} (hgd : o.guard = none) (s x : Operand)
    (ho : o.op = .call { callee := .builtin .append, args := #[s, x], argTypes := #[26, 26] })
    (base : Nat) (v : Value) (n : Nat) (es : List (List Value)) (hs : a.eval s = v) (hown : Hid (w.ownsRow base 85 4 v n es.flatten))
    (g : Nat) (e : List Value) (hx : a.eval x = .slice (some ⟨g, 0, none⟩) 1 1) (hblk : w.heap[g]? = some (.cells e.toArray 85 (0, 0))) (he : e.length = 4) (h1 : ∀ u ∈ e, u.oneCell' = true) (hn : n ≤ 1000000000000)
    (B : Nat) (W : World) (hb : Hid (Below B W w)) (hB : B ≤ base) (hbase : base ≤ w.heap.size)
    (h : ∀ v' w', Hid (w'.ownsRow base 85 4 v' (n + 1) (es ++ [e]).flatten) → Hid (Below B W w') → wpList Tryz.prog ops Q rest (a.put o.dst v') w') : wpList Tryz.prog ops Q (o :: rest) a w := by
  obtain ⟨i, hi, hz0, hz1, hz2⟩ := info_parts file_parts
  refine wpList_append_own_wide w hgd s x 26 ho base 85 i _ 4 88 Tryz.underlying26 hi hz0 hz1 hz2 rfl (by omega) v n es.flatten hs hown.out ⟨g, 0, none⟩ 1 1 e hx (by rw [he]) ?_ h1 (by unfold maxLen; omega) (by omega) hbase ?_
  · intro j u hj
    have hc : w.cell? ⟨g, j, none⟩ = some u := by rw [cell_of_row _ g j _ _ _ hblk]; simpa using hj
    by_cases h0 : j = 0
    · subst h0; simpa [Addr.add] using hc
    · simpa [Addr.add, h0] using hc
  · intro v' w' h1 h2 _
    exact h v' w' (by rw [List.flatten_append, List.flatten_singleton]; exact h1) (hb.out.grown h2 (by omega) (fun q hq => by have := (hown.out.lt q hq).1; omega))
theorem FLs.form4 {w : World} {a : Option Addr} {n cap : Nat} {L : List AF} (h : FLs w (.slice a n cap) L) (i : Nat) (f : AF) (hf : L[i]? = some f) :
    ∃ b off a1 c1 a2 c2 a3 c3, a = some ⟨b, off, none⟩ ∧ w.cell? ⟨b, off + i * 4, none⟩ = some (.string f.name) ∧ w.cell? ⟨b, off + i * 4 + 1, none⟩ = some (.slice a1 f.n c1) ∧ w.cell? ⟨b, off + i * 4 + 2, none⟩ = some (.slice a2 f.n c2) ∧ w.cell? ⟨b, off + i * 4 + 3, none⟩ = some (.slice a3 f.n c3) ∧
      FS w (.slice a1 f.n c1) f.n f.las ∧ FS w (.slice a2 f.n c2) f.n f.seen ∧ BS w (.slice a3 f.n c3) f.n f.ws := by
  obtain ⟨b, off, v1, v2, v3, h0, h1, h2, h3, h4, h5, h6, h7⟩ := h.at_ i f hf
  obtain ⟨a1, c1, rfl, _⟩ := id h5
  obtain ⟨a2, c2, rfl, _⟩ := id h6
  obtain ⟨a3, c3, rfl, _⟩ := id h7
  exact ⟨b, off, a1, c1, a2, c2, a3, c3, h0, h1, h2, h3, h4, h5, h6, h7⟩
structure Bx (F : Nat → Bool) (w : World) (a : Option Addr) (cap : Nat) (d : AD) (n : Nat) (W2 : World) : Prop where
  below : Below w.heap.size w W2
  size : W2.heap.size = w.heap.size + 2
  d0 : DB W2 w.heap.size #[.slice a n cap, .int .i64 d.cap, .int .i64 d.ops, .bool d.down, .bool d.told, .int .i64 d.after]
  d1 : DB W2 (w.heap.size + 1) dz
  rl : FLs W2 (.slice a n cap) d.L
  rlm : FLs (mask F w) (.slice a n cap) d.L
  foot : Foot F w.heap.size
  len : d.L.length = n
theorem Bx.start {F : Nat → Bool} {w : World} {a : Option Addr} {cap : Nat} {d : AD} {n : Nat} (hF : Foot F w.heap.size) (hn : d.L.length = n) (h : FLs (mask F w) (.slice a n cap) d.L) :
    Bx F w a cap d n ((w.alloc (.cells #[.slice a n cap, .int .i64 d.cap, .int .i64 d.ops, .bool d.down, .bool d.told, .int .i64 d.after] 28)).alloc (.cells dz 28)) := by
  obtain ⟨h0, h1⟩ := DB.start w #[.slice a n cap, .int .i64 d.cap, .int .i64 d.ops, .bool d.down, .bool d.told, .int .i64 d.after] rfl
  exact ⟨below2 _ _ _, by rw [alloc_size, alloc_size], h0, h1, (h.kin (unmask F w)).kin (Kin.below (below2 _ _ _)), h, hF, hn⟩
theorem RD.form {w : World} {v : Value} {d : AD} (h : RD w v d) : ∃ a cap, v = dv (.slice a d.L.length cap) d ∧ FLs w (.slice a d.L.length cap) d.L ∧ d.L.length ≤ cap ∧ cap ≤ 9223372036854775807 ∧ (a = none → cap = 0) := by
  obtain ⟨vl, rfl, hl⟩ := h
  obtain ⟨a, cap, rfl, h1, h2, h3⟩ := hl.form
  exact ⟨a, cap, rfl, hl, h1, h2, h3⟩
theorem FLs.own {F : Nat → Bool} {w wr : World} {base : Nat} {v : Value} {n : Nat} {es : List (List Value)} {L : List AF} (hF : Foot F base) (ho : wr.ownsRow base 85 4 v n es.flatten) (hk : Kin (mask F w) (mask F wr)) (hr : RFs (mask F w) es L) (hn : L.length = n) : FLs (mask F wr) v L := by
  subst hn
  exact ⟨es, CS.own (own_mask hF ho), hr.kin hk⟩
theorem own_move {w w' : World} {base : Nat} {e : TypeId} {size : Nat} {v : Value} {n : Nat} {xs : List Value} (h : w.ownsRow base e size v n xs) (hg : ∀ g, base ≤ g → w'.heap[g]? = w.heap[g]?) : w'.ownsRow base e size v n xs := by
  refine ⟨h.1, ?_⟩
  rcases h.2 with h2 | ⟨g, cap, cur, hv, hb, hcur, h3⟩
  · exact .inl h2
  · exact .inr ⟨g, cap, cur, hv, hb, by rw [hg g hb]; exact hcur, h3⟩
theorem own_slice {w : World} {base : Nat} {e : TypeId} {size : Nat} {v : Value} {n : Nat} {xs : List Value} (h : w.ownsRow base e size v n xs) : ∃ a c, v = .slice a n c := by
  rcases h.2 with ⟨e1, e2⟩ | ⟨g, cp, cur, e1, _⟩
  · exact ⟨_, _, by rw [e1, e2]⟩
  · exact ⟨_, _, e1⟩
theorem last_below {B : Nat} {w wr : World} (hb : Below B w wr) (g : Nat) (hg : B ≤ g) (v : Value) (cs : Array Value) : Below B w ((wr.setCell ⟨g, 0, none⟩ v).setRow (g + 1) cs) :=
  have h1 : Below B w (wr.setCell ⟨g, 0, none⟩ v) := hb.setCell hg v
  below_row h1 (by omega) cs
theorem last_heap (wr : World) (g : Nat) (v : Value) (cs : Array Value) (k : Nat) (hk : g + 2 ≤ k) : ((wr.setCell ⟨g, 0, none⟩ v).setRow (g + 1) cs).heap[k]? = wr.heap[k]? := by
  rw [setRow_other _ (g + 1) k cs (by omega), Below.heap_setCell wr ⟨g, 0, none⟩ v k (by show k ≠ g; omega)]
end Go.Proofs.YtpoiapfgbbmekaaGreatDoor
namespace Go.Proofs.YtpoiapfgbbmekaaGreatDoor
open Go.RowKit
theorem withoutF_take (L : List AF) (s : ByteArray) (i : Nat) (f : AF) (h : L[i]? = some f) : withoutF (L.take (i + 1)) s = withoutF (L.take i) s ++ (if f.name = s then [] else [f]) := by
  obtain ⟨hi, rfl⟩ := List.getElem?_eq_some_iff.1 h
  unfold withoutF
  rw [List.take_succ_eq_append_getElem hi, List.filter_append]
  by_cases hs : (L[i]).name = s <;> simp [hs]
theorem withoutF_len (L : List AF) (s : ByteArray) : (withoutF L s).length ≤ L.length := List.length_filter_le ..
set_option maxRecDepth 8000 in
set_option maxHeartbeats 2000000 in
theorem rwithout_any (F : Nat → Bool) (vd : Value) (d : AD) (s : ByteArray) (w : World) (hF : Foot F w.heap.size) (h : RD (mask F w) vd d) (hn1 : d.L.length ≤ 1000000) :
    Calls Tryz.prog 82 #[vd, .string s] w fun e w' => ∃ v', e = .returned v' ∧ RD (mask F w') v' (d.without s) ∧ Below w.heap.size w w' := by
  obtain ⟨a, cap, rfl, hl, hc1, hc2, _⟩ := h.form
  obtain ⟨n, hn⟩ : ∃ n, d.L.length = n := ⟨_, rfl⟩
  unfold dv AD.without
  rw [hn] at hl hc1 hn1 ⊢
  have hx := Bx.start hF hn hl
  obtain ⟨L, x1, x2, x3, x4, x5⟩ := d
  dsimp only at hn hl hx ⊢
  unfold dz at hx
  obtain ⟨W2, hW2⟩ : ∃ W2, (w.alloc (.cells #[.slice a n cap, .int .i64 x1, .int .i64 x2, .bool x3, .bool x4, .int .i64 x5] 28)).alloc (.cells #[.slice none 0 0, .int .i64 0, .int .i64 0, .bool false, .bool false, .int .i64 0] 28) = W2 := ⟨_, rfl⟩
  rw [hW2] at hx
  have HX := Lib.hid hx
  have hc0 := hx.d0.cell 0
  simp only [List.getElem?_toArray, List.getElem?_cons_zero] at hc0
  clear h hl hx hn hF
  go_enter Tryz.func82, Tryz.ntmps82
  go_wp2
  go_loopw [5, 6] (fun lv iv wr => ∃ (i m : Nat) (es : List (List Value)), iv = .int .i64 i ∧ i ≤ n ∧ (withoutF (L.take i) s).length = m ∧ Hid (wr.ownsRow W2.heap.size 85 4 lv m es.flatten) ∧ Hid (RFs (mask F w) es (withoutF (L.take i) s)) ∧ Hid (Below W2.heap.size W2 wr)) (fun _ iv _ => n - (intOf iv).toNat)
  case atStart => exact ⟨0, 0, [], rfl, by omega, rfl, Lib.hid (World.ownsRow_nil _ _ _ _), Lib.hid (RFs.nil _), Lib.hid (Below.refl _ _)⟩
  case round =>
    obtain ⟨i, m, es, rfl, hi, hm, HO, HR, HB⟩ := hrel
    have hcw : wr.cell? ⟨w.heap.size, 0, none⟩ = some (.slice a n cap) := by
      have := (HX.out.d0.below HB.out (by rw [HX.out.size]; omega)).cell 0
      simpa using this
    have HM := Lib.hid hm
    have hml : m ≤ 1000000 := by have := withoutF_len (L.take i) s; simp only [List.length_take] at this; omega
    clear hm
    by_cases hlt : (i : Int) < (n : Int)
    · obtain ⟨f, hf⟩ := row_some (L := L) (i := i) (by have := HX.out.len; dsimp only at this; omega)
      obtain ⟨b, off, a1, c1, a2, c2, a3, c3, rfl, k0, k1, k2, k3, f1, f2, f3⟩ := HX.out.rlm.form4 i f hf
      have hk : Kin (mask F w) wr := ((unmask F w).trans (Kin.below HX.out.below)).trans (Kin.below HB.out)
      replace k0 := hk _ _ k0
      replace k1 := hk _ _ k1
      replace k2 := hk _ _ k2
      replace k3 := hk _ _ k3
      have HRF : Hid (RF (mask F w) [.string f.name, .slice a1 f.n c1, .slice a2 f.n c2, .slice a3 f.n c3] f) := Lib.hid ⟨_, _, _, rfl, f1, f2, f3⟩
      clear hk
      have hst := withoutF_take L s i f hf
      have HFF := Lib.hid hf
      clear hf f1 f2 f3
      by_cases hs : f.name = s
      · have hq : (f.name.toList == s.toList) = true := by rw [eqN, hs]; simp
        rw [if_pos hs, List.append_nil] at hst
        have HST := Lib.hid hst
        clear hs hst
        go_wp2
        go_roundw
        case rel => exact ⟨i + 1, m, es, by go_num, by omega, by rw [HST.out]; exact HM.out, HO, by rw [HST.out]; exact HR, HB⟩
        case measure => simp [intOf]; omega
      · have hq : (f.name.toList == s.toList) = false := by rw [eqN]; simp [hs]
        rw [if_neg hs] at hst
        have HST := Lib.hid hst
        clear hs hst
        go_wp2_with (first
          | (at_builtin; refine wpl_app_file rfl (.tmp 22) (.tmp 28) rfl W2.heap.size _ m es rfl (Lib.hid (own_keep HO.out (below_alloc _ _))) wr.heap.size [.string f.name, .slice a1 f.n c1, .slice a2 f.n c2, .slice a3 f.n c3] rfl (heap_alloc_last _ _) rfl (by simp [Value.oneCell']) (by omega) W2.heap.size W2 (Lib.hid (HB.out.alloc HB.out.size _)) (Nat.le_refl _) (by rw [alloc_size]; have := HB.out.size; omega) ?_; intro v3 w3 HO3 HB3))
        go_roundw
        case rel => exact ⟨i + 1, m + 1, es ++ [_], by go_num, by omega, by rw [HST.out, List.length_append, HM.out]; rfl, HO3, by rw [HST.out]; exact Lib.hid (HR.out.snoc HRF.out), HB3⟩
        case measure => simp [intOf]; omega
    · have hq : i = n := by omega
      subst hq
      have hall : withoutF (L.take i) s = withoutF L s := by rw [List.take_of_length_le (by have := HX.out.len; dsimp only at this; omega)]
      rw [hall] at HM HR
      obtain ⟨a5, c5, rfl⟩ := own_slice HO.out
      have hD0 := HX.out.d0.below HB.out (by rw [HX.out.size]; omega)
      have hfr := hD0.frozen 0
      have HD2 : Hid (DB (wr.setCell ⟨w.heap.size, 0, none⟩ (.slice a5 m c5)) w.heap.size #[.slice a5 m c5, .int .i64 x1, .int .i64 x2, .bool x3, .bool x4, .int .i64 x5]) := Lib.hid (by simpa using hD0.stored 0 (.slice a5 m c5))
      have HD3 := Lib.hid ((HX.out.d1.below HB.out (by rw [HX.out.size]; omega)).apart (b' := w.heap.size) (by omega) 0 (.slice a5 m c5))
      have HBW := Lib.hid (chain HX.out.below HB.out)
      clear hD0
      go_wp2_with (first
        | (refine wpList_load_row rfl 28 _ rfl w.heap.size rfl _ _ (0, 0) _ HD2.out.1 Tryz.underlying28 rfl HD2.out.info ?_)
        | (refine wpList_store_row rfl 28 _ _ rfl (w.heap.size + 1) #[.slice a5 m c5, .int .i64 x1, .int .i64 x2, .bool x3, .bool x4, .int .i64 x5] rfl rfl _ _ HD3.out.1 HD2.out.info (by rw [HD3.out.2]; rfl) (by simp [Value.oneCell']) ?_))
      have hbl := last_below HBW.out w.heap.size (Nat.le_refl _) (.slice a5 m c5) #[.slice a5 m c5, .int .i64 x1, .int .i64 x2, .bool x3, .bool x4, .int .i64 x5]
      refine bodyPost_ret_by (v := .agg #[.slice a5 m c5, .int .i64 x1, .int .i64 x2, .bool x3, .bool x4, .int .i64 x5]) (results_cell_row rfl _ _ (w.heap.size + 1) _ _ (0, 0) _ rfl (HD3.out.row (cs' := #[.slice a5 m c5, .int .i64 x1, .int .i64 x2, .bool x3, .bool x4, .int .i64 x5]) rfl).1 Tryz.underlying28 rfl disk_info) rfl ⟨_, rfl, ⟨.slice a5 m c5, rfl, ?_⟩, hbl⟩
      exact FLs.own (HX.out.foot.mono (by rw [HX.out.size]; omega)) (own_move HO.out (fun g hg => last_heap wr w.heap.size _ _ g (by rw [HX.out.size] at hg; omega))) (kin_mask hbl) HR.out HM.out
end Go.Proofs.YtpoiapfgbbmekaaGreatDoor
