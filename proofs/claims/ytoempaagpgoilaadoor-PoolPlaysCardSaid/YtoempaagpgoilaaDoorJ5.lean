/-
  TEXTS JOINED: Texts, DiskSays, DkRow, DkSettle, DkAbs, Shelf, DiskLaysMath. Each one's own words stand at its head.
-/
import Derived.Test.YtoempaagpgoilaaDoorJ0
import Derived.Deep.DeepAppendWide
import Derived.Test.YtoempaagpgoilaaDoorJ4
import Derived.Deep.MidRow
import Derived.Test.YtoempaagpgoilaaDoorJ2
import Derived.Shelf.Lays
import Derived.Shelf.LaysM
import Derived.Shelf.Slices.In.SortNone
import Derived.Shelf.Sort.Plain
import Derived.Shelf.Strconv.Itoa3
import Derived.Test.YtoempaagpgoilaaDoorProg
/-
  LISTS OF TEXTS: where they lie (SS), one at its place, appends to one that a call makes. Nothing here speaks of the program's functions. No condition.
-/
namespace Go.Proofs.YtoempaagpgoilaaDoor
open Go.RowKit
/-- a slice of texts -/
def SS (w : World) (v : Value) (l : List ByteArray) : Prop := CS 1 w v l.length (l.map .string)
theorem SS.kin {w w' : World} (hb : Kin w w') {v : Value} {l : List ByteArray} (h : SS w v l) : SS w' v l := CS.kin hb h
theorem SS.at_ {w : World} {a : Option Addr} {n cap : Nat} {l : List ByteArray} (h : SS w (.slice a n cap) l) (i : Nat) (s : ByteArray) (hs : l[i]? = some s) :
    ∃ b off, a = some ⟨b, off, none⟩ ∧ w.cell? ⟨b, off + i, none⟩ = some (.string s) := by
  obtain ⟨hi, rfl⟩ := List.getElem?_eq_some_iff.1 hs
  have hn : n = l.length := by obtain ⟨_, _, hv, _⟩ := h; simp at hv; exact hv.2.1
  subst hn
  obtain ⟨b, off, rfl, hc⟩ := CS.at_ h i hi
  refine ⟨b, off, rfl, ?_⟩
  have h1 := hc 0 (by omega)
  simpa [hi] using h1
theorem SS.below {w w' : World} {v : Value} {l : List ByteArray} (h : SS w v l) (hb : Below w.heap.size w w') : SS w' v l := h.kin (Kin.below hb)
theorem str_parts : (Tryd.prog.info? 9).map (fun i => (i.zero, i.size, i.bytes)) = some (some (.string ByteArray.empty), 1, 16) := by kernel_rfl
/-- append of one text to a row that the call made -/
theorem wpl_app_str {w : World} {ops : Array Oper} {rest : List Oper} {o : Oper} {a : Act} {Q : Exit → Act → World → Prop} (hgd : o.guard = none) (s x : Operand)
    (ho : o.op = .call { callee := .builtin .append, args := #[s, x], argTypes := #[64, 64] })
    (base : Nat) (v : Value) (n : Nat) (xs : List Value) (hs : a.eval s = v) (hown : Hid (w.ownsRow base 9 1 v n xs))
    (ad : Addr) (y : ByteArray) (hx : a.eval x = .slice (some ad) 1 1) (hcell : w.cell? ad = some (.string y)) (hn : n ≤ 1000000) (hbase : base ≤ w.heap.size)
    (h : ∀ v' w', Hid (w'.ownsRow base 9 1 v' (n + 1) (xs ++ [.string y])) → Hid (w.grownBy w' v.ownBlock) → wpList Tryd.prog ops Q rest (a.put o.dst v') w') : wpList Tryd.prog ops Q (o :: rest) a w := by
  obtain ⟨i, hi, hz0, hz1, hz2⟩ := info_parts str_parts
  refine wpList_append_own_wide w hgd s x 64 ho base 9 i (.string ByteArray.empty) 1 16 Tryd.underlying64 hi hz0 hz1 hz2 rfl (by omega) v n xs hs hown.out ad 1 1 [.string y] hx rfl ?_ (by simp [Value.oneCell']) (by unfold maxLen; omega) (by omega) hbase ?_
  · intro j u hj
    match j, hj with
    | 0, hj => simp at hj; subst hj; simpa [Addr.add] using hcell
  · intro v' w' h1 h2 _
    exact h v' w' h1 h2
theorem grown_alloc_trans {w w1 w2 : World} {o : Obj} {row : Option Nat} (h : (w1.alloc o).grownBy w2 row) (hb : Below w.heap.size w w1) (hr : ∀ j, row = some j → w.heap.size ≤ j) : Below w.heap.size w w2 :=
  (hb.alloc hb.size o).grown h (by have := hb.size; have e : (w1.alloc o).heap.size = w1.heap.size + 1 := by { show (w1.heap.push o).size = _; simp }; omega) hr
end Go.Proofs.YtoempaagpgoilaaDoor
/-
  LAYER 8 (disk): what is asked of the program's disk, call by call, of whatever relation DK tells that a pointer leads to a disk (w: the world; p: the pointer; F: the disk's own blocks). The laws' walks stand over it alone.
-/
namespace Go.Proofs.YtoempaagpgoilaaDoor
open Go.RowKit
/-- what a disk's files are, as they are lasting -/
def AD.files (d : AD) : List LFile := d.L.map fun f => (f.name, f.n, f.las)
def AD.names (d : AD) : List ByteArray := d.L.map AF.name
abbrev noF : Nat → Bool := fun _ => false
abbrev ptr (p : Addr) : Value := .pointer (some p)
structure DiskSays (DK : World → Addr → (Nat → Bool) → AD → Prop) : Prop where
  keep : ∀ {w w' : World} {p : Addr} {F : Nat → Bool} {d : AD}, DK w p F d → w.heap.size ≤ w'.heap.size → (∀ k, F k = true → w'.heap[k]? = w.heap[k]?) → DK w' p F d
  foot : ∀ {w : World} {p : Addr} {F : Nat → Bool} {d : AD}, DK w p F d → Foot F w.heap.size
  new : ∀ (c : Int) (w : World), I63 c → Calls Tryd.prog 6 #[.int .i64 c] w fun e w' => ∃ p F, e = .returned (ptr p) ∧ DK w' p F (AD.newD c) ∧ Ext noF w w' F
  make : ∀ (w : World) (p : Addr) (F : Nat → Bool) (d : AD) (s : ByteArray) (n : Int), DK w p F d → Good d → s.size ≤ 281474976710656 → I63 n →
    Calls Tryd.prog 16 #[ptr p, .string s, .int .i64 n] w fun e w' => ∃ F', e = .returned (.int .i64 (d.makeR s n).2) ∧ DK w' p F' (d.makeR s n).1 ∧ Ext F w w' F'
  rename : ∀ (w : World) (p : Addr) (F : Nat → Bool) (d : AD) (s t : ByteArray), DK w p F d → Good d → s.size ≤ 281474976710656 → t.size ≤ 281474976710656 →
    Calls Tryd.prog 28 #[ptr p, .string s, .string t] w fun e w' => ∃ F', e = .returned (.int .i64 (d.renameR s t).2) ∧ DK w' p F' (d.renameR s t).1 ∧ Ext F w w' F'
  remove : ∀ (w : World) (p : Addr) (F : Nat → Bool) (d : AD) (s : ByteArray), DK w p F d → Good d → s.size ≤ 281474976710656 →
    Calls Tryd.prog 29 #[ptr p, .string s] w fun e w' => ∃ F', e = .returned (.int .i64 (d.removeR s).2) ∧ DK w' p F' (d.removeR s).1 ∧ Ext F w w' F'
  fail : ∀ (w : World) (p : Addr) (F : Nat → Bool) (d : AD) (n : Int), DK w p F d → Good d → I63 n →
    Calls Tryd.prog 18 #[ptr p, .int .i64 n] w fun e w' => ∃ F', e = .returned (.int .i64 (d.failR n).2) ∧ DK w' p F' (d.failR n).1 ∧ Ext F w w' F'
  size : ∀ (w : World) (p : Addr) (F : Nat → Bool) (d : AD) (s : ByteArray), DK w p F d → Good d → s.size ≤ 281474976710656 →
    Calls Tryd.prog 22 #[ptr p, .string s] w fun e w' => e = .returned (.int .i64 (if d.has s then ((d.get s).n : Int) else 0)) ∧ Below w.heap.size w w'
  list : ∀ (w : World) (p : Addr) (F : Nat → Bool) (d : AD), DK w p F d → Good d →
    Calls Tryd.prog 58 #[ptr p] w fun e w' => ∃ v, e = .returned v ∧ SS w' v d.names ∧ Below w.heap.size w w'
  files : ∀ (w : World) (p : Addr) (F : Nat → Bool) (d : AD), DK w p F d → Good d →
    Calls Tryd.prog 44 #[ptr p] w fun e w' => ∃ v, e = .returned v ∧ LA w' v d.files ∧ Below w.heap.size w w'
  used : ∀ (w : World) (p : Addr) (F : Nat → Bool) (d : AD), DK w p F d → Good d →
    Calls Tryd.prog 56 #[ptr p] w fun e w' => e = .returned (.int .i64 (usedN d.L : Int)) ∧ Below w.heap.size w w'
  ops : ∀ (w : World) (p : Addr) (F : Nat → Bool) (d : AD), DK w p F d → Good d →
    Calls Tryd.prog 45 #[ptr p] w fun e w' => e = .returned (.int .i64 d.ops) ∧ Below w.heap.size w w'
  down : ∀ (w : World) (p : Addr) (F : Nat → Bool) (d : AD), DK w p F d → Good d →
    Calls Tryd.prog 46 #[ptr p] w fun e w' => e = .returned (.bool d.down) ∧ Below w.heap.size w w'
/-! of nil -/
structure NilSays : Prop where
  make : ∀ (w : World) (s : ByteArray) (n : Int), Calls Tryd.prog 16 #[.pointer none, .string s, .int .i64 n] w fun e w' => e = .returned (.int .i64 11) ∧ Below w.heap.size w w'
  rename : ∀ (w : World) (s t : ByteArray), Calls Tryd.prog 28 #[.pointer none, .string s, .string t] w fun e w' => e = .returned (.int .i64 11) ∧ Below w.heap.size w w'
  remove : ∀ (w : World) (s : ByteArray), Calls Tryd.prog 29 #[.pointer none, .string s] w fun e w' => e = .returned (.int .i64 11) ∧ Below w.heap.size w w'
  fail : ∀ (w : World) (n : Int), Calls Tryd.prog 18 #[.pointer none, .int .i64 n] w fun e w' => e = .returned (.int .i64 11) ∧ Below w.heap.size w w'
  size : ∀ (w : World) (s : ByteArray), Calls Tryd.prog 22 #[.pointer none, .string s] w fun e w' => e = .returned (.int .i64 0) ∧ Below w.heap.size w w'
  list : ∀ (w : World), Calls Tryd.prog 58 #[.pointer none] w fun e w' => ∃ a c, e = .returned (.slice a 0 c) ∧ Below w.heap.size w w'
  files : ∀ (w : World), Calls Tryd.prog 44 #[.pointer none] w fun e w' => ∃ a c, e = .returned (.slice a 0 c) ∧ Below w.heap.size w w'
  used : ∀ (w : World), Calls Tryd.prog 56 #[.pointer none] w fun e w' => e = .returned (.int .i64 0) ∧ Below w.heap.size w w'
  ops : ∀ (w : World), Calls Tryd.prog 45 #[.pointer none] w fun e w' => e = .returned (.int .i64 0) ∧ Below w.heap.size w w'
  down : ∀ (w : World), Calls Tryd.prog 46 #[.pointer none] w fun e w' => e = .returned (.bool false) ∧ Below w.heap.size w w'
/-! what follows -/
theorem DiskSays.below {DK : World → Addr → (Nat → Bool) → AD → Prop} (H : DiskSays DK) {w w' : World} {p : Addr} {F : Nat → Bool} {d : AD} (h : DK w p F d) (hb : Below w.heap.size w w') : DK w' p F d :=
  H.keep h hb.size fun k hk => hb.block k (H.foot h k hk)
/-- what changes G alone leaves a disk apart from G -/
theorem DiskSays.apart {DK : World → Addr → (Nat → Bool) → AD → Prop} (H : DiskSays DK) {w w' : World} {p : Addr} {F G G' : Nat → Bool} {d : AD} (h : DK w p F d) (hx : Ext G w w' G') (ha : ∀ k, F k = true → G k = false) : DK w' p F d :=
  H.keep h hx.size fun k hk => hx.block k (H.foot h k hk) (ha k hk)
end Go.Proofs.YtoempaagpgoilaaDoor
/-
  LAYER 8 (disk), the program's own disk: a file's row of sectors (each: what is lasting, what is seen, whether it waits), where it lies in memory (SR), and what one turn of a sector does to it. No condition.
-/
namespace Go.Proofs.YtoempaagpgoilaaDoor
open Go.RowKit
structure Sc where
  la : List Int
  se : List Int
  wt : Bool
structure Sc.ok (s : Sc) : Prop where
  la : s.la.length = 64
  se : s.se.length = 64
def Sc.cells (s : Sc) : List Value := il .u8 s.la ++ (il .u8 s.se ++ [.bool s.wt])
theorem Sc.ok.len {s : Sc} (h : s.ok) : s.cells.length = 129 := by simp [Sc.cells, il_length, h.la, h.se]
def Fits (S : List Sc) (cur : List Value) : Prop := ∀ (i : Nat) (s : Sc), S[i]? = some s → s.ok ∧ ∀ (j : Nat) (v : Value), s.cells[j]? = some v → cur[i * 129 + j]? = some v
/-- block g of w is a row of sectors, the first of them S, with room for c -/
def SR (w : World) (g c : Nat) (S : List Sc) : Prop := ∃ cur : List Value, w.heap[g]? = some (.cells cur.toArray 90 (0, 0)) ∧ cur.length = c * 129 ∧ S.length ≤ c ∧ c ≤ maxLen ∧ Fits S cur
theorem SR.keep {w w' : World} {g c : Nat} {S : List Sc} (h : SR w g c S) (hb : w'.heap[g]? = w.heap[g]?) : SR w' g c S := by
  obtain ⟨cur, h1, h2⟩ := h; exact ⟨cur, hb.trans h1, h2⟩
theorem SR.lt {w : World} {g c : Nat} {S : List Sc} (h : SR w g c S) : g < w.heap.size := by
  obtain ⟨cur, h1, _⟩ := h; exact (Array.getElem?_eq_some_iff.1 h1).1
theorem SR.cell {w : World} {g c : Nat} {S : List Sc} (h : SR w g c S) {i : Nat} {s : Sc} (hs : S[i]? = some s) {j : Nat} {v : Value} (hv : s.cells[j]? = some v) : w.cell? ⟨g, i * 129 + j, none⟩ = some v := by
  obtain ⟨cur, h1, _, _, _, h2⟩ := h
  rw [Joins.cell_of_block h1, List.getElem?_toArray]
  exact (h2 i s hs).2 j v hv
theorem SR.frozen {w : World} {g c : Nat} {S : List Sc} (h : SR w g c S) (j : Nat) : w.frozen? ⟨g, j, none⟩ = false := by
  obtain ⟨cur, h1, _⟩ := h; exact Joins.unfrozen_of_block h1 j
theorem SR.ok {w : World} {g c : Nat} {S : List Sc} (h : SR w g c S) {i : Nat} {s : Sc} (hs : S[i]? = some s) : s.ok := by
  obtain ⟨cur, _, _, _, _, h2⟩ := h; exact (h2 i s hs).1
theorem SR.la {w : World} {g c : Nat} {S : List Sc} (h : SR w g c S) {i : Nat} {s : Sc} (hs : S[i]? = some s) : At w g (i * 129) s.la := by
  refine ⟨(h.ok hs).la, fun k hk => h.cell hs ?_⟩
  have h1 := (h.ok hs).la
  unfold Sc.cells
  rw [List.getElem?_append_left (by rw [il_length]; omega), il_get _ _ _ (by omega)]
theorem SR.se {w : World} {g c : Nat} {S : List Sc} (h : SR w g c S) {i : Nat} {s : Sc} (hs : S[i]? = some s) : At w g (i * 129 + 64) s.se := by
  refine ⟨(h.ok hs).se, fun k hk => ?_⟩
  have h1 := (h.ok hs).la
  have h2 := (h.ok hs).se
  rw [Nat.add_assoc]
  refine h.cell hs ?_
  unfold Sc.cells
  rw [List.getElem?_append_right (by rw [il_length]; omega), il_length, h1, show 64 + k - 64 = k from by omega, List.getElem?_append_left (by rw [il_length]; omega), il_get _ _ _ (by omega)]
theorem SR.wt {w : World} {g c : Nat} {S : List Sc} (h : SR w g c S) {i : Nat} {s : Sc} (hs : S[i]? = some s) : w.cell? ⟨g, i * 129 + 128, none⟩ = some (.bool s.wt) := by
  have h1 := (h.ok hs).la
  have h2 := (h.ok hs).se
  refine h.cell hs ?_
  unfold Sc.cells
  rw [List.getElem?_append_right (by rw [il_length]; omega), il_length, h1, List.getElem?_append_right (by rw [il_length]; omega), il_length, h2]; rfl
theorem splice_get {α : Type} (L : List α) (off : Nat) (cs : List α) (hf : off + cs.length ≤ L.length) (q : Nat) :
    (splice L off cs)[q]? = if q < off then L[q]? else if q < off + cs.length then cs[q - off]? else L[q]? := by
  unfold splice
  by_cases h1 : q < off
  · rw [if_pos h1, List.getElem?_append_left (by simp; omega), List.getElem?_take_of_lt h1]
  · rw [if_neg h1, List.getElem?_append_right (by simp; omega), List.length_take, Nat.min_eq_left (by omega)]
    by_cases h2 : q < off + cs.length
    · rw [if_pos h2, List.getElem?_append_left (by omega)]
    · rw [if_neg h2, List.getElem?_append_right (by omega), List.getElem?_drop]
      congr 1; omega
theorem Fits.splice {S : List Sc} {cur : List Value} {i : Nat} {s s' : Sc} {j : Nat} {vs : List Value} (h : Fits S cur) (hs : S[i]? = some s) (hk : s'.ok) (hc : s'.cells = splice s.cells j vs) (hj : j + vs.length ≤ 129) (hl : (i + 1) * 129 ≤ cur.length) :
    Fits (S.set i s') (Go.splice cur (i * 129 + j) vs) := by
  have hlen := (h i s hs).1.len
  intro q t ht
  by_cases hq : q = i
  · subst hq
    have hi := (List.getElem?_eq_some_iff.1 hs).1
    rw [List.getElem?_set_self hi] at ht
    obtain rfl := Option.some.inj ht
    refine ⟨hk, fun m v hv => ?_⟩
    rw [hc, splice_get _ _ _ (by omega)] at hv
    rw [splice_get _ _ _ (by omega)]
    by_cases h1 : m < j
    · rw [if_pos h1] at hv; rw [if_pos (by omega)]; exact (h q s hs).2 m v hv
    · rw [if_neg h1] at hv; rw [if_neg (by omega)]
      by_cases h2 : m < j + vs.length
      · rw [if_pos h2] at hv; rw [if_pos (by omega), ← hv]; congr 1; omega
      · rw [if_neg h2] at hv; rw [if_neg (by omega)]; exact (h q s hs).2 m v hv
  · rw [List.getElem?_set_ne (Ne.symm hq)] at ht
    obtain ⟨ho, h2⟩ := h q t ht
    refine ⟨ho, fun m v hv => ?_⟩
    have hm : m < 129 := by have := (List.getElem?_eq_some_iff.1 hv).1; rw [ho.len] at this; exact this
    rw [splice_get _ _ _ (by omega), ← h2 m v hv]
    by_cases h1 : q < i
    · rw [if_pos (by omega)]
    · rw [if_neg (by omega), if_neg (by omega)]
/-- one turn of the i-th sector -/
theorem SR.turn {w' : World} {g c : Nat} {S : List Sc} {i : Nat} {s s' : Sc} {cur : List Value} {j : Nat} {vs : List Value} (hl : cur.length = c * 129) (hc : S.length ≤ c) (hm : c ≤ maxLen) (hf : Fits S cur) (hs : S[i]? = some s) (hk : s'.ok)
    (he : s'.cells = splice s.cells j vs) (hj : j + vs.length ≤ 129) (hw : w'.heap[g]? = some (.cells (splice cur (i * 129 + j) vs).toArray 90 (0, 0))) : SR w' g c (S.set i s') := by
  have hi := (List.getElem?_eq_some_iff.1 hs).1
  have h1 : (i + 1) * 129 ≤ cur.length := by rw [hl]; exact Nat.mul_le_mul_right _ (by omega)
  exact ⟨_, hw, by rw [length_splice _ _ _ (by omega), hl], by simpa using hc, hm, hf.splice hs hk he hj h1⟩
theorem grown_setCells (g : Nat) : ∀ (vs : List Value) (o : Nat) (w : World), w.grownBy (w.setCells g o vs) (some g)
  | [], _, w => ⟨rfl, rfl, rfl, Nat.le_refl _, fun _ _ _ => rfl⟩
  | v :: vs, o, w => by
    have h := grown_setCells g vs (o + 1) (w.setCell ⟨g, o, none⟩ v)
    have hs : (w.setCell ⟨g, o, none⟩ v).heap.size = w.heap.size := by simp
    exact ⟨h.os, h.tape, h.output, by have := h.size; rw [hs] at this; exact this, fun i hi hne => (h.block i (by rw [hs]; exact hi) hne).trans (Below.heap_setCell w ⟨g, o, none⟩ v i (fun e => hne (by rw [e])))⟩
theorem grown_setCell (g o : Nat) (v : Value) (w : World) : w.grownBy (w.setCell ⟨g, o, none⟩ v) (some g) := grown_setCells g [v] o w
theorem grown_trans {a b c : World} {row : Option Nat} (h : a.grownBy b row) (k : b.grownBy c row) : a.grownBy c row :=
  ⟨k.os.trans h.os, k.tape.trans h.tape, k.output.trans h.output, Nat.le_trans h.size k.size, fun i hi hne => (k.block i (Nat.lt_of_lt_of_le hi h.size) hne).trans (h.block i hi hne)⟩
theorem grown_drew {a b : World} {row : Option Nat} (h : a.grownBy b row) : a.grownBy b.drew row := ⟨h.os, h.tape, h.output, h.size, h.block⟩
theorem At.range {w : World} {b o : Nat} {zs : List Int} (h : At w b o zs) : w.rangeAt b o (il .u8 zs) := by
  intro j v hv
  have hj : j < zs.length := by have := (List.getElem?_eq_some_iff.1 hv).1; rwa [il_length] at this
  rw [il_get _ _ _ hj] at hv
  rw [h.2 j (by rw [← h.1]; exact hj)]; exact hv
section
variable {ops : Array Oper} {rest : List Oper} {op : Oper} {a : Act} {w : World} {K : Act → World → Prop} {Q : Exit → Act → World → Prop}
end
end Go.Proofs.YtoempaagpgoilaaDoor
/-
  LAYER 8 (disk), the program's own disk: what (*sector).settle does. No condition.
-/
namespace Go.Proofs.YtoempaagpgoilaaDoor
open Go.RowKit
end Go.Proofs.YtoempaagpgoilaaDoor
/-
  LAYER 8 (disk), the program's own disk: where it lies in memory (Dk: its six cells, its map from names to rows of sectors), and what a look-up, a store and a deletion in the map come to. No condition.
-/
namespace Go.Proofs.YtoempaagpgoilaaDoor
open Go.RowKit
/-- a file, the block of its row, and the room there -/
structure MF where
  f : AF
  g : Nat
  c : Nat
def MF.nm (x : MF) : ByteArray := x.f.name
abbrev zS : Value := .slice none 0 0
def MF.v (x : MF) : Value := .slice (some ⟨x.g, 0, none⟩) x.f.n x.c
def MF.dat (x : MF) : DataW Unit := .agg [.lit (.int .i64 (x.g : Int)), .lit (.int .i64 (x.f.n : Int)), .lit (.int .i64 (x.c : Int))]
/-- how a row of sectors in the map reads -/
def secR (v : Value) : Option (DataW Unit × List MemPlace) :=
  match v with
  | .slice none 0 0 => some (.nil, [])
  | .slice (some ⟨b, 0, none⟩) n c => some (.agg [.lit (.int .i64 (b : Int)), .lit (.int .i64 (n : Int)), .lit (.int .i64 (c : Int))], [])
  | _ => none
theorem secE : ElemR MF.v zS secR MF.dat where
  lit x := rfl
  nil := rfl
  inv := by
    intro v x ps h
    unfold secR at h
    split at h
    · simp [MF.dat] at h
    · rename_i b n c
      simp only [MF.dat, Option.some.injEq, Prod.mk.injEq, DataW.agg.injEq, List.cons.injEq, DataW.lit.injEq, Lit.int.injEq, true_and, and_true] at h
      obtain ⟨⟨h1, h2, h3⟩, _⟩ := h
      obtain rfl : b = x.g := by omega
      obtain rfl : n = x.f.n := by omega
      obtain rfl : c = x.c := by omega
      rfl
    · simp at h
  inv_nil := by
    intro v ps h
    unfold secR at h
    split at h
    · rfl
    · simp at h
    · simp at h
/-- a file's sectors -/
def secsOf (f : AF) : List Sc := (List.range f.n).map fun i => ⟨chunk f.las i, chunk f.seen i, f.ws.getD i false⟩
theorem secsOf_length (f : AF) : (secsOf f).length = f.n := by simp [secsOf]
theorem secsOf_get (f : AF) (i : Nat) (h : i < f.n) : (secsOf f)[i]? = some ⟨chunk f.las i, chunk f.seen i, f.ws.getD i false⟩ := by simp [secsOf, h]
abbrev MapOf (w : World) (bm : Nat) (l : List MF) : Prop := MO MF.nm MF.dat secR Tryd.prog 9 w bm l
def dCells (bm : Nat) (d : AD) (fl : Bool) (lf : Int) : Array Value := #[.int .i64 d.cap, .map (some bm), .int .i64 d.ops, .bool d.down, .bool fl, .int .i64 lf]
/-- the disk's own block -/
def DBk (w : World) (b bm : Nat) (d : AD) (fl : Bool) (lf : Int) : Prop := w.heap[b]? = some (.cells (dCells bm d fl lf) 55 (0, 0))
structure Dk (w : World) (b bm : Nat) (l : List MF) (d : AD) : Prop where
  blk : ∃ (fl : Bool) (lf : Int), DBk w b bm d fl lf ∧ (d.down = false → fl = d.told ∧ lf = d.after)
  map : MapOf w bm l
  row : ∀ x ∈ l, SR w x.g x.c (secsOf x.f)
  nodup : (l.map MF.g).Nodup
  files : d.L = l.map MF.f
/-- the blocks of a disk -/
def own (b bm : Nat) (l : List MF) (k : Nat) : Prop := k = b ∨ k = bm ∨ ∃ x ∈ l, x.g = k
theorem Dk.keep {w w' : World} {b bm : Nat} {l : List MF} {d : AD} (h : Dk w b bm l d) (hb : ∀ k, own b bm l k → w'.heap[k]? = w.heap[k]?) : Dk w' b bm l d := by
  obtain ⟨fl, lf, h1, h2⟩ := h.blk
  exact ⟨⟨fl, lf, (hb b (.inl rfl)).trans h1, h2⟩, h.map.keep (hb bm (.inr (.inl rfl))), fun x hx => (h.row x hx).keep (hb _ (.inr (.inr ⟨x, hx, rfl⟩))), h.nodup, h.files⟩
theorem Dk.lt {w : World} {b bm : Nat} {l : List MF} {d : AD} (h : Dk w b bm l d) : ∀ k, own b bm l k → k < w.heap.size := by
  rintro k (rfl | rfl | ⟨x, hx, rfl⟩)
  · obtain ⟨fl, lf, h1, _⟩ := h.blk
    exact (Array.getElem?_eq_some_iff.1 h1).1
  · exact h.map.lt
  · exact (h.row x hx).lt
theorem Dk.below {w w' : World} {b bm : Nat} {l : List MF} {d : AD} (h : Dk w b bm l d) (hb : Below w.heap.size w w') : Dk w' b bm l d := h.keep fun k hk => hb.block k (h.lt k hk)
theorem Dk.ne {w : World} {b bm : Nat} {l : List MF} {d : AD} (h : Dk w b bm l d) : b ≠ bm ∧ ∀ x ∈ l, x.g ≠ b ∧ x.g ≠ bm := by
  obtain ⟨fl, lf, h1, _⟩ := h.blk
  obtain ⟨es, clock, h2⟩ := h.map.obj
  refine ⟨fun e => ?_, fun x hx => ⟨fun e => ?_, fun e => ?_⟩⟩
  · subst e; unfold DBk at h1; rw [h1] at h2; cases h2
  · obtain ⟨cur, h3, _⟩ := h.row x hx
    rw [e] at h3; unfold DBk at h1; rw [h1] at h3
    simp at h3
  · obtain ⟨cur, h3, _⟩ := h.row x hx
    rw [e, h2] at h3; cases h3
/-- the cells -/
theorem DBk.cells {w : World} {b bm : Nat} {d : AD} {fl : Bool} {lf : Int} (h : DBk w b bm d fl lf) :
    w.cell? ⟨b, 0, none⟩ = some (.int .i64 d.cap) ∧ w.cell? ⟨b, 1, none⟩ = some (.map (some bm)) ∧ w.cell? ⟨b, 2, none⟩ = some (.int .i64 d.ops) ∧ w.cell? ⟨b, 3, none⟩ = some (.bool d.down) ∧ w.cell? ⟨b, 4, none⟩ = some (.bool fl) ∧ w.cell? ⟨b, 5, none⟩ = some (.int .i64 lf) := by
  have hc := fun j => cell_of_row w b j _ _ _ h
  exact ⟨hc 0, hc 1, hc 2, hc 3, hc 4, hc 5⟩
theorem DBk.frozen {w : World} {b bm : Nat} {d : AD} {fl : Bool} {lf : Int} (h : DBk w b bm d fl lf) (j : Nat) : w.frozen? ⟨b, j, none⟩ = false := Joins.unfrozen_of_block h j
theorem DBk.set {w : World} {b bm : Nat} {d : AD} {fl : Bool} {lf : Int} (h : DBk w b bm d fl lf) (j : Nat) (v : Value) : (w.setCell ⟨b, j, none⟩ v).heap[b]? = some (.cells ((dCells bm d fl lf).setIfInBounds j v) 55 (0, 0)) := Joins.block_setCell h _
/-- a look-up -/
theorem find_at {α : Type} (p : α → Bool) : ∀ l : List α, l.find? p = l[l.findIdx p]?
  | [] => rfl
  | x :: l => by
    rw [List.find?_cons, List.findIdx_cons]
    cases hx : p x with
    | true => simp
    | false => simp [find_at p l]
theorem findIdx_map {α β : Type} (f : α → β) (p : β → Bool) : ∀ l : List α, (l.map f).findIdx p = l.findIdx (fun x => p (f x))
  | [] => rfl
  | x :: l => by rw [List.map_cons, List.findIdx_cons, List.findIdx_cons, findIdx_map f p l]
theorem Dk.has {w : World} {b bm : Nat} {l : List MF} {d : AD} (h : Dk w b bm l d) (s : ByteArray) (hs : d.has s) : ∃ x, l[idxN d.L s]? = some x ∧ x.f = d.get s ∧ x ∈ l ∧ lookV MF.nm MF.v zS l s = x.v := by
  have h1 := d.get_at s hs
  rw [h.files, List.getElem?_map] at h1
  obtain ⟨x, hx, hf⟩ := Option.map_eq_some_iff.1 h1
  have hx2 : l[idxN d.L s]? = some x := by rw [h.files]; exact hx
  refine ⟨x, hx2, hf, List.mem_of_getElem? hx2, ?_⟩
  unfold lookV atBy
  rw [find_at]
  have e : l.findIdx (fun x => decide (MF.nm x = s)) = idxN d.L s := by
    rw [h.files]; unfold idxN; rw [findIdx_map]; rfl
  rw [e, hx2]
theorem Dk.hasnt {w : World} {b bm : Nat} {l : List MF} {d : AD} (h : Dk w b bm l d) (s : ByteArray) (hs : ¬ d.has s) : lookV MF.nm MF.v zS l s = zS := by
  unfold lookV atBy
  have e : l.find? (fun x => decide (MF.nm x = s)) = none := by
    rw [List.find?_eq_none]
    intro x hx
    have := has_mem hs x.f (by rw [h.files]; exact List.mem_map_of_mem hx)
    simp only [decide_eq_true_eq]; exact this
  rw [e]
theorem map_out (l : List MF) (s : ByteArray) : (outBy MF.nm l s).map MF.f = withoutF (l.map MF.f) s := by
  unfold outBy withoutF
  rw [List.filter_map]; rfl
theorem map_in (l : List MF) (x : MF) : (inBy MF.nm l x).map MF.f = insF (l.map MF.f) x.f := by
  unfold inBy insF insK
  rw [findIdx_map, List.map_append, List.map_cons, List.map_take, List.map_drop]; rfl
theorem mem_out {l : List MF} {s : ByteArray} {x : MF} : x ∈ outBy MF.nm l s ↔ x ∈ l ∧ x.f.name ≠ s := by
  unfold outBy
  rw [List.mem_filter, Bool.not_eq_true', decide_eq_false_iff_not]; exact Iff.rfl
theorem in_perm (l : List MF) (x : MF) : (inBy MF.nm l x).Perm (x :: l) := by
  unfold inBy
  refine List.perm_middle.trans ?_
  rw [List.take_append_drop]
theorem mem_in {l : List MF} {x y : MF} : y ∈ inBy MF.nm l x ↔ y = x ∨ y ∈ l := by rw [(in_perm l x).mem_iff, List.mem_cons]
theorem nodup_out {l : List MF} (h : (l.map MF.g).Nodup) (s : ByteArray) : ((outBy MF.nm l s).map MF.g).Nodup := h.sublist (List.filter_sublist.map _)
theorem nodup_in {l : List MF} (h : (l.map MF.g).Nodup) (x : MF) (hx : ∀ y ∈ l, y.g ≠ x.g) : ((inBy MF.nm l x).map MF.g).Nodup := by
  rw [((in_perm l x).map MF.g).nodup_iff, List.map_cons, List.nodup_cons]
  refine ⟨fun hm => ?_, h⟩
  obtain ⟨y, hy, e⟩ := List.mem_map.1 hm
  exact hx y hy e
/-! the program's disk, as the laws' walks speak of it -/
def DKp (w : World) (p : Addr) (F : Nat → Bool) (d : AD) : Prop := Foot F w.heap.size ∧ ∃ b bm l, p = ⟨b, 0, none⟩ ∧ Dk w b bm l d ∧ ∀ k, own b bm l k → F k = true
theorem DKp.keep {w w' : World} {p : Addr} {F : Nat → Bool} {d : AD} (h : DKp w p F d) (hs : w.heap.size ≤ w'.heap.size) (hk : ∀ k, F k = true → w'.heap[k]? = w.heap[k]?) : DKp w' p F d := by
  obtain ⟨hF, b, bm, l, rfl, hd, ho⟩ := h
  exact ⟨hF.mono hs, b, bm, l, rfl, hd.keep fun k h => hk k (ho k h), ho⟩
/-- behind a call that turns blocks of F alone -/
theorem DKp.done {w w' : World} {b bm : Nat} {l : List MF} {F : Nat → Bool} {d : AD} (hF : Foot F w.heap.size) (hx : Ext F w w' F) (hd : Dk w' b bm l d) (ho : ∀ k, own b bm l k → k < w.heap.size → F k = true) :
    ∃ F', DKp w' ⟨b, 0, none⟩ F' d ∧ Ext F w w' F' :=
  ⟨plusF F w.heap.size w'.heap.size, ⟨plusF_foot hF hx.size, b, bm, l, rfl, hd, fun k hk => by
    by_cases hl : k < w.heap.size
    · exact plusF_mono _ _ _ _ (ho k hk hl)
    · exact plusF_in _ _ _ _ (by omega) (hd.lt k hk)⟩, ⟨hx.os, hx.tape, hx.output, hx.size, hx.block, fun k hk => by simp [plusF]; intro h1; omega⟩⟩
theorem Ext.grown {F : Nat → Bool} {w w' w'' : World} (h : Ext F w w' F) {g : Nat} (k : w'.grownBy w'' (some g)) (hg : F g = true ∨ w.heap.size ≤ g) : Ext F w w'' F :=
  ⟨k.os.trans h.os, k.tape.trans h.tape, k.output.trans h.output, Nat.le_trans h.size k.size, fun i hi hf => (k.block i (Nat.lt_of_lt_of_le hi h.size) (fun e => by
    obtain rfl := Option.some.inj e
    rcases hg with hg | hg
    · rw [hg] at hf; simp at hf
    · omega)).trans (h.block i hi hf), fun _ _ => rfl⟩
theorem Ext.drew {F : Nat → Bool} {w w' : World} (h : Ext F w w' F) : Ext F w w'.drew F := ⟨h.os, h.tape, h.output, h.size, h.block, h.foot⟩
end Go.Proofs.YtoempaagpgoilaaDoor
/-
  THE LIBRARY's CONTRACTS THAT THE WALKS USE, at this program's own numbers: slices_Sort_string, slices_Sort_string_none, strconv_Itoa. Each is one application of the kit's own theorem. Written by the kit's lay-shelf.mjs and lay-plain.mjs, pruned by tools/shelf.py.
-/
namespace Go.Proofs.YtoempaagpgoilaaDoor
open Go.Proofs Go.Shelf
def Tryd.laysM171_ren : Go.Shelf.Ren := ⟨fun | 171 => 59 | 243 => 62 | 246 => 65 | 283 => 77 | 284 => 78 | 285 => 79 | 286 => 80 | 129 => 76 | 317 => 87 | 318 => 88 | 319 => 89 | 320 => 90 | 337 => 92 | 338 => 93 | n => n, fun | 3 => 3 | 9 => 9 | 2 => 2 | 4 => 4 | 171 => 109 | 0 => 0 | 53 => 108 | 37 => 111 | 5 => 5 | 173 => 112 | 212 => 122 | 51 => 106 | 20 => 20 | 213 => 123 | 46 => 31 | 232 => 128 | 233 => 87 | n => n, fun | 17 => 0 | 18 => 1 | 19 => 2 | n => n⟩
theorem Tryd.laysM171 : Go.Proofs.LaysM.n171 Tryd.prog Tryd.laysM171_ren := {
  mixed := by kernel_rfl
  f129 := Tryd.func76.trans (congrArg some (by kernel_rfl))
  f171 := Tryd.func59.trans (congrArg some (by kernel_rfl))
  f243 := Tryd.func62.trans (congrArg some (by kernel_rfl))
  f246 := Tryd.func65.trans (congrArg some (by kernel_rfl))
  f283 := Tryd.func77.trans (congrArg some (by kernel_rfl))
  f284 := Tryd.func78.trans (congrArg some (by kernel_rfl))
  f285 := Tryd.func79.trans (congrArg some (by kernel_rfl))
  f286 := Tryd.func80.trans (congrArg some (by kernel_rfl))
  f317 := Tryd.func87.trans (congrArg some (by kernel_rfl))
  f318 := Tryd.func88.trans (congrArg some (by kernel_rfl))
  f319 := Tryd.func89.trans (congrArg some (by kernel_rfl))
  f320 := Tryd.func90.trans (congrArg some (by kernel_rfl))
  f337 := Tryd.func92.trans (congrArg some (by kernel_rfl))
  f338 := Tryd.func93.trans (congrArg some (by kernel_rfl))
  t0 := Tryd.underlying0
  a0 := Tryd.isAgg0
  z0 := Tryd.sizeOf0
  v0 := Tryd.zeroValue0
  t2 := Tryd.underlying2
  a2 := Tryd.isAgg2
  z2 := Tryd.sizeOf2
  v2 := Tryd.zeroValue2
  t3 := Tryd.underlying3
  a3 := Tryd.isAgg3
  z3 := Tryd.sizeOf3
  v3 := Tryd.zeroValue3
  t4 := Tryd.underlying4
  a4 := Tryd.isAgg4
  z4 := Tryd.sizeOf4
  v4 := Tryd.zeroValue4
  t5 := Tryd.underlying5
  a5 := Tryd.isAgg5
  z5 := Tryd.sizeOf5
  v5 := Tryd.zeroValue5
  t9 := Tryd.underlying9
  a9 := Tryd.isAgg9
  z9 := Tryd.sizeOf9
  v9 := Tryd.zeroValue9
  t20 := Tryd.underlying20
  a20 := Tryd.isAgg20
  z20 := Tryd.sizeOf20
  v20 := Tryd.zeroValue20
  t37 := Tryd.underlying111
  a37 := Tryd.isAgg111
  z37 := Tryd.sizeOf111
  v37 := Tryd.zeroValue111
  t46 := Tryd.underlying31
  a46 := Tryd.isAgg31
  z46 := Tryd.sizeOf31
  v46 := Tryd.zeroValue31
  t51 := Tryd.underlying106
  a51 := Tryd.isAgg106
  z51 := Tryd.sizeOf106
  v51 := Tryd.zeroValue106
  t53 := Tryd.underlying108
  a53 := Tryd.isAgg108
  z53 := Tryd.sizeOf108
  v53 := Tryd.zeroValue108
  t171 := Tryd.underlying109
  a171 := Tryd.isAgg109
  z171 := Tryd.sizeOf109
  v171 := Tryd.zeroValue109
  t173 := Tryd.underlying112
  a173 := Tryd.isAgg112
  z173 := Tryd.sizeOf112
  v173 := Tryd.zeroValue112
  t212 := Tryd.underlying122
  a212 := Tryd.isAgg122
  z212 := Tryd.sizeOf122
  v212 := Tryd.zeroValue122
  t213 := Tryd.underlying123
  a213 := Tryd.isAgg123
  z213 := Tryd.sizeOf123
  t232 := Tryd.underlying128
  a232 := Tryd.isAgg128
  z232 := Tryd.sizeOf128
  v232 := Tryd.zeroValue128
  t233 := Tryd.underlying87
  a233 := Tryd.isAgg87
  z233 := Tryd.sizeOf87
  v233 := Tryd.zeroValue87
  g17 := by kernel_rfl
  g18 := by kernel_rfl
  g19 := by kernel_rfl
  i0 := by kernel_rfl
  i2 := by kernel_rfl
  i3 := by kernel_rfl
  i4 := by kernel_rfl
  i5 := by kernel_rfl
  i9 := by kernel_rfl
  i20 := by kernel_rfl
  i37 := by kernel_rfl
  i46 := by kernel_rfl
  i51 := by kernel_rfl
  i53 := by kernel_rfl
  i171 := by kernel_rfl
  i173 := by kernel_rfl
  i212 := by kernel_rfl
  i232 := by kernel_rfl
  i233 := by kernel_rfl
  m17 := by kernel_rfl
  m18 := by kernel_rfl
  m19 := by kernel_rfl }
open Go.RowKit Go.Sort Go.Lib in
/-- strconv.Itoa: "Itoa is equivalent to FormatInt(int64(i), 10).": i's DECIMAL NUMERAL ('Lib.itoa': a '-' where i is negative, then the digits), FOR EVERY int. The world behind the call: the world before it, new blocks behind the heap (the library's 'var a [24]byte'), draws. (LAID: no walk: one application.) -/
theorem Tryd.strconv_Itoa (n : Int) (h0 : -9223372036854775808 ≤ n) (h1 : n ≤ 9223372036854775807) (w : World) (htab : Lib.TabIs Tryd.prog w "internal/strconv.uint64pow10" .u64 Lib.pow10Tab) :
    Calls Tryd.prog 59 #[.int .i64 n] w fun e w' => e = .returned (.string ⟨(Lib.itoa n).toArray⟩) ∧ ∃ k os, w' = grow (w.drewN k) os := Any.strconv_Itoa Tryd.laysM171 n h0 h1 w htab
def Tryd.lays190_ren : Go.Shelf.Ren := ⟨fun | 190 => 61 | 125 => 64 | 258 => 63 | 128 => 75 | 129 => 76 | 302 => 66 | 303 => 67 | 304 => 68 | 305 => 69 | 306 => 70 | 307 => 71 | 308 => 72 | 309 => 73 | 310 => 74 | 333 => 81 | 329 => 82 | 330 => 83 | 334 => 84 | 335 => 85 | 336 => 86 | 344 => 91 | n => n, fun | 31 => 64 | 9 => 9 | 3 => 3 | 46 => 31 | 0 => 0 | 51 => 106 | 53 => 108 | 4 => 4 | 183 => 98 | 182 => 97 | 131 => 103 | 5 => 5 | 218 => 114 | 222 => 118 | 228 => 125 | 229 => 126 | n => n, fun | n => n⟩
theorem Tryd.lays190 : Go.Proofs.Lays.n190 Tryd.prog Tryd.lays190_ren := {
  mixed := by kernel_rfl
  f125 := Tryd.func64.trans (congrArg some (by kernel_rfl))
  f128 := Tryd.func75.trans (congrArg some (by kernel_rfl))
  f129 := Tryd.func76.trans (congrArg some (by kernel_rfl))
  f190 := Tryd.func61.trans (congrArg some (by kernel_rfl))
  f258 := Tryd.func63.trans (congrArg some (by kernel_rfl))
  f302 := Tryd.func66.trans (congrArg some (by kernel_rfl))
  f303 := Tryd.func67.trans (congrArg some (by kernel_rfl))
  f304 := Tryd.func68.trans (congrArg some (by kernel_rfl))
  f305 := Tryd.func69.trans (congrArg some (by kernel_rfl))
  f306 := Tryd.func70.trans (congrArg some (by kernel_rfl))
  f307 := Tryd.func71.trans (congrArg some (by kernel_rfl))
  f308 := Tryd.func72.trans (congrArg some (by kernel_rfl))
  f309 := Tryd.func73.trans (congrArg some (by kernel_rfl))
  f310 := Tryd.func74.trans (congrArg some (by kernel_rfl))
  f329 := Tryd.func82.trans (congrArg some (by kernel_rfl))
  f330 := Tryd.func83.trans (congrArg some (by kernel_rfl))
  f333 := Tryd.func81.trans (congrArg some (by kernel_rfl))
  f334 := Tryd.func84.trans (congrArg some (by kernel_rfl))
  f335 := Tryd.func85.trans (congrArg some (by kernel_rfl))
  f336 := Tryd.func86.trans (congrArg some (by kernel_rfl))
  f344 := Tryd.func91.trans (congrArg some (by kernel_rfl))
  t0 := Tryd.underlying0
  a0 := Tryd.isAgg0
  z0 := Tryd.sizeOf0
  v0 := Tryd.zeroValue0
  t3 := Tryd.underlying3
  a3 := Tryd.isAgg3
  z3 := Tryd.sizeOf3
  v3 := Tryd.zeroValue3
  t4 := Tryd.underlying4
  a4 := Tryd.isAgg4
  z4 := Tryd.sizeOf4
  v4 := Tryd.zeroValue4
  t5 := Tryd.underlying5
  a5 := Tryd.isAgg5
  z5 := Tryd.sizeOf5
  v5 := Tryd.zeroValue5
  t9 := Tryd.underlying9
  a9 := Tryd.isAgg9
  z9 := Tryd.sizeOf9
  v9 := Tryd.zeroValue9
  t31 := Tryd.underlying64
  a31 := Tryd.isAgg64
  z31 := Tryd.sizeOf64
  v31 := Tryd.zeroValue64
  t46 := Tryd.underlying31
  a46 := Tryd.isAgg31
  z46 := Tryd.sizeOf31
  v46 := Tryd.zeroValue31
  t51 := Tryd.underlying106
  a51 := Tryd.isAgg106
  z51 := Tryd.sizeOf106
  v51 := Tryd.zeroValue106
  t53 := Tryd.underlying108
  a53 := Tryd.isAgg108
  z53 := Tryd.sizeOf108
  v53 := Tryd.zeroValue108
  t131 := Tryd.underlying103
  a131 := Tryd.isAgg103
  z131 := Tryd.sizeOf103
  v131 := Tryd.zeroValue103
  t182 := Tryd.underlying97
  a182 := Tryd.isAgg97
  z182 := Tryd.sizeOf97
  v182 := Tryd.zeroValue97
  t183 := Tryd.underlying98
  a183 := Tryd.isAgg98
  z183 := Tryd.sizeOf98
  v183 := Tryd.zeroValue98
  t218 := Tryd.underlying114
  a218 := Tryd.isAgg114
  z218 := Tryd.sizeOf114
  v218 := Tryd.zeroValue114
  t222 := Tryd.underlying118
  a222 := Tryd.isAgg118
  z222 := Tryd.sizeOf118
  v222 := Tryd.zeroValue118
  t228 := Tryd.underlying125
  a228 := Tryd.isAgg125
  z228 := Tryd.sizeOf125
  v228 := Tryd.zeroValue125
  t229 := Tryd.underlying126
  a229 := Tryd.isAgg126
  z229 := Tryd.sizeOf126
  v229 := Tryd.zeroValue126 }
open Go.Sort Go.RowKit in
theorem Tryd.slices_Sort_string (blk off cap : Nat) (ss : List (List UInt8)) (w : World) (hH : Holds encStr w blk off ss.toArray) (hblk : blk < w.heap.size) (hsz : ss.length < 4611686018427387904) :
    Calls Tryd.prog 61 #[.slice (some ⟨blk, off, none⟩) ss.length cap] w fun e w' =>
      e = .returned (.tuple #[]) ∧ ∃ n os, w' = grow (putRow encStr (Sort.ahead w n) blk off (ss.mergeSort fun x y => decide (x ≤ y)).toArray) os := Any.slices_Sort_string Tryd.lays190 blk off cap ss w hH hblk hsz
open Go.RowKit Go.Sort in
/-- .. and plain. (LAID: no walk: one application.) -/
theorem Tryd.slices_Sort_string_none (p : Option Addr) (cap : Nat) (w : World) :
    Calls Tryd.prog 61 #[.slice p 0 cap] w fun e w' => e = .returned (.tuple #[]) ∧ w' = w := Any.slices_Sort_string_none Tryd.lays190 p cap w
end Go.Proofs.YtoempaagpgoilaaDoor
/-
  LAYER 8 (disk): what was laid is as it may be, and a crash leaves it as it is (plain mathematics). No condition.
-/
namespace Go.Proofs.YtoempaagpgoilaaDoor
open Go.RowKit
/-- nothing waits, and what is seen is lasting -/
structure Still (d : AD) : Prop where
  down : d.down = false
  told : d.told = false
  after : d.after = 0
  file : ∀ f ∈ d.L, f.ws = List.replicate f.n false ∧ f.seen = f.las
theorem Still.new (c : Int) : Still (AD.newD c) := ⟨rfl, rfl, rfl, fun f hf => by simp [AD.newD] at hf⟩
theorem Still.put {d : AD} (s : Still d) {f : AF} (hf : f.ws = List.replicate f.n false ∧ f.seen = f.las) : Still (d.withF f) :=
  ⟨s.down, s.told, s.after, fun g hg => by
    rcases mem_ins.1 hg with rfl | hg
    · exact hf
    · exact s.file g (mem_without.1 hg).1⟩
theorem Still.op {d : AD} (s : Still d) : Still d.opd := by
  unfold AD.opd
  rw [if_neg (by rw [s.told]; simp)]
  exact ⟨s.down, s.told, by show (if d.told = true then wrap64 (d.after - 1) else d.after) = 0; rw [s.told]; simpa using s.after, s.file⟩
end Go.Proofs.YtoempaagpgoilaaDoor
