/-
  TEXTS JOINED: Texts, DiskSays, Info, Fill, DkRow, DkSettle, DkAbs. Each one's own words stand at its head.
-/
import Derived.Test.YtpoiapfgbbmekaaGreatDoorJ0
import Derived.Deep.DeepAppendWide
import Derived.Test.YtpoiapfgbbmekaaGreatDoorJ4
import Derived.Test.YtpoiapfgbbmekaaGreatDoorJ3
import Derived.Deep.MidRow
import Derived.Test.YtpoiapfgbbmekaaGreatDoorJ2
namespace Go.Proofs.YtpoiapfgbbmekaaGreatDoor
open Go.RowKit
def SS (w : World) (v : Value) (l : List ByteArray) : Prop := CS 1 w v l.length (l.map .string)
theorem SS.kin {w w' : World} (hb : Kin w w') {v : Value} {l : List ByteArray} (h : SS w v l) : SS w' v l := CS.kin hb h
theorem SS.at_ {w : World} {a : Option Addr} {n cap : Nat} {l : List ByteArray} (h : SS w (.slice a n cap) l) (i : Nat) (s : ByteArray) (hs : l[i]? = some s) :
    ∃ b off, a = some ⟨b, off, none⟩ ∧ w.cell? ⟨b, off + i, none⟩ = some (.string s) := by
  obtain ⟨hi, rfl⟩ := List.getElem?_eq_some_iff.1 hs
  have hn : n = l.length := by obtain ⟨_, _, hv, _⟩ := h; simp at hv; exact hv.2.1
  subst hn
  obtain ⟨b, off, rfl, hc⟩ := CS.at_ h i hi
  refine ⟨b, off, rfl, ?_⟩
  have h1 := hc 0 (by omega)
  simpa [hi] using h1
theorem SS.below {w w' : World} {v : Value} {l : List ByteArray} (h : SS w v l) (hb : Below w.heap.size w w') : SS w' v l := h.kin (Kin.below hb)
theorem str_parts : (Tryz.prog.info? 9).map (fun i => (i.zero, i.size, i.bytes)) = some (some (.string ByteArray.empty), 1, 16) := by kernel_rfl
theorem wpl_app_str {w : World} {ops : Array Oper} {rest : List Oper} {o : Oper} {a : Act} {Q : Exit → Act → World → Prop} (hgd : o.guard = none) (s x : Operand)
    (ho : o.op = .call { callee := .builtin .append, args := #[s, x], argTypes := #[110, 110] })
    (base : Nat) (v : Value) (n : Nat) (xs : List Value) (hs : a.eval s = v) (hown : Hid (w.ownsRow base 9 1 v n xs))
    (ad : Addr) (y : ByteArray) (hx : a.eval x = .slice (some ad) 1 1) (hcell : w.cell? ad = some (.string y)) (hn : n ≤ 1000000) (hbase : base ≤ w.heap.size)
    (h : ∀ v' w', Hid (w'.ownsRow base 9 1 v' (n + 1) (xs ++ [.string y])) → Hid (w.grownBy w' v.ownBlock) → wpList Tryz.prog ops Q rest (a.put o.dst v') w') : wpList Tryz.prog ops Q (o :: rest) a w := by
  obtain ⟨i, hi, hz0, hz1, hz2⟩ := info_parts str_parts
  refine wpList_append_own_wide w hgd s x 110 ho base 9 i (.string ByteArray.empty) 1 16 Tryz.underlying110 hi hz0 hz1 hz2 rfl (by omega) v n xs hs hown.out ad 1 1 [.string y] hx rfl ?_ (by simp [Value.oneCell']) (by unfold maxLen; omega) (by omega) hbase ?_
  · intro j u hj
    match j, hj with
    | 0, hj => simp at hj; subst hj; simpa [Addr.add] using hcell
  · intro v' w' h1 h2 _
    exact h v' w' h1 h2
theorem grown_alloc_trans {w w1 w2 : World} {o : Obj} {row : Option Nat} (h : (w1.alloc o).grownBy w2 row) (hb : Below w.heap.size w w1) (hr : ∀ j, row = some j → w.heap.size ≤ j) : Below w.heap.size w w2 :=
  (hb.alloc hb.size o).grown h (by have := hb.size; have e : (w1.alloc o).heap.size = w1.heap.size + 1 := by { show (w1.heap.push o).size = _; simp }; omega) hr
end Go.Proofs.YtpoiapfgbbmekaaGreatDoor
namespace Go.Proofs.YtpoiapfgbbmekaaGreatDoor
open Go.RowKit
def AD.files (d : AD) : List LFile := d.L.map fun f => (f.name, f.n, f.las)
def AD.names (d : AD) : List ByteArray := d.L.map AF.name
abbrev noF : Nat → Bool := fun _ => false
abbrev ptr (p : Addr) : Value := .pointer (some p)
structure DiskSays (DK : World → Addr → (Nat → Bool) → AD → Prop) : Prop where
  keep : ∀ {w w' : World} {p : Addr} {F : Nat → Bool} {d : AD}, DK w p F d → w.heap.size ≤ w'.heap.size → (∀ k, F k = true → w'.heap[k]? = w.heap[k]?) → DK w' p F d
  foot : ∀ {w : World} {p : Addr} {F : Nat → Bool} {d : AD}, DK w p F d → Foot F w.heap.size
  new : ∀ (c : Int) (w : World), I63 c → Calls Tryz.prog 7 #[.int .i64 c] w fun e w' => ∃ p F, e = .returned (ptr p) ∧ DK w' p F (AD.newD c) ∧ Ext noF w w' F
  make : ∀ (w : World) (p : Addr) (F : Nat → Bool) (d : AD) (s : ByteArray) (n : Int), DK w p F d → Good d → s.size ≤ 281474976710656 → I63 n →
    Calls Tryz.prog 13 #[ptr p, .string s, .int .i64 n] w fun e w' => ∃ F', e = .returned (.int .i64 (d.makeR s n).2) ∧ DK w' p F' (d.makeR s n).1 ∧ Ext F w w' F'
  write : ∀ (w : World) (p : Addr) (F : Nat → Bool) (d : AD) (s : ByteArray) (at_ : Int) (v : Value) (m : Nat) (fs : List Int), DK w p F d → Good d → s.size ≤ 281474976710656 → I63 at_ → FS (mask F w) v m fs → Bytes fs → m ≤ 1000000 →
    Calls Tryz.prog 19 #[ptr p, .string s, .int .i64 at_, v] w fun e w' => ∃ F', e = .returned (.int .i64 (d.writeR s at_ m fs).2) ∧ DK w' p F' (d.writeR s at_ m fs).1 ∧ Ext F w w' F'
  sync : ∀ (w : World) (p : Addr) (F : Nat → Bool) (d : AD) (s : ByteArray), DK w p F d → Good d → s.size ≤ 281474976710656 →
    Calls Tryz.prog 22 #[ptr p, .string s] w fun e w' => ∃ F', e = .returned (.int .i64 (d.syncR s).2) ∧ DK w' p F' (d.syncR s).1 ∧ Ext F w w' F'
  rename : ∀ (w : World) (p : Addr) (F : Nat → Bool) (d : AD) (s t : ByteArray), DK w p F d → Good d → s.size ≤ 281474976710656 → t.size ≤ 281474976710656 →
    Calls Tryz.prog 33 #[ptr p, .string s, .string t] w fun e w' => ∃ F', e = .returned (.int .i64 (d.renameR s t).2) ∧ DK w' p F' (d.renameR s t).1 ∧ Ext F w w' F'
  fail : ∀ (w : World) (p : Addr) (F : Nat → Bool) (d : AD) (n : Int), DK w p F d → Good d → I63 n →
    Calls Tryz.prog 15 #[ptr p, .int .i64 n] w fun e w' => ∃ F', e = .returned (.int .i64 (d.failR n).2) ∧ DK w' p F' (d.failR n).1 ∧ Ext F w w' F'
  crash : ∀ (w : World) (p : Addr) (F : Nat → Bool) (d : AD) (v : Value) (len : Nat) (kb : List Int) (torn cut : Int), DK w p F d → Good d → RI .u8 (mask F w) v len kb → Bytes kb → I63 torn → I63 cut →
    Calls Tryz.prog 17 #[ptr p, .agg #[v, .int .i64 torn, .int .i64 cut]] w fun e w' => ∃ F', e = .returned (.tuple #[]) ∧ DK w' p F' (d.crashR kb torn cut) ∧ Ext F w w' F'
  read : ∀ (w : World) (p : Addr) (F : Nat → Bool) (d : AD) (s : ByteArray) (at_ n : Int), DK w p F d → Good d → s.size ≤ 281474976710656 → I63 at_ → I63 n →
    Calls Tryz.prog 84 #[ptr p, .string s, .int .i64 at_, .int .i64 n] w fun e w' => ∃ v, e = .returned (.tuple #[v, .int .i64 (d.readR s at_ n).2.2]) ∧ FS w' v (d.readR s at_ n).2.1 (d.readR s at_ n).1 ∧ Below w.heap.size w w'
  size : ∀ (w : World) (p : Addr) (F : Nat → Bool) (d : AD) (s : ByteArray), DK w p F d → Good d → s.size ≤ 281474976710656 →
    Calls Tryz.prog 41 #[ptr p, .string s] w fun e w' => e = .returned (.int .i64 (if d.has s then ((d.get s).n : Int) else 0)) ∧ Below w.heap.size w w'
  list : ∀ (w : World) (p : Addr) (F : Nat → Bool) (d : AD), DK w p F d → Good d →
    Calls Tryz.prog 91 #[ptr p] w fun e w' => ∃ v, e = .returned v ∧ SS w' v d.names ∧ Below w.heap.size w w'
  files : ∀ (w : World) (p : Addr) (F : Nat → Bool) (d : AD), DK w p F d → Good d →
    Calls Tryz.prog 61 #[ptr p] w fun e w' => ∃ v, e = .returned v ∧ LA w' v d.files ∧ Below w.heap.size w w'
  used : ∀ (w : World) (p : Addr) (F : Nat → Bool) (d : AD), DK w p F d → Good d →
    Calls Tryz.prog 89 #[ptr p] w fun e w' => e = .returned (.int .i64 (usedN d.L : Int)) ∧ Below w.heap.size w w'
  waiting : ∀ (w : World) (p : Addr) (F : Nat → Bool) (d : AD), DK w p F d → Good d →
    Calls Tryz.prog 63 #[ptr p] w fun e w' => e = .returned (.int .i64 (waitingN d.L : Int)) ∧ Below w.heap.size w w'
  ops : ∀ (w : World) (p : Addr) (F : Nat → Bool) (d : AD), DK w p F d → Good d →
    Calls Tryz.prog 26 #[ptr p] w fun e w' => e = .returned (.int .i64 d.ops) ∧ Below w.heap.size w w'
  down : ∀ (w : World) (p : Addr) (F : Nat → Bool) (d : AD), DK w p F d → Good d →
    Calls Tryz.prog 62 #[ptr p] w fun e w' => e = .returned (.bool d.down) ∧ Below w.heap.size w w'
structure NilSays : Prop where
  make : ∀ (w : World) (s : ByteArray) (n : Int), Calls Tryz.prog 13 #[.pointer none, .string s, .int .i64 n] w fun e w' => e = .returned (.int .i64 11) ∧ Below w.heap.size w w'
  write : ∀ (w : World) (s : ByteArray) (n : Int), Calls Tryz.prog 19 #[.pointer none, .string s, .int .i64 n, .slice none 0 0] w fun e w' => e = .returned (.int .i64 11) ∧ Below w.heap.size w w'
  read : ∀ (w : World) (s : ByteArray) (n m : Int), Calls Tryz.prog 84 #[.pointer none, .string s, .int .i64 n, .int .i64 m] w fun e w' => ∃ v, e = .returned (.tuple #[v, .int .i64 11]) ∧ Below w.heap.size w w'
  sync : ∀ (w : World) (s : ByteArray), Calls Tryz.prog 22 #[.pointer none, .string s] w fun e w' => e = .returned (.int .i64 11) ∧ Below w.heap.size w w'
  rename : ∀ (w : World) (s t : ByteArray), Calls Tryz.prog 33 #[.pointer none, .string s, .string t] w fun e w' => e = .returned (.int .i64 11) ∧ Below w.heap.size w w'
  fail : ∀ (w : World) (n : Int), Calls Tryz.prog 15 #[.pointer none, .int .i64 n] w fun e w' => e = .returned (.int .i64 11) ∧ Below w.heap.size w w'
  crash : ∀ (w : World), Calls Tryz.prog 17 #[.pointer none, .agg #[.slice none 0 0, .int .i64 0, .int .i64 0]] w fun e w' => e = .returned (.tuple #[]) ∧ Below w.heap.size w w'
  size : ∀ (w : World) (s : ByteArray), Calls Tryz.prog 41 #[.pointer none, .string s] w fun e w' => e = .returned (.int .i64 0) ∧ Below w.heap.size w w'
  list : ∀ (w : World), Calls Tryz.prog 91 #[.pointer none] w fun e w' => ∃ a c, e = .returned (.slice a 0 c) ∧ Below w.heap.size w w'
  files : ∀ (w : World), Calls Tryz.prog 61 #[.pointer none] w fun e w' => ∃ a c, e = .returned (.slice a 0 c) ∧ Below w.heap.size w w'
  used : ∀ (w : World), Calls Tryz.prog 89 #[.pointer none] w fun e w' => e = .returned (.int .i64 0) ∧ Below w.heap.size w w'
  waiting : ∀ (w : World), Calls Tryz.prog 63 #[.pointer none] w fun e w' => e = .returned (.int .i64 0) ∧ Below w.heap.size w w'
  ops : ∀ (w : World), Calls Tryz.prog 26 #[.pointer none] w fun e w' => e = .returned (.int .i64 0) ∧ Below w.heap.size w w'
  down : ∀ (w : World), Calls Tryz.prog 62 #[.pointer none] w fun e w' => e = .returned (.bool false) ∧ Below w.heap.size w w'
theorem DiskSays.below {DK : World → Addr → (Nat → Bool) → AD → Prop} (H : DiskSays DK) {w w' : World} {p : Addr} {F : Nat → Bool} {d : AD} (h : DK w p F d) (hb : Below w.heap.size w w') : DK w' p F d :=
  H.keep h hb.size fun k hk => hb.block k (H.foot h k hk)
theorem DiskSays.apart {DK : World → Addr → (Nat → Bool) → AD → Prop} (H : DiskSays DK) {w w' : World} {p : Addr} {F G G' : Nat → Bool} {d : AD} (h : DK w p F d) (hx : Ext G w w' G') (ha : ∀ k, F k = true → G k = false) : DK w' p F d :=
  H.keep h hx.size fun k hk => hx.block k (H.foot h k hk) (ha k hk)
end Go.Proofs.YtpoiapfgbbmekaaGreatDoor
namespace Go.Proofs.YtpoiapfgbbmekaaGreatDoor
theorem Tryz.info_u8 : (Tryz.prog.info? 5).map (fun i => (i.zero, i.size, i.bytes)) = some (some (.int .u8 0), 1, 1) := by kernel_rfl
end Go.Proofs.YtpoiapfgbbmekaaGreatDoor
namespace Go.Proofs.YtpoiapfgbbmekaaGreatDoor
open Go.RowKit
theorem splice_get {α : Type} (L : List α) (off : Nat) (cs : List α) (hf : off + cs.length ≤ L.length) (q : Nat) :
    (splice L off cs)[q]? = if q < off then L[q]? else if q < off + cs.length then cs[q - off]? else L[q]? := by
  unfold splice
  by_cases h1 : q < off
  · rw [if_pos h1, List.getElem?_append_left (by simp; omega), List.getElem?_take_of_lt h1]
  · rw [if_neg h1, List.getElem?_append_right (by simp; omega), List.length_take, Nat.min_eq_left (by omega)]
    by_cases h2 : q < off + cs.length
    · rw [if_pos h2, List.getElem?_append_left (by omega)]
    · rw [if_neg h2, List.getElem?_append_right (by omega), List.getElem?_drop]
      congr 1; omega
theorem heap_setCells (g : Nat) (t : TypeId) (fr : Nat × Nat) : ∀ (vs : List Value) (o : Nat) (w : World) (cur : List Value), o + vs.length ≤ cur.length → w.heap[g]? = some (.cells cur.toArray t fr) → (w.setCells g o vs).heap[g]? = some (.cells (splice cur o vs).toArray t fr)
  | [], o, w, cur, _, h => by
    have e : splice cur o ([] : List Value) = cur := by simp [splice]
    rw [e]; exact h
  | v :: vs, o, w, cur, hl, h => by
    have h1 : (w.setCell ⟨g, o, none⟩ v).heap[g]? = some (.cells (cur.set o v).toArray t fr) := by
      have := Joins.block_setCell (i := o) h v
      simpa using this
    have h2 := heap_setCells g t fr vs (o + 1) (w.setCell ⟨g, o, none⟩ v) (cur.set o v) (by simp at hl ⊢; omega) h1
    have e : splice (cur.set o v) (o + 1) vs = splice cur o (v :: vs) := by
      refine List.ext_getElem? fun q => ?_
      simp only [List.length_cons] at hl
      rw [splice_get _ _ _ (by simp; omega), splice_get _ _ _ (by simp; omega)]
      by_cases h3 : q < o
      · rw [if_pos (by omega), if_pos h3, List.getElem?_set_ne (by omega)]
      · rw [if_neg h3]
        by_cases h4 : q = o
        · subst h4
          rw [if_pos (by omega), if_pos (by simp), List.getElem?_set_self (by omega), Nat.sub_self]; rfl
        · rw [if_neg (by omega)]
          by_cases h5 : q < o + 1 + vs.length
          · rw [if_pos h5, if_pos (by simp; omega), show q - o = (q - (o + 1)) + 1 from by omega, List.getElem?_cons_succ]
          · rw [if_neg h5, if_neg (by simp; omega), List.getElem?_set_ne (by omega)]
    rw [e] at h2
    exact h2
theorem grown_setCells (g : Nat) : ∀ (vs : List Value) (o : Nat) (w : World), w.grownBy (w.setCells g o vs) (some g)
  | [], _, w => ⟨rfl, rfl, rfl, Nat.le_refl _, fun _ _ _ => rfl⟩
  | v :: vs, o, w => by
    have h := grown_setCells g vs (o + 1) (w.setCell ⟨g, o, none⟩ v)
    have hs : (w.setCell ⟨g, o, none⟩ v).heap.size = w.heap.size := by simp
    exact ⟨h.os, h.tape, h.output, by have := h.size; rw [hs] at this; exact this, fun i hi hne => (h.block i (by rw [hs]; exact hi) hne).trans (Below.heap_setCell w ⟨g, o, none⟩ v i (fun e => hne (by rw [e])))⟩
theorem grown_setCell (g o : Nat) (v : Value) (w : World) : w.grownBy (w.setCell ⟨g, o, none⟩ v) (some g) := grown_setCells g [v] o w
theorem grown_trans {a b c : World} {row : Option Nat} (h : a.grownBy b row) (k : b.grownBy c row) : a.grownBy c row :=
  ⟨k.os.trans h.os, k.tape.trans h.tape, k.output.trans h.output, Nat.le_trans h.size k.size, fun i hi hne => (k.block i (Nat.lt_of_lt_of_le hi h.size) hne).trans (h.block i hi hne)⟩
theorem grown_refl (w : World) (row : Option Nat) : w.grownBy w row := ⟨rfl, rfl, rfl, Nat.le_refl _, fun _ _ _ => rfl⟩
theorem grown_drew {a b : World} {row : Option Nat} (h : a.grownBy b row) : a.grownBy b.drew row := ⟨h.os, h.tape, h.output, h.size, h.block⟩
def RW (w : World) (g : Nat) (zs : List Int) : Prop := w.heap[g]? = some (.cells (il .u8 zs).toArray 63 (0, 0))
theorem RW.keep {w w' : World} {g : Nat} {zs : List Int} (h : RW w g zs) (hb : Below w.heap.size w w') : RW w' g zs := by
  unfold RW at *; rw [hb.block g (Array.getElem?_eq_some_iff.1 h).1]; exact h
theorem RW.fs {w : World} {g n : Nat} {zs : List Int} (h : RW w g zs) (hz : zs.length = n * 64) (hn : n ≤ 1000000) : FS w (.slice (some ⟨g, 0, none⟩) n n) n zs := by
  refine ⟨_, n, rfl, hz, Nat.le_refl _, by omega, fun h => by simp at h, fun _ => ⟨g, 0, rfl, fun j hj => ?_⟩⟩
  rw [Nat.zero_add, cell_of_row w g j _ _ _ h]
  simpa using il_get .u8 zs j (by omega)
theorem wpl_put_row {w : World} {ops : Array Oper} {rest : List Oper} {o : Oper} {a : Act} {Q : Exit → Act → World → Prop} (hgd : o.guard = none) (x y : Operand) (ho : o.op = .store 63 x y)
    (g n i : Nat) (zs ss : List Int) (h : RW w g zs) (hz : zs.length = n * 64) (hi : i < n) (hs : ss.length = 64) (off : Nat) (hoff : i * 64 = off) (hx : a.eval x = .pointer (some ⟨g, off, none⟩)) (hy : a.eval y = .agg (sv ss))
    (hK : ∀ w', Hid (RW w' g (splice zs off ss)) → Hid (w.grownBy w' (some g)) → wpList Tryz.prog ops Q rest (a.put o.dst undef) w') : wpList Tryz.prog ops Q (o :: rest) a w := by
  subst hoff
  have hle : (i + 1) * 64 ≤ n * 64 := Nat.mul_le_mul_right _ hi
  refine wpList_store_mid hgd 63 x y ho g (i * 64) (sv ss) hx hy ?_ (sv_info _ hs) (sv_one _) ?_
  · intro j hj
    rw [sv_size, hs] at hj
    refine ⟨?_, Joins.unfrozen_of_block h _⟩
    rw [cell_of_row w g _ _ _ _ h]
    have := il_get .u8 zs (i * 64 + j) (by omega)
    simp [this]
  · have e : (sv ss).toList = il .u8 ss := by simp [sv]
    rw [e]
    refine hK _ ?_ (grown_setCells _ _ _ _)
    unfold RW
    rw [← il_splice]
    exact heap_setCells g _ _ _ _ _ _ (by rw [il_length, il_length, hs, hz]; omega) h
theorem row_of64 {w : World} {B g : Nat} {e : TypeId} {n : Nat} {xs : List Value} (h : w.ownsRow B e 64 (.slice (some ⟨g, 0, none⟩) n n) n xs) : w.heap[g]? = some (.cells xs.toArray e (0, 0)) := by
  rcases h.2 with ⟨h', _⟩ | ⟨g', cap', cur, h', _, hg, _, _, hcs, htake⟩
  · simp at h'
  · simp only [Value.slice.injEq, Option.some.injEq, Addr.mk.injEq, and_true, true_and] at h'
    obtain ⟨rfl, rfl⟩ := h'
    rw [hg, ← htake, List.take_of_length_le (by simp [hcs])]
end Go.Proofs.YtpoiapfgbbmekaaGreatDoor
namespace Go.Proofs.YtpoiapfgbbmekaaGreatDoor
open Go.RowKit
structure Sc where
  la : List Int
  se : List Int
  wt : Bool
structure Sc.ok (s : Sc) : Prop where
  la : s.la.length = 64
  se : s.se.length = 64
def Sc.cells (s : Sc) : List Value := il .u8 s.la ++ (il .u8 s.se ++ [.bool s.wt])
theorem Sc.ok.len {s : Sc} (h : s.ok) : s.cells.length = 129 := by simp [Sc.cells, il_length, h.la, h.se]
def Fits (S : List Sc) (cur : List Value) : Prop := ∀ (i : Nat) (s : Sc), S[i]? = some s → s.ok ∧ ∀ (j : Nat) (v : Value), s.cells[j]? = some v → cur[i * 129 + j]? = some v
def SR (w : World) (g c : Nat) (S : List Sc) : Prop := ∃ cur : List Value, w.heap[g]? = some (.cells cur.toArray 133 (0, 0)) ∧ cur.length = c * 129 ∧ S.length ≤ c ∧ c ≤ maxLen ∧ Fits S cur
theorem SR.keep {w w' : World} {g c : Nat} {S : List Sc} (h : SR w g c S) (hb : w'.heap[g]? = w.heap[g]?) : SR w' g c S := by
  obtain ⟨cur, h1, h2⟩ := h; exact ⟨cur, hb.trans h1, h2⟩
theorem SR.lt {w : World} {g c : Nat} {S : List Sc} (h : SR w g c S) : g < w.heap.size := by
  obtain ⟨cur, h1, _⟩ := h; exact (Array.getElem?_eq_some_iff.1 h1).1
theorem SR.cell {w : World} {g c : Nat} {S : List Sc} (h : SR w g c S) {i : Nat} {s : Sc} (hs : S[i]? = some s) {j : Nat} {v : Value} (hv : s.cells[j]? = some v) : w.cell? ⟨g, i * 129 + j, none⟩ = some v := by
  obtain ⟨cur, h1, _, _, _, h2⟩ := h
  rw [Joins.cell_of_block h1, List.getElem?_toArray]
  exact (h2 i s hs).2 j v hv
theorem SR.frozen {w : World} {g c : Nat} {S : List Sc} (h : SR w g c S) (j : Nat) : w.frozen? ⟨g, j, none⟩ = false := by
  obtain ⟨cur, h1, _⟩ := h; exact Joins.unfrozen_of_block h1 j
theorem SR.ok {w : World} {g c : Nat} {S : List Sc} (h : SR w g c S) {i : Nat} {s : Sc} (hs : S[i]? = some s) : s.ok := by
  obtain ⟨cur, _, _, _, _, h2⟩ := h; exact (h2 i s hs).1
theorem SR.la {w : World} {g c : Nat} {S : List Sc} (h : SR w g c S) {i : Nat} {s : Sc} (hs : S[i]? = some s) : At w g (i * 129) s.la := by
  refine ⟨(h.ok hs).la, fun k hk => h.cell hs ?_⟩
  have h1 := (h.ok hs).la
  unfold Sc.cells
  rw [List.getElem?_append_left (by rw [il_length]; omega), il_get _ _ _ (by omega)]
theorem SR.se {w : World} {g c : Nat} {S : List Sc} (h : SR w g c S) {i : Nat} {s : Sc} (hs : S[i]? = some s) : At w g (i * 129 + 64) s.se := by
  refine ⟨(h.ok hs).se, fun k hk => ?_⟩
  have h1 := (h.ok hs).la
  have h2 := (h.ok hs).se
  rw [Nat.add_assoc]
  refine h.cell hs ?_
  unfold Sc.cells
  rw [List.getElem?_append_right (by rw [il_length]; omega), il_length, h1, show 64 + k - 64 = k from by omega, List.getElem?_append_left (by rw [il_length]; omega), il_get _ _ _ (by omega)]
theorem SR.wt {w : World} {g c : Nat} {S : List Sc} (h : SR w g c S) {i : Nat} {s : Sc} (hs : S[i]? = some s) : w.cell? ⟨g, i * 129 + 128, none⟩ = some (.bool s.wt) := by
  have h1 := (h.ok hs).la
  have h2 := (h.ok hs).se
  refine h.cell hs ?_
  unfold Sc.cells
  rw [List.getElem?_append_right (by rw [il_length]; omega), il_length, h1, List.getElem?_append_right (by rw [il_length]; omega), il_length, h2]; rfl
theorem Fits.splice {S : List Sc} {cur : List Value} {i : Nat} {s s' : Sc} {j : Nat} {vs : List Value} (h : Fits S cur) (hs : S[i]? = some s) (hk : s'.ok) (hc : s'.cells = splice s.cells j vs) (hj : j + vs.length ≤ 129) (hl : (i + 1) * 129 ≤ cur.length) :
    Fits (S.set i s') (Go.splice cur (i * 129 + j) vs) := by
  have hlen := (h i s hs).1.len
  intro q t ht
  by_cases hq : q = i
  · subst hq
    have hi := (List.getElem?_eq_some_iff.1 hs).1
    rw [List.getElem?_set_self hi] at ht
    obtain rfl := Option.some.inj ht
    refine ⟨hk, fun m v hv => ?_⟩
    rw [hc, splice_get _ _ _ (by omega)] at hv
    rw [splice_get _ _ _ (by omega)]
    by_cases h1 : m < j
    · rw [if_pos h1] at hv; rw [if_pos (by omega)]; exact (h q s hs).2 m v hv
    · rw [if_neg h1] at hv; rw [if_neg (by omega)]
      by_cases h2 : m < j + vs.length
      · rw [if_pos h2] at hv; rw [if_pos (by omega), ← hv]; congr 1; omega
      · rw [if_neg h2] at hv; rw [if_neg (by omega)]; exact (h q s hs).2 m v hv
  · rw [List.getElem?_set_ne (Ne.symm hq)] at ht
    obtain ⟨ho, h2⟩ := h q t ht
    refine ⟨ho, fun m v hv => ?_⟩
    have hm : m < 129 := by have := (List.getElem?_eq_some_iff.1 hv).1; rw [ho.len] at this; exact this
    rw [splice_get _ _ _ (by omega), ← h2 m v hv]
    by_cases h1 : q < i
    · rw [if_pos (by omega)]
    · rw [if_neg (by omega), if_neg (by omega)]
theorem SR.turn {w' : World} {g c : Nat} {S : List Sc} {i : Nat} {s s' : Sc} {cur : List Value} {j : Nat} {vs : List Value} (hl : cur.length = c * 129) (hc : S.length ≤ c) (hm : c ≤ maxLen) (hf : Fits S cur) (hs : S[i]? = some s) (hk : s'.ok)
    (he : s'.cells = splice s.cells j vs) (hj : j + vs.length ≤ 129) (hw : w'.heap[g]? = some (.cells (splice cur (i * 129 + j) vs).toArray 133 (0, 0))) : SR w' g c (S.set i s') := by
  have hi := (List.getElem?_eq_some_iff.1 hs).1
  have h1 : (i + 1) * 129 ≤ cur.length := by rw [hl]; exact Nat.mul_le_mul_right _ (by omega)
  exact ⟨_, hw, by rw [length_splice _ _ _ (by omega), hl], by simpa using hc, hm, hf.splice hs hk he hj h1⟩
theorem splice_in {α : Type} (a b d vs : List α) (j : Nat) (hj : j + vs.length ≤ b.length) : splice (a ++ (b ++ d)) (a.length + j) vs = a ++ (splice b j vs ++ d) := by
  have hs := length_splice b j vs hj
  refine List.ext_getElem? fun q => ?_
  rw [splice_get _ _ _ (by simp; omega)]
  by_cases h1 : q < a.length
  · have e1 : (a ++ (b ++ d))[q]? = a[q]? := List.getElem?_append_left h1
    have e2 : (a ++ (splice b j vs ++ d))[q]? = a[q]? := List.getElem?_append_left h1
    rw [if_pos (by omega), e1, e2]
  · have e1 : (a ++ (b ++ d))[q]? = (b ++ d)[q - a.length]? := List.getElem?_append_right (by omega)
    have e2 : (a ++ (splice b j vs ++ d))[q]? = (splice b j vs ++ d)[q - a.length]? := List.getElem?_append_right (by omega)
    rw [e1, e2]
    by_cases h2 : q - a.length < b.length
    · have e3 : (b ++ d)[q - a.length]? = b[q - a.length]? := List.getElem?_append_left h2
      have e4 : (splice b j vs ++ d)[q - a.length]? = (splice b j vs)[q - a.length]? := List.getElem?_append_left (by rw [hs]; exact h2)
      rw [e3, e4, splice_get _ _ _ hj]
      by_cases h3 : q - a.length < j
      · rw [if_pos (by omega), if_pos h3]
      · rw [if_neg (by omega), if_neg h3]
        by_cases h4 : q - a.length < j + vs.length
        · rw [if_pos (by omega), if_pos h4]; congr 1; omega
        · rw [if_neg (by omega), if_neg h4]
    · have e3 : (b ++ d)[q - a.length]? = d[q - a.length - b.length]? := List.getElem?_append_right (by omega)
      have e4 : (splice b j vs ++ d)[q - a.length]? = d[q - a.length - (splice b j vs).length]? := List.getElem?_append_right (by rw [hs]; omega)
      rw [e3, e4, hs, if_neg (by omega), if_neg (by omega)]
theorem splice_at {α : Type} (b d vs : List α) (j : Nat) (hj : j + vs.length ≤ b.length) : splice (b ++ d) j vs = splice b j vs ++ d := by
  have := splice_in [] b d vs j hj
  simpa using this
theorem splice_all {α : Type} (b vs : List α) (h : vs.length = b.length) : splice b 0 vs = vs := by simp [splice, h]
theorem Sc.ok.turn_la {s : Sc} (h : s.ok) (j : Nat) (zs : List Int) (hj : j + zs.length ≤ 64) : (Sc.mk (splice s.la j zs) s.se s.wt).ok ∧ (Sc.mk (splice s.la j zs) s.se s.wt).cells = splice s.cells j (il .u8 zs) := by
  refine ⟨⟨by show (splice s.la j zs).length = 64; rw [length_splice _ _ _ (by rw [h.la]; exact hj)]; exact h.la, h.se⟩, ?_⟩
  unfold Sc.cells
  rw [splice_at _ _ _ _ (by rw [il_length, il_length, h.la]; exact hj), il_splice]
theorem Sc.ok.turn_se {s : Sc} (h : s.ok) (zs : List Int) (hz : zs.length = 64) : (Sc.mk s.la zs s.wt).ok ∧ (Sc.mk s.la zs s.wt).cells = splice s.cells 64 (il .u8 zs) := by
  refine ⟨⟨h.la, hz⟩, ?_⟩
  unfold Sc.cells
  have := splice_in (il .u8 s.la) (il .u8 s.se) [.bool s.wt] (il .u8 zs) 0 (by rw [il_length, il_length, h.se]; omega)
  rw [il_length, h.la] at this
  rw [this, splice_all _ _ (by rw [il_length, il_length, h.se, hz])]
theorem Sc.ok.turn_wt {s : Sc} (h : s.ok) (b : Bool) : (Sc.mk s.la s.se b).ok ∧ (Sc.mk s.la s.se b).cells = splice s.cells 128 [.bool b] := by
  refine ⟨⟨h.la, h.se⟩, ?_⟩
  unfold Sc.cells
  have := splice_in (il .u8 s.la ++ il .u8 s.se) [.bool s.wt] [] [.bool b] 0 (by simp)
  rw [List.length_append, il_length, il_length, h.la, h.se] at this
  simp only [List.append_nil, List.append_assoc] at this
  rw [splice_all [Value.bool s.wt] [Value.bool b] rfl] at this
  rw [this]
theorem At.range {w : World} {b o : Nat} {zs : List Int} (h : At w b o zs) : w.rangeAt b o (il .u8 zs) := by
  intro j v hv
  have hj : j < zs.length := by have := (List.getElem?_eq_some_iff.1 hv).1; rwa [il_length] at this
  rw [il_get _ _ _ hj] at hv
  rw [h.2 j (by rw [← h.1]; exact hj)]; exact hv
theorem SR.there {w : World} {g c : Nat} {S : List Sc} (h : SR w g c S) {i : Nat} {s : Sc} (hs : S[i]? = some s) (o n : Nat) (hn : o + n ≤ 129) : w.there g (i * 129 + o) n := by
  intro j hj
  refine ⟨?_, h.frozen _⟩
  rw [Nat.add_assoc]
  have h1 : (s.cells)[o + j]? = some (s.cells[o + j]'(by rw [(h.ok hs).len]; omega)) := List.getElem?_eq_getElem _
  rw [h.cell hs h1]; rfl
theorem SR.put_se {w : World} {g c : Nat} {S : List Sc} (h : SR w g c S) {i : Nat} {s : Sc} (hs : S[i]? = some s) (zs : List Int) (hz : zs.length = 64) : SR (w.setCells g (i * 129 + 64) (il .u8 zs)) g c (S.set i ⟨s.la, zs, s.wt⟩) := by
  have hx := h.ok hs
  have ht := hx.turn_se zs hz
  have hi := (List.getElem?_eq_some_iff.1 hs).1
  obtain ⟨cur, hc1, hc2, hc3, hc4, hc5⟩ := h
  have h1 : (i + 1) * 129 ≤ c * 129 := Nat.mul_le_mul_right _ (by omega)
  exact SR.turn hc2 hc3 hc4 hc5 hs ht.1 ht.2 (by rw [il_length]; omega) (heap_setCells g _ _ _ _ _ _ (by rw [il_length]; omega) hc1)
theorem SR.put_wt {w : World} {g c : Nat} {S : List Sc} (h : SR w g c S) {i : Nat} {s : Sc} (hs : S[i]? = some s) (b : Bool) : SR (w.setCells g (i * 129 + 128) [.bool b]) g c (S.set i ⟨s.la, s.se, b⟩) := by
  have hx := h.ok hs
  have ht := hx.turn_wt b
  have hi := (List.getElem?_eq_some_iff.1 hs).1
  obtain ⟨cur, hc1, hc2, hc3, hc4, hc5⟩ := h
  have h1 : (i + 1) * 129 ≤ c * 129 := Nat.mul_le_mul_right _ (by omega)
  exact SR.turn hc2 hc3 hc4 hc5 hs ht.1 ht.2 (by simp) (heap_setCells g _ _ _ _ _ _ (by simp; omega) hc1)
theorem run_storeVar_cell {P : Program} (w : World) (b o : Nat) (ty : TypeId) (v : Value) (ht : w.there b o 1) (hi : (P.info? ty).map (·.size) = some 1) (hv : v.cells = #[v]) (h1 : v.oneCell' = true) :
    (storeVar ty ⟨b, o, none⟩ v).run P w = .ok () (w.setCells b o [v]) := by
  have := run_storeCells_cells (P := P) b o [v] 0 w (fun j hj => by simpa using (ht j (by simpa using hj)).1) (fun j hj => by simpa using (ht j (by simpa using hj)).2) (fun u hu => by simp at hu; subst hu; exact h1)
  cases hq : P.info? ty with
  | none => simp [hq] at hi
  | some i =>
    have hs : 1 = i.size := by simp [hq] at hi; omega
    simp only [Nat.add_zero] at this
    simp [storeVar, sizeOf, typeInfo, hq, hv, ← hs, this]
section
variable {ops : Array Oper} {rest : List Oper} {op : Oper} {a : Act} {w : World} {K : Act → World → Prop} {Q : Exit → Act → World → Prop}
theorem wp_put_se (x y : Operand) (ho : op.op = .store 63 x y) (g c : Nat) (S : List Sc) (h : SR w g c S) (i : Nat) (s : Sc) (hs : S[i]? = some s) (zs : List Int) (hz : zs.length = 64) (o : Nat) (hoff : i * 129 + 64 = o)
    (hx : a.eval x = .pointer (some ⟨g, o, none⟩)) (hy : a.eval y = .agg (sv zs)) (hK : ∀ w', Hid (SR w' g c (S.set i ⟨s.la, zs, s.wt⟩)) → Hid (w.grownBy w' (some g)) → K (a.put op.dst undef) w') : op.wp Tryz.prog a w K Q := by
  subst hoff
  refine wp_store_mid 63 x y ho g _ (sv zs) hx hy (h.there hs 64 _ (by rw [sv_size]; omega)) (sv_info _ hz) (sv_one _) ?_
  have e : (sv zs).toList = il .u8 zs := by simp [sv]
  rw [e]
  exact hK _ (h.put_se hs zs hz) (grown_setCells _ _ _ _)
theorem wpl_put_se (hgd : op.guard = none) (x y : Operand) (ho : op.op = .store 63 x y) (g c : Nat) (S : List Sc) (h : SR w g c S) (i : Nat) (s : Sc) (hs : S[i]? = some s) (zs : List Int) (hz : zs.length = 64) (o : Nat) (hoff : i * 129 + 64 = o)
    (hx : a.eval x = .pointer (some ⟨g, o, none⟩)) (hy : a.eval y = .agg (sv zs)) (hK : ∀ w', Hid (SR w' g c (S.set i ⟨s.la, zs, s.wt⟩)) → Hid (w.grownBy w' (some g)) → wpList Tryz.prog ops Q rest (a.put op.dst undef) w') : wpList Tryz.prog ops Q (op :: rest) a w :=
  wpList_plain hgd fun _ hk => wp_put_se x y ho g c S h i s hs zs hz o hoff hx hy fun w' h1 h2 => hk _ _ (hK w' h1 h2)
theorem bool_size : (Tryz.prog.info? 4).map (·.size) = some 1 := by kernel_rfl
theorem wp_put_wt (x y : Operand) (ho : op.op = .store 4 x y) (g c : Nat) (S : List Sc) (h : SR w g c S) (i : Nat) (s : Sc) (hs : S[i]? = some s) (b : Bool) (o : Nat) (hoff : i * 129 + 128 = o)
    (hx : a.eval x = .pointer (some ⟨g, o, none⟩)) (hy : a.eval y = .bool b) (hK : ∀ w', Hid (SR w' g c (S.set i ⟨s.la, s.se, b⟩)) → Hid (w.grownBy w' (some g)) → K (a.put op.dst undef) w') : op.wp Tryz.prog a w K Q := by
  subst hoff
  have hrun := run_storeVar_cell (P := Tryz.prog) w g (i * 129 + 128) 4 (.bool b) (h.there hs 128 1 (by omega)) bool_size rfl rfl
  unfold Oper.wp execOp
  simp only [ho, hx, hy, Instr.storeAt, Instr.sureAddr, Sem.run_bind, Sem.run_pure, Result.andThen_ok, hrun]
  exact hK _ (h.put_wt hs b) (grown_setCells _ _ _ _)
theorem wpl_put_wt (hgd : op.guard = none) (x y : Operand) (ho : op.op = .store 4 x y) (g c : Nat) (S : List Sc) (h : SR w g c S) (i : Nat) (s : Sc) (hs : S[i]? = some s) (b : Bool) (o : Nat) (hoff : i * 129 + 128 = o)
    (hx : a.eval x = .pointer (some ⟨g, o, none⟩)) (hy : a.eval y = .bool b) (hK : ∀ w', Hid (SR w' g c (S.set i ⟨s.la, s.se, b⟩)) → Hid (w.grownBy w' (some g)) → wpList Tryz.prog ops Q rest (a.put op.dst undef) w') : wpList Tryz.prog ops Q (op :: rest) a w :=
  wpList_plain hgd fun _ hk => wp_put_wt x y ho g c S h i s hs b o hoff hx hy fun w' h1 h2 => hk _ _ (hK w' h1 h2)
end
end Go.Proofs.YtpoiapfgbbmekaaGreatDoor
namespace Go.Proofs.YtpoiapfgbbmekaaGreatDoor
open Go.RowKit
theorem mixN_splice (a b : List Int) (k : Nat) (hb : k ≤ b.length) : splice a 0 (b.take k) = mixN a b k := by
  simp [splice, mixN, Nat.min_eq_left hb]
theorem grown_setRow (w : World) (g : Nat) (cs : Array Value) : w.grownBy (w.setRow g cs) (some g) :=
  ⟨rfl, rfl, rfl, by simp, fun i _ hne => setRow_other w g i cs (fun e => hne (by rw [e]))⟩
theorem step_copy_row {ops : Array Oper} {o : Oper} {a : Act} {w : World} {K : Act → World → Prop} {Q : Exit → Act → World → Prop} {E : Prop} (hgd : o.guard = none) (d s : Operand)
    (ho : o.op = .call { callee := .builtin .copy, args := #[d, s], argTypes := #[36, 36] }) (g c i k : Nat) (S : List Sc) (x : Sc) (h : SR w g c S) (hs : S[i]? = some x) (hk : k ≤ 64) (o1 o2 : Nat) (h1 : i * 129 = o1) (h2 : i * 129 + 64 = o2)
    (hd : a.eval d = .slice (some ⟨g, o1, none⟩) k 64) (hv : a.eval s = .slice (some ⟨g, o2, none⟩) k 64)
    (hK : ∀ w', Hid (SR w' g c (S.set i ⟨mixN x.la x.se k, x.se, x.wt⟩)) → Hid (w.grownBy w' (some g)) → K (a.put o.dst (goInt (k : Int))) w') :
    if Region.wanted o (yielded ops a.tmps) = true then Oper.wp Tryz.prog o a w K Q else E := by
  subst h1; subst h2
  have hx := h.ok hs
  have hse := h.se hs
  have ht := hx.turn_la 0 (x.se.take k) (by simp [hx.se]; omega)
  rw [mixN_splice _ _ _ (by rw [hx.se]; exact hk)] at ht
  have hi := (List.getElem?_eq_some_iff.1 hs).1
  obtain ⟨cur, hc1, hc2, hc3, hc4, hc5⟩ := h
  have hlen : (x.se.take k).length = k := by simp [hx.se]; omega
  have hcl : (il .u8 (x.se.take k)).length = k := by rw [il_length, hlen]
  have hfit : i * 129 + k ≤ cur.length := by
    rw [hc2]
    have : (i + 1) * 129 ≤ c * 129 := Nat.mul_le_mul_right _ (by omega)
    omega
  have hw : Region.wanted o (yielded ops a.tmps) = true := by simp [Region.wanted, hgd]
  rw [if_pos hw]
  have hcells : ∀ j v, (il .u8 (x.se.take k))[j]? = some v → w.cell? ((⟨g, i * 129 + 64, none⟩ : Addr).add j) = some v := fun j v hv => by
    have hj : j < k := by have := (List.getElem?_eq_some_iff.1 hv).1; rwa [hcl] at this
    rw [il_get _ _ _ (by rw [hlen]; exact hj)] at hv
    rw [Addr.add_mid, hse.2 j (by omega), ← hv]
    congr 2
    simp [List.getD, hj]
  have hturn : ∀ w', w'.heap[g]? = some (.cells (splice cur (i * 129 + 0) (il .u8 (x.se.take k))).toArray 133 (0, 0)) → SR w' g c (S.set i ⟨mixN x.la x.se k, x.se, x.wt⟩) := fun w' hg1 =>
    SR.turn hc2 hc3 hc4 hc5 hs ht.1 ht.2 (by rw [hcl]; omega) hg1
  by_cases h0 : k = 0
  · subst h0
    have hrun := run_copy_none (P := Tryz.prog) w 36 36 o.type 5 (some ⟨g, i * 129, none⟩) (some ⟨g, i * 129 + 64, none⟩) 0 64 0 64 Tryz.underlying36 u8_size1 rfl
    unfold Oper.wp
    simp [execOp, ho, resolve, invoke, builtin, hd, hv, hrun, Result.andThen]
    exact hK w (hturn w (by rw [hc1]; simp [il, splice])) (grown_refl _ _)
  · have hrun := run_copy_row (P := Tryz.prog) w 36 36 o.type 5 g (i * 129) k 64 ⟨g, i * 129 + 64, none⟩ k 64 cur.toArray 133 (il .u8 (x.se.take k)) Tryz.underlying36 u8_size1 hc1 (by rw [hcl]; exact (Nat.min_self k).symm) hcells (by rw [hcl]; simpa using hfit) (il_one _ _)
    unfold Oper.wp
    simp [execOp, ho, resolve, invoke, builtin, hd, hv, hrun, Result.andThen, hcl]
    exact hK _ (hturn _ (by rw [setRow_heap w g _ _ _ _ hc1]; simp [splice, hcl])) (grown_setRow _ _ _)
set_option maxRecDepth 8000 in
set_option maxHeartbeats 1000000 in
theorem settle_any (w : World) (g c i k : Nat) (S : List Sc) (x : Sc) (h : SR w g c S) (hs : S[i]? = some x) (hk : k ≤ 64) :
    Calls Tryz.prog 55 #[.pointer (some ⟨g, i * 129, none⟩), .int .i64 k] w fun e w' => e = .returned (.tuple #[]) ∧ SR w' g c (S.set i ⟨mixN x.la x.se k, mixN x.la x.se k, false⟩) ∧ w.grownBy w' (some g) := by
  obtain ⟨o, ho⟩ : ∃ o, i * 129 = o := ⟨_, rfl⟩
  have HO := Lib.hid ho
  have HS := Lib.hid hs
  have H := Lib.hid h
  have hk' : (k : Int) ≤ 64 := by omega
  have HK := Lib.hid hk
  obtain ⟨m, hm⟩ : ∃ m, mixN x.la x.se k = m := ⟨_, rfl⟩
  have HX := Lib.hid hm
  rw [ho, hm]
  clear h hs ho hk hm
  go_enter Tryz.func55, Tryz.ntmps55
  go_wp2
  refine wp_region_held_drew (S := (fun w' => w.grownBy w' (some g))) (by kernel_rfl) (grown_drew (grown_refl _ _)) (fun hS => ?_)
  refine rgw 0 ⟨some 4, .move (.tmp 0), 98, _, _, none⟩ hS ?_
  refine rgw 1 ⟨some 5, .nilCheck (.tmp 4), 0, _, _, none⟩ hS ?_
  refine rgw 2 ⟨some 6, .fieldAddr 133 (.tmp 5) 0, 0, _, _, none⟩ hS ?_
  refine rgw 3 ⟨some 7, .move (.tmp 1), 3, _, _, none⟩ hS ?_
  refine rgw 4 ⟨some 8, .slice 63 (.tmp 6) none (some (.tmp 7)) none, 36, _, _, none⟩ hS ?_
  refine rgw 5 ⟨some 9, .move (.tmp 0), 98, _, _, none⟩ hS ?_
  refine rgw 6 ⟨some 10, .nilCheck (.tmp 9), 0, _, _, none⟩ hS ?_
  refine rgw 7 ⟨some 11, .fieldAddr 133 (.tmp 10) 1, 0, _, _, none⟩ hS ?_
  refine rgw 8 ⟨some 12, .move (.tmp 1), 3, _, _, none⟩ hS ?_
  refine rgw 9 ⟨some 13, .slice 63 (.tmp 11) none (some (.tmp 12)) none, 36, _, _, none⟩ hS ?_
  refine rg_one 10 ⟨some 14, .call { callee := .builtin Builtin.copy, args := #[.tmp 8, .tmp 13], argTypes := #[36, 36] }, 3, _, _, none⟩ (by kernel_rfl) rfl (fun K hK => ?_)
  refine step_copy_row rfl (.tmp 8) (.tmp 13) rfl g c i k S x (SR.keep H.out rfl) HS.out HK.out o (o + 64) HO.out (by rw [HO.out]) rfl rfl ?_; intro w1 H1 hG1; have hN := grown_trans (grown_drew (grown_refl w (some g))) hG1.out; have HG1 := Lib.hid hN
  refine hK.out _ _ ?_ (fun hS1 => ?_)
  · (exact hN)
  clear hK K hS; have hS := hS1; clear hS1
  (try simp only [rgp])
  refine wpAnyH_done (by kernel_rfl) ?_ _
  clear hS hG1 hN
  have hi : i < S.length := (List.getElem?_eq_some_iff.1 HS.out).1
  have hx := H.out.ok HS.out
  have HM : Hid (m.length = 64) := Lib.hid (by rw [← HX.out]; exact mixN_length _ _ _ hx.la hx.se HK.out)
  rw [HX.out] at H1
  have HA1 : Hid ((S.set i ⟨m, x.se, x.wt⟩)[i]? = some ⟨m, x.se, x.wt⟩) := Lib.hid (List.getElem?_set_self hi)
  have HAT : Hid (At w1 g o m) := Lib.hid (by have := H1.out.la HA1.out; rwa [HO.out] at this)
  have HA2 : Hid ((S.set i ⟨m, m, x.wt⟩)[i]? = some ⟨m, m, x.wt⟩) := Lib.hid (List.getElem?_set_self hi)
  clear hi hx
  go_wp2_with (first
    | (refine wpl_load_at rfl _ rfl g o rfl m HAT.out ?_)
    | (refine wpl_put_se rfl _ _ rfl g c _ H1.out i _ HA1.out m HM.out (o + 64) (by rw [HO.out]) rfl rfl ?_; intro w2 H2 hG2; rw [List.set_set] at H2; have HG2 := Lib.hid (grown_trans HG1.out hG2.out); clear hG2)
    | (refine wpl_put_wt rfl _ _ rfl g c _ H2.out i _ HA2.out false (o + 128) (by rw [HO.out]) rfl rfl ?_; intro w3 H3 hG3; rw [List.set_set] at H3; have HG3 := Lib.hid (grown_trans HG2.out hG3.out); clear hG3))
  go_end0
  exact ⟨rfl, H3.out, HG3.out⟩
end Go.Proofs.YtpoiapfgbbmekaaGreatDoor
namespace Go.Proofs.YtpoiapfgbbmekaaGreatDoor
open Go.RowKit
structure MF where
  f : AF
  g : Nat
  c : Nat
def MF.nm (x : MF) : ByteArray := x.f.name
abbrev zS : Value := .slice none 0 0
def MF.v (x : MF) : Value := .slice (some ⟨x.g, 0, none⟩) x.f.n x.c
def MF.dat (x : MF) : DataW Unit := .agg [.lit (.int .i64 (x.g : Int)), .lit (.int .i64 (x.f.n : Int)), .lit (.int .i64 (x.c : Int))]
def secR (v : Value) : Option (DataW Unit × List MemPlace) :=
  match v with
  | .slice none 0 0 => some (.nil, [])
  | .slice (some ⟨b, 0, none⟩) n c => some (.agg [.lit (.int .i64 (b : Int)), .lit (.int .i64 (n : Int)), .lit (.int .i64 (c : Int))], [])
  | _ => none
theorem secE : ElemR MF.v zS secR MF.dat where
  lit x := rfl
  nil := rfl
  inv := by
    intro v x ps h
    unfold secR at h
    split at h
    · simp [MF.dat] at h
    · rename_i b n c
      simp only [MF.dat, Option.some.injEq, Prod.mk.injEq, DataW.agg.injEq, List.cons.injEq, DataW.lit.injEq, Lit.int.injEq, true_and, and_true] at h
      obtain ⟨⟨h1, h2, h3⟩, _⟩ := h
      obtain rfl : b = x.g := by omega
      obtain rfl : n = x.f.n := by omega
      obtain rfl : c = x.c := by omega
      rfl
    · simp at h
  inv_nil := by
    intro v ps h
    unfold secR at h
    split at h
    · rfl
    · simp at h
    · simp at h
def secsOf (f : AF) : List Sc := (List.range f.n).map fun i => ⟨chunk f.las i, chunk f.seen i, f.ws.getD i false⟩
theorem secsOf_length (f : AF) : (secsOf f).length = f.n := by simp [secsOf]
theorem secsOf_get (f : AF) (i : Nat) (h : i < f.n) : (secsOf f)[i]? = some ⟨chunk f.las i, chunk f.seen i, f.ws.getD i false⟩ := by simp [secsOf, h]
abbrev MapOf (w : World) (bm : Nat) (l : List MF) : Prop := MO MF.nm MF.dat secR Tryz.prog 9 w bm l
def dCells (bm : Nat) (d : AD) (fl : Bool) (lf : Int) : Array Value := #[.int .i64 d.cap, .map (some bm), .int .i64 d.ops, .bool d.down, .bool fl, .int .i64 lf]
def DBk (w : World) (b bm : Nat) (d : AD) (fl : Bool) (lf : Int) : Prop := w.heap[b]? = some (.cells (dCells bm d fl lf) 71 (0, 0))
structure Dk (w : World) (b bm : Nat) (l : List MF) (d : AD) : Prop where
  blk : ∃ (fl : Bool) (lf : Int), DBk w b bm d fl lf ∧ (d.down = false → fl = d.told ∧ lf = d.after)
  map : MapOf w bm l
  row : ∀ x ∈ l, SR w x.g x.c (secsOf x.f)
  nodup : (l.map MF.g).Nodup
  files : d.L = l.map MF.f
def own (b bm : Nat) (l : List MF) (k : Nat) : Prop := k = b ∨ k = bm ∨ ∃ x ∈ l, x.g = k
theorem Dk.keep {w w' : World} {b bm : Nat} {l : List MF} {d : AD} (h : Dk w b bm l d) (hb : ∀ k, own b bm l k → w'.heap[k]? = w.heap[k]?) : Dk w' b bm l d := by
  obtain ⟨fl, lf, h1, h2⟩ := h.blk
  exact ⟨⟨fl, lf, (hb b (.inl rfl)).trans h1, h2⟩, h.map.keep (hb bm (.inr (.inl rfl))), fun x hx => (h.row x hx).keep (hb _ (.inr (.inr ⟨x, hx, rfl⟩))), h.nodup, h.files⟩
theorem Dk.lt {w : World} {b bm : Nat} {l : List MF} {d : AD} (h : Dk w b bm l d) : ∀ k, own b bm l k → k < w.heap.size := by
  rintro k (rfl | rfl | ⟨x, hx, rfl⟩)
  · obtain ⟨fl, lf, h1, _⟩ := h.blk
    exact (Array.getElem?_eq_some_iff.1 h1).1
  · exact h.map.lt
  · exact (h.row x hx).lt
theorem Dk.below {w w' : World} {b bm : Nat} {l : List MF} {d : AD} (h : Dk w b bm l d) (hb : Below w.heap.size w w') : Dk w' b bm l d := h.keep fun k hk => hb.block k (h.lt k hk)
theorem Dk.ne {w : World} {b bm : Nat} {l : List MF} {d : AD} (h : Dk w b bm l d) : b ≠ bm ∧ ∀ x ∈ l, x.g ≠ b ∧ x.g ≠ bm := by
  obtain ⟨fl, lf, h1, _⟩ := h.blk
  obtain ⟨es, clock, h2⟩ := h.map.obj
  refine ⟨fun e => ?_, fun x hx => ⟨fun e => ?_, fun e => ?_⟩⟩
  · subst e; unfold DBk at h1; rw [h1] at h2; cases h2
  · obtain ⟨cur, h3, _⟩ := h.row x hx
    rw [e] at h3; unfold DBk at h1; rw [h1] at h3
    simp at h3
  · obtain ⟨cur, h3, _⟩ := h.row x hx
    rw [e, h2] at h3; cases h3
theorem DBk.cells {w : World} {b bm : Nat} {d : AD} {fl : Bool} {lf : Int} (h : DBk w b bm d fl lf) :
    w.cell? ⟨b, 0, none⟩ = some (.int .i64 d.cap) ∧ w.cell? ⟨b, 1, none⟩ = some (.map (some bm)) ∧ w.cell? ⟨b, 2, none⟩ = some (.int .i64 d.ops) ∧ w.cell? ⟨b, 3, none⟩ = some (.bool d.down) ∧ w.cell? ⟨b, 4, none⟩ = some (.bool fl) ∧ w.cell? ⟨b, 5, none⟩ = some (.int .i64 lf) := by
  have hc := fun j => cell_of_row w b j _ _ _ h
  exact ⟨hc 0, hc 1, hc 2, hc 3, hc 4, hc 5⟩
theorem DBk.frozen {w : World} {b bm : Nat} {d : AD} {fl : Bool} {lf : Int} (h : DBk w b bm d fl lf) (j : Nat) : w.frozen? ⟨b, j, none⟩ = false := Joins.unfrozen_of_block h j
theorem DBk.set {w : World} {b bm : Nat} {d : AD} {fl : Bool} {lf : Int} (h : DBk w b bm d fl lf) (j : Nat) (v : Value) : (w.setCell ⟨b, j, none⟩ v).heap[b]? = some (.cells ((dCells bm d fl lf).setIfInBounds j v) 71 (0, 0)) := Joins.block_setCell h _
theorem find_at {α : Type} (p : α → Bool) : ∀ l : List α, l.find? p = l[l.findIdx p]?
  | [] => rfl
  | x :: l => by
    rw [List.find?_cons, List.findIdx_cons]
    cases hx : p x with
    | true => simp
    | false => simp [find_at p l]
theorem findIdx_map {α β : Type} (f : α → β) (p : β → Bool) : ∀ l : List α, (l.map f).findIdx p = l.findIdx (fun x => p (f x))
  | [] => rfl
  | x :: l => by rw [List.map_cons, List.findIdx_cons, List.findIdx_cons, findIdx_map f p l]
theorem Dk.has {w : World} {b bm : Nat} {l : List MF} {d : AD} (h : Dk w b bm l d) (s : ByteArray) (hs : d.has s) : ∃ x, l[idxN d.L s]? = some x ∧ x.f = d.get s ∧ x ∈ l ∧ lookV MF.nm MF.v zS l s = x.v := by
  have h1 := d.get_at s hs
  rw [h.files, List.getElem?_map] at h1
  obtain ⟨x, hx, hf⟩ := Option.map_eq_some_iff.1 h1
  have hx2 : l[idxN d.L s]? = some x := by rw [h.files]; exact hx
  refine ⟨x, hx2, hf, List.mem_of_getElem? hx2, ?_⟩
  unfold lookV atBy
  rw [find_at]
  have e : l.findIdx (fun x => decide (MF.nm x = s)) = idxN d.L s := by
    rw [h.files]; unfold idxN; rw [findIdx_map]; rfl
  rw [e, hx2]
theorem Dk.hasnt {w : World} {b bm : Nat} {l : List MF} {d : AD} (h : Dk w b bm l d) (s : ByteArray) (hs : ¬ d.has s) : lookV MF.nm MF.v zS l s = zS := by
  unfold lookV atBy
  have e : l.find? (fun x => decide (MF.nm x = s)) = none := by
    rw [List.find?_eq_none]
    intro x hx
    have := has_mem hs x.f (by rw [h.files]; exact List.mem_map_of_mem hx)
    simp only [decide_eq_true_eq]; exact this
  rw [e]
theorem map_out (l : List MF) (s : ByteArray) : (outBy MF.nm l s).map MF.f = withoutF (l.map MF.f) s := by
  unfold outBy withoutF
  rw [List.filter_map]; rfl
theorem map_in (l : List MF) (x : MF) : (inBy MF.nm l x).map MF.f = insF (l.map MF.f) x.f := by
  unfold inBy insF insK
  rw [findIdx_map, List.map_append, List.map_cons, List.map_take, List.map_drop]; rfl
theorem mem_out {l : List MF} {s : ByteArray} {x : MF} : x ∈ outBy MF.nm l s ↔ x ∈ l ∧ x.f.name ≠ s := by
  unfold outBy
  rw [List.mem_filter, Bool.not_eq_true', decide_eq_false_iff_not]; exact Iff.rfl
theorem in_perm (l : List MF) (x : MF) : (inBy MF.nm l x).Perm (x :: l) := by
  unfold inBy
  refine List.perm_middle.trans ?_
  rw [List.take_append_drop]
theorem mem_in {l : List MF} {x y : MF} : y ∈ inBy MF.nm l x ↔ y = x ∨ y ∈ l := by rw [(in_perm l x).mem_iff, List.mem_cons]
theorem nodup_out {l : List MF} (h : (l.map MF.g).Nodup) (s : ByteArray) : ((outBy MF.nm l s).map MF.g).Nodup := h.sublist (List.filter_sublist.map _)
theorem nodup_in {l : List MF} (h : (l.map MF.g).Nodup) (x : MF) (hx : ∀ y ∈ l, y.g ≠ x.g) : ((inBy MF.nm l x).map MF.g).Nodup := by
  rw [((in_perm l x).map MF.g).nodup_iff, List.map_cons, List.nodup_cons]
  refine ⟨fun hm => ?_, h⟩
  obtain ⟨y, hy, e⟩ := List.mem_map.1 hm
  exact hx y hy e
def DKp (w : World) (p : Addr) (F : Nat → Bool) (d : AD) : Prop := Foot F w.heap.size ∧ ∃ b bm l, p = ⟨b, 0, none⟩ ∧ Dk w b bm l d ∧ ∀ k, own b bm l k → F k = true
theorem DKp.keep {w w' : World} {p : Addr} {F : Nat → Bool} {d : AD} (h : DKp w p F d) (hs : w.heap.size ≤ w'.heap.size) (hk : ∀ k, F k = true → w'.heap[k]? = w.heap[k]?) : DKp w' p F d := by
  obtain ⟨hF, b, bm, l, rfl, hd, ho⟩ := h
  exact ⟨hF.mono hs, b, bm, l, rfl, hd.keep fun k h => hk k (ho k h), ho⟩
theorem DKp.done {w w' : World} {b bm : Nat} {l : List MF} {F : Nat → Bool} {d : AD} (hF : Foot F w.heap.size) (hx : Ext F w w' F) (hd : Dk w' b bm l d) (ho : ∀ k, own b bm l k → k < w.heap.size → F k = true) :
    ∃ F', DKp w' ⟨b, 0, none⟩ F' d ∧ Ext F w w' F' :=
  ⟨plusF F w.heap.size w'.heap.size, ⟨plusF_foot hF hx.size, b, bm, l, rfl, hd, fun k hk => by
    by_cases hl : k < w.heap.size
    · exact plusF_mono _ _ _ _ (ho k hk hl)
    · exact plusF_in _ _ _ _ (by omega) (hd.lt k hk)⟩, ⟨hx.os, hx.tape, hx.output, hx.size, hx.block, fun k hk => by simp [plusF]; intro h1; omega⟩⟩
theorem Ext.grown {F : Nat → Bool} {w w' w'' : World} (h : Ext F w w' F) {g : Nat} (k : w'.grownBy w'' (some g)) (hg : F g = true ∨ w.heap.size ≤ g) : Ext F w w'' F :=
  ⟨k.os.trans h.os, k.tape.trans h.tape, k.output.trans h.output, Nat.le_trans h.size k.size, fun i hi hf => (k.block i (Nat.lt_of_lt_of_le hi h.size) (fun e => by
    obtain rfl := Option.some.inj e
    rcases hg with hg | hg
    · rw [hg] at hf; simp at hf
    · omega)).trans (h.block i hi hf), fun _ _ => rfl⟩
theorem Ext.then_below {F : Nat → Bool} {w w' w'' : World} (h : Ext F w w' F) (k : Below w'.heap.size w' w'') : Ext F w w'' F := h.trans (Ext.below k)
theorem Ext.drew {F : Nat → Bool} {w w' : World} (h : Ext F w w' F) : Ext F w w'.drew F := ⟨h.os, h.tape, h.output, h.size, h.block, h.foot⟩
end Go.Proofs.YtpoiapfgbbmekaaGreatDoor
