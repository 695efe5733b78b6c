/-
  TEXTS JOINED: JoinBlk, ScanRecs, ScanAfter, ScanSyn, ScanRl, TearCrash. Each one's own words stand at its head.
-/
import Derived.Test.YtepaghohojomeaaDoorJ8
import Derived.Test.YtepaghohojomeaaDoorJ0
import Derived.Test.YtepaghohojomeaaDoorJ1
import Derived.Test.YtepaghohojomeaaDoorJ17
import Derived.Test.YtepaghohojomeaaDoorJ7
import Derived.Test.YtepaghohojomeaaDoorJ12
/-
  A JOINER IN A BLOCK (layer 15): its cells, its row of bytes, what stays when it takes a fragment. Nothing here speaks of the program's functions. No condition.
-/
namespace Go.Proofs.YtepaghohojomeaaDoor
open Go.RowKit
abbrev jA (o : Bool) (v : Value) : Array Value := #[.bool o, v]
theorem jo_info (o : Bool) (v : Value) : (Tryd.prog.info? 130).map (·.size) = some (jA o v).size := by
  rw [show (jA o v).size = 2 from rfl]; kernel_rfl
theorem jo_one (o : Bool) (a : Option Addr) (n m : Nat) : (jA o (.slice a n m)).all (·.oneCell') = true := by simp [jA, Value.oneCell']
/-- the block b holds a joiner -/
def JO (w : World) (b : Nat) (o : Bool) (v : Value) : Prop := w.heap[b]? = some (.cells (jA o v) 130 (0, 0))
section
variable {w w' : World} {b b' : Nat} {o : Bool} {v : Value}
theorem JO.lt (h : JO w b o v) : b < w.heap.size := (Array.getElem?_eq_some_iff.1 h).1
theorem JO.keep (h : JO w b o v) (hb : Below w.heap.size w w') : JO w' b o v := (hb.block b h.lt).trans h
theorem JO.row (h : JO w b o v) (o' : Bool) (v' : Value) : JO (w.setRow b (jA o' v')) b o' v' := setRow_heap w b _ _ _ _ h
theorem JO.cells (h : JO w b o v) : w.cell? ⟨b, 0, none⟩ = some (.bool o) ∧ w.cell? ⟨b, 1, none⟩ = some v := ⟨cell_of_row w b 0 _ _ _ h, cell_of_row w b 1 _ _ _ h⟩
/-- a block of another kind is another block -/
theorem JO.ne (h : JO w b o v) {g : Nat} {c : Array Value} {t : TypeId} {q : Nat × Nat} (hg : w.heap[g]? = some (.cells c t q)) (ht : t ≠ 130) : g ≠ b := by
  intro e; subst e
  rw [h] at hg
  simp only [Option.some.injEq, Obj.cells.injEq] at hg
  exact ht hg.2.1.symm
theorem JO.ne_own (h : JO w b o v) {base n k : Nat} {t : TypeId} {u : Value} {xs : List Value} (ho : w.ownsRow base t k u n xs) (ht : t ≠ 130) : ∀ q, u.ownBlock = some q → q ≠ b := by
  intro q hq
  rcases ho.2 with ⟨rfl, _⟩ | ⟨q', cap, cur, rfl, _, hcur, _⟩
  · simp [Value.ownBlock] at hq
  · simp only [Value.ownBlock, Option.some.injEq] at hq
    subst hq
    exact h.ne hcur ht
theorem JO.row_own (h : JO w b o v) (x : Array Value) {base n k : Nat} {t : TypeId} {u : Value} {xs : List Value} (ho : w.ownsRow base t k u n xs) (ht : t ≠ 130) : (w.setRow b x).ownsRow base t k u n xs :=
  own_over ho ⟨rfl, rfl, rfl, by simp, fun i _ hne => setRow_other w b i x (fun e => hne (by rw [e]))⟩ (fun g hg e => h.ne_own ho ht g hg (Option.some.inj e))
theorem JO.grown (h : JO w b o v) {base n k : Nat} {t : TypeId} {u : Value} {xs : List Value} (ho : w.ownsRow base t k u n xs) (ht : t ≠ 130) (hg : w.grownBy w' u.ownBlock) : JO w' b o v :=
  (hg.block b h.lt (fun e => h.ne_own ho ht b e.symm rfl)).trans h
end
/-- a joiner, and the bytes that it has -/
structure JB (w : World) (base jb : Nat) (o : Bool) (v : Value) (h : List Int) : Prop where
  blk : JO w jb o v
  row : w.ownsRow base 5 1 v h.length (il .u8 h)
  idle : o = false → v = .slice none 0 0 ∧ h = []
  few : h.length ≤ 512
  low : base ≤ jb
theorem JB.keep {w w' : World} {base jb : Nat} {o : Bool} {v : Value} {h : List Int} (j : JB w base jb o v h) (hb : Below w.heap.size w w') : JB w' base jb o v h :=
  ⟨j.blk.keep hb, own_keep j.row hb, j.idle, j.few, j.low⟩
/-- w' is w but for the joiner's block, the block of its bytes, and new ones -/
structure Oth (w w' : World) (jb : Nat) (v : Value) : Prop where
  os : w'.os = w.os
  tape : w'.tape = w.tape
  output : w'.output = w.output
  size : w.heap.size ≤ w'.heap.size
  block : ∀ g, g < w.heap.size → g ≠ jb → some g ≠ v.ownBlock → w'.heap[g]? = w.heap[g]?
theorem Oth.refl (w : World) (jb : Nat) (v : Value) : Oth w w jb v := ⟨rfl, rfl, rfl, Nat.le_refl _, fun _ _ _ _ => rfl⟩
theorem Oth.of_below {w w' : World} {jb : Nat} {v : Value} (h : Below w.heap.size w w') : Oth w w' jb v := ⟨h.os, h.tape, h.output, h.size, fun g hg _ _ => h.block g hg⟩
theorem Oth.trans {a b c : World} {jb : Nat} {v : Value} (h : Oth a b jb v) (k : Oth b c jb v) : Oth a c jb v :=
  ⟨k.os.trans h.os, k.tape.trans h.tape, k.output.trans h.output, Nat.le_trans h.size k.size, fun g hg h1 h2 => (k.block g (Nat.lt_of_lt_of_le hg h.size) h1 h2).trans (h.block g hg h1 h2)⟩
theorem Oth.row (w : World) (jb : Nat) (v : Value) (x : Array Value) : Oth w (w.setRow jb x) jb v := ⟨rfl, rfl, rfl, by simp, fun i _ hne _ => setRow_other w jb i x hne⟩
theorem Oth.grown {w w' : World} {jb : Nat} {v : Value} (h : w.grownBy w' v.ownBlock) : Oth w w' jb v := ⟨h.os, h.tape, h.output, h.size, fun g hg _ hn => h.block g hg hn⟩
theorem JB.below {w w' : World} {base jb : Nat} {o : Bool} {v : Value} {h : List Int} (j : JB w base jb o v h) (k : Oth w w' jb v) : Below base w w' :=
  ⟨k.os, k.tape, k.output, k.size, fun g hg => k.block g (Nat.lt_trans (Nat.lt_of_lt_of_le hg j.low) j.blk.lt) (fun e => by have := j.low; omega) (fun e => by have := (j.row.lt g e.symm).1; omega)⟩
/-- a row that was there stays, where it isn't the joiner's -/
theorem JB.oth {w w' : World} {base jb : Nat} {o : Bool} {v : Value} {h : List Int} (j : JB w base jb o v h) (k : Oth w w' jb v) {base' s n : Nat} {t : TypeId} {u : Value} {xs : List Value} (ho : w.ownsRow base' t s u n xs) (ht : t ≠ 130)
    (hne : ∀ g, u.ownBlock = some g → some g ≠ v.ownBlock) : w'.ownsRow base' t s u n xs := by
  refine ⟨ho.1, ?_⟩
  rcases id ho.2 with h2 | ⟨g, cap, cur, hv, hb, hcur, h3⟩
  · exact .inl h2
  · refine .inr ⟨g, cap, cur, hv, hb, ?_, h3⟩
    rw [k.block g (Array.getElem?_eq_some_iff.1 hcur).1 (j.blk.ne_own ho ht g (by rw [hv]; rfl)) (hne g (by rw [hv]; rfl))]; exact hcur
/-- a block of another kind than the joiner and its bytes stays -/
theorem JB.oth_blk {w w' : World} {base jb : Nat} {o : Bool} {v : Value} {h : List Int} (j : JB w base jb o v h) (k : Oth w w' jb v) {g : Nat} {c : Array Value} {t : TypeId} {q : Nat × Nat} (hg : w.heap[g]? = some (.cells c t q))
    (h1 : t ≠ 130) (h2 : t ≠ 5) : w'.heap[g]? = some (.cells c t q) := by
  refine (k.block g (Array.getElem?_eq_some_iff.1 hg).1 (j.blk.ne hg h1) (fun e => ?_)).trans hg
  rcases j.row.2 with ⟨rfl, _⟩ | ⟨q', cap, cur, rfl, _, hcur, _⟩
  · simp [Value.ownBlock] at e
  · simp only [Value.ownBlock, Option.some.injEq] at e
    subst e
    rw [hg] at hcur
    simp only [Option.some.injEq, Obj.cells.injEq] at hcur
    exact h2 hcur.2.1
/-- where what a call tells lies: where the joiner's bytes lay, or in a new block -/
def Lies (w : World) (v u : Value) : Prop := ∀ g, u.ownBlock = some g → some g = v.ownBlock ∨ w.heap.size ≤ g
theorem Lies.nil (w : World) (v : Value) (n c : Nat) : Lies w v (.slice none n c) := fun g hg => by simp [Value.ownBlock] at hg
end Go.Proofs.YtepaghohojomeaaDoor
/-
  RECORDS THAT A CALL MAKES (SR), each one's bytes in a row of its own that lies apart from the joiner's; an append to them (out of layer 15's lists, by names alone). Nothing here speaks of the program's functions. No condition.
-/
namespace Go.Proofs.YtepaghohojomeaaDoor
open Go.RowKit
theorem Tryd.info_sl : (Tryd.prog.info? 43).map (fun i => (i.zero, i.size, i.bytes)) = some (some (.slice none 0 0), 1, 24) := by kernel_rfl
/-- records that a call makes; bl is where the joiner's bytes lie -/
structure SR (base : Nat) (w : World) (v : Value) (m : Nat) (es : List (List Int × Value)) (bl : Value) : Prop where
  row : w.ownsRow base 43 1 v m (es.map Prod.snd)
  data : ∀ e ∈ es, w.ownsRow base 5 1 e.2 e.1.length (il .u8 e.1)
  apart : ∀ e ∈ es, ∀ g, e.2.ownBlock = some g → some g ≠ bl.ownBlock
section
variable {base jb : Nat} {w w' : World} {v v' bl bl' hv hv' : Value} {m : Nat} {es : List (List Int × Value)} {o : Bool} {h : List Int}
theorem SR.len (r : SR base w v m es bl) : es.length = m := by have := r.row.1; simpa using this
theorem SR.nil (base : Nat) (w : World) (bl : Value) : SR base w (.slice none 0 0) 0 [] bl := ⟨World.ownsRow_nil _ _ _ _, fun e he => by simp at he, fun e he => by simp at he⟩
theorem SR.keep (r : SR base w v m es bl) (hb : Below w.heap.size w w') : SR base w' v m es bl := ⟨own_keep r.row hb, fun e he => own_keep (r.data e he) hb, r.apart⟩
theorem SR.rl (r : SR base w v m es bl) : RL .u8 w v m (es.map Prod.fst) := by
  have hl := r.len
  refine ⟨es.map Prod.snd, RV.own r.row, by simpa using hl, fun j e l he hl => ?_⟩
  have hj : j < es.length := by have := (List.getElem?_eq_some_iff.1 he).1; simpa using this
  simp [hj] at he hl
  subst he hl
  exact RI.own (r.data _ (List.getElem_mem hj))
/-- a fragment is fed -/
theorem SR.feed (r : SR base w v m es hv) (j : JB w base jb o hv h) (k : Oth w w' jb hv) (l : Lies w hv hv') : SR base w' v m es hv' := by
  refine ⟨j.oth k r.row (by decide) (own_types r.row j.row (by decide)), fun e he => j.oth k (r.data e he) (by decide) (r.apart e he), fun e he g hg e2 => ?_⟩
  have h1 := ((r.data e he).lt g hg).2
  rcases l g e2.symm with h2 | h2
  · exact r.apart e he g hg h2
  · omega
theorem SR.snoc (r : SR base w v m es bl) (hg : w.grownBy w' v.ownBlock) (e : List Int × Value) (hd : w.ownsRow base 5 1 e.2 e.1.length (il .u8 e.1)) (ha : ∀ g, e.2.ownBlock = some g → some g ≠ bl.ownBlock)
    (ho : w'.ownsRow base 43 1 v' (m + 1) (es.map Prod.snd ++ [e.2])) : SR base w' v' (m + 1) (es ++ [e]) bl := by
  refine ⟨by rw [List.map_append]; exact ho, fun x hx => ?_, fun x hx => ?_⟩
  · rcases List.mem_append.1 hx with hx | hx
    · exact own_over (r.data x hx) hg (own_types (r.data x hx) r.row (by decide))
    · obtain rfl : x = e := by simpa using hx
      exact own_over hd hg (own_types hd r.row (by decide))
  · rcases List.mem_append.1 hx with hx | hx
    · exact r.apart x hx
    · obtain rfl : x = e := by simpa using hx
      exact ha
/-- a row that was there stays, where the list grows -/
theorem SR.other (r : SR base w v m es bl) (hg : w.grownBy w' v.ownBlock) {t : TypeId} {k n base' : Nat} {u : Value} {xs : List Value} (ho : w.ownsRow base' t k u n xs) (ht : t ≠ 43) : w'.ownsRow base' t k u n xs :=
  own_over ho hg (own_types ho r.row ht)
theorem SR.blk (r : SR base w v m es bl) (hg : w.grownBy w' v.ownBlock) {g : Nat} {c : Array Value} {t : TypeId} (hk : w.heap[g]? = some (.cells c t (0, 0))) (ht : t ≠ 43) : w'.heap[g]? = some (.cells c t (0, 0)) := by
  refine (hg.block g (Array.getElem?_eq_some_iff.1 hk).1 (fun e => ?_)).trans hk
  rcases r.row.2 with ⟨rfl, _⟩ | ⟨q, cap, cur, rfl, _, hcur, _⟩
  · simp [Value.ownBlock] at e
  · simp only [Value.ownBlock, Option.some.injEq] at e
    subst e
    rw [hk] at hcur
    simp only [Option.some.injEq, Obj.cells.injEq] at hcur
    exact ht hcur.2.1
theorem SR.joiner (r : SR base w v m es bl) (hg : w.grownBy w' v.ownBlock) (j : JB w base jb o hv h) : JB w' base jb o hv h :=
  ⟨r.blk hg j.blk (by decide), r.other hg j.row (by decide), j.idle, j.few, j.low⟩
/-- append of one record -/
theorem wpl_app_sr {ops : Array Oper} {rest : List Oper} {o : Oper} {a : Act} {Q : Exit → Act → World → Prop} (hgd : o.guard = none) (s x : Operand)
    (ho : o.op = .call { callee := .builtin .append, args := #[s, x], argTypes := #[23, 23] }) (hs : a.eval s = v) (r : SR base w v m es bl)
    (g : Nat) (e : List Int × Value) (hx : a.eval x = .slice (some ⟨g, 0, none⟩) 1 1) (hblk : w.heap[g]? = some (.cells #[e.2] 43 (0, 0)))
    (hd : w.ownsRow base 5 1 e.2 e.1.length (il .u8 e.1)) (ha : ∀ g, e.2.ownBlock = some g → some g ≠ bl.ownBlock) (hm : m ≤ 1000000) (hbase : base ≤ w.heap.size)
    (hq : ∀ v' w', Hid (SR base w' v' (m + 1) (es ++ [e]) bl) → Hid (w.grownBy w' v.ownBlock) → wpList Tryd.prog ops Q rest (a.put o.dst v') w') : wpList Tryd.prog ops Q (o :: rest) a w := by
  obtain ⟨i, hi, hz0, hz1, hz2⟩ := info_parts Tryd.info_sl
  obtain ⟨p, c, hv⟩ := own_form hd
  refine wpList_append_own_wide w hgd s x 23 ho base 43 i (.slice none 0 0) 1 24 Tryd.underlying23 hi hz0 hz1 hz2 rfl (by omega) v m (es.map Prod.snd) hs r.row ⟨g, 0, none⟩ 1 1 [e.2] hx rfl ?_ (by simp [Value.oneCell', hv]) (by unfold maxLen; omega) (by omega) hbase ?_
  · intro j u hj
    match j, hj with
    | 0, hj => simp at hj; subst hj; simpa [Addr.add] using cell_of_row w g 0 _ _ _ hblk
  · intro v' w' ho' hg _
    exact hq v' w' (r.snoc hg e hd ha ho') hg
end
end Go.Proofs.YtepaghohojomeaaDoor
/-
  WHAT Synced.After OF THE LAW OF LAYER 19 ANSWERS: what a crash leaves of a segment's sectors. Bytes must lie where the slices say.
-/
namespace Go.Proofs.YtepaghohojomeaaDoor
open Go.RowKit
section
variable {w : World} {o : Oper} {a : Act}
theorem rw_cell1 : (sizeOf (Tryd.prog.elem 23)).run Tryd.prog w = .ok 1 w := by
  have he : Tryd.prog.elem 23 = 43 := by kernel_rfl
  obtain ⟨i, hi, _, hz1, _⟩ := info_parts Tryd.info_sl
  simp [sizeOf, typeInfo, he, hi, hz1]
theorem und_rw : Tryd.prog.underlying 23 = some (.slice (Tryd.prog.elem 23)) := by
  have he : Tryd.prog.elem 23 = 43 := by kernel_rfl
  rw [Tryd.underlying23, he]
/-- x[:h] of a list of slices -/
theorem exec_cutr_h (x hi : Operand) (ho : o.op = .slice 23 x none (some hi) none) (p : Option Addr) (len cap n : Nat) (hx : a.eval x = .slice p len cap) (hhi : a.eval hi = .int .i64 (n : Int)) (hc : n ≤ cap) :
    (execOp a.eval o).run Tryd.prog w = .ok (.value (sliced p 0 n cap 1)) w := by
  have h1 := run_slice_h (P := Tryd.prog) w 23 p len cap und_rw .i64 (n : Int) (by omega) (by omega)
  rw [rw_cell1] at h1
  simp only [Result.andThen_ok, Int.toNat_natCast] at h1
  simp [execOp, ho, hx, hhi, run_sliceAt_slice _ _ _ _ _ _ und_rw, h1, Result.andThen]
end
theorem RL.pre {w : World} {a : Option Addr} {n cap : Nat} {ls : List (List Int)} (h : RL .u8 w (.slice a n cap) n ls) (q : Nat) (hq : q ≤ n) : RL .u8 w (sliced a 0 q cap 1) q (ls.take q) := by
  have := h.mid 0 q (by omega)
  rwa [Nat.zero_add, List.drop_zero] at this
theorem good_take {ls : List (List Int)} (h : GoodF ls ls.length) (q : Nat) (hq : q ≤ ls.length) : GoodF (ls.take q) (ls.take q).length := fun j hj => by
  have hl : (ls.take q).length = q := by rw [List.length_take]; omega
  rw [hl] at hj
  have := h j (by omega)
  rw [List.take_take, Nat.min_eq_left (by omega)]
  have e : (ls.take q).getD j [] = ls.getD j [] := by simp only [List.getD, List.getElem?_take, hj, if_true]
  rw [e]; exact this
theorem crash_info : (Tryd.prog.info? 45).map (·.size) = some 3 := by kernel_rfl
/-- does After answer? -/
noncomputable def synOk (x : Int) (ls : List (List Int)) : Bool := fewB ls && fitsF ls && !(x == 0)
/-- how many are lasting -/
def synN (N : Int) (ls : List (List Int)) : Nat := (N % ((ls.length + 1 : Nat) : Int)).toNat
/-- what the crash leaves -/
noncomputable def synF (x : Int) (ls : List (List Int)) (N : Int) (kb : List Int) (torn cut : Int) : List Int :=
  applyN kb torn cut (wholeK x (bodyF (x % 4294967296) (ls.take (synN N ls))) (touchN 0 (endF (ls.take (synN N ls)))).2 16) (wholeK x (bodyF (x % 4294967296) ls) (touchN 0 (endF ls)).2 16) 16
abbrev yV (x : Int) (lv : Value) (N : Int) : Value := .agg #[.int .u64 x, lv, .int .u64 N]
abbrev cV (kv : Value) (torn cut : Int) : Value := .agg #[kv, .int .i64 torn, .int .i64 cut]
/-- what After leaves -/
def AftF (x : Int) (ls : List (List Int)) (N : Int) (kb : List Int) (torn cut : Int) (w : World) (r : Ending) (w' : World) : Prop :=
  (synOk x ls = false ∧ r = .returned (.tuple #[.slice none 0 0, .int .i64 0, .bool false]) ∧ Below w.heap.size w w') ∨
  (synOk x ls = true ∧ ∃ a c, r = .returned (.tuple #[.slice a 16 c, .int .i64 (synN N ls : Nat), .bool true]) ∧ FS w' (.slice a 16 c) 16 (synF x ls N kb torn cut) ∧ Below w.heap.size w w')
set_option maxRecDepth 8000 in
set_option maxHeartbeats 8000000 in
theorem after_any (x : Int) (hx : U64 x) (la : Option Addr) (n lc : Nat) (ls : List (List Int)) (hlb : ∀ l ∈ ls, isB l) (N : Int) (hN : U64 N) (ka : Option Addr) (kn kc : Nat) (kb : List Int) (hkb : Bytes kb) (torn cut : Int) (ht : I63 torn) (hct : I63 cut) (w : World)
    (h : RL .u8 w (.slice la n lc) n ls) (hk : RI .u8 w (.slice ka kn kc) kn kb) :
    Calls Tryd.prog 12 #[yV x (.slice la n lc) N, cV (.slice ka kn kc) torn cut] w (AftF x ls N kb torn cut w) := by
  have hn63 : (n : Int) ≤ 9223372036854775807 := by have := h.le; omega
  have hln := h.length
  obtain ⟨w0, hw0⟩ : ∃ q, (w.alloc (.cells #[.int .u64 x, .slice la n lc, .int .u64 N] 42)).alloc (.cells #[.slice ka kn kc, .int .i64 torn, .int .i64 cut] 45) = q := ⟨_, rfl⟩
  have hz1 : (w.alloc (.cells #[.int .u64 x, .slice la n lc, .int .u64 N] 42)).heap.size = w.heap.size + 1 := alloc_size w _
  have hb0 : Below w.heap.size w w0 := by rw [← hw0]; exact bch (balloc w _) (balloc _ _)
  have HB0 := Lib.hid hb0
  have hy0 : w0.heap[w.heap.size]? = some (.cells #[.int .u64 x, .slice la n lc, .int .u64 N] 42 (0, 0)) := by
    rw [← hw0]
    exact ((balloc (w.alloc (.cells #[.int .u64 x, .slice la n lc, .int .u64 N] 42)) _).block w.heap.size (by rw [hz1]; omega)).trans (heap_alloc_last w _)
  have hc0 : w0.heap[w.heap.size + 1]? = some (.cells #[.slice ka kn kc, .int .i64 torn, .int .i64 cut] 45 (0, 0)) := by
    rw [← hw0, ← hz1]; exact heap_alloc_last _ _
  have HY : Hid (∀ w', Below w0.heap.size w0 w' → w'.cell? ⟨w.heap.size, 0, none⟩ = some (.int .u64 x) ∧ w'.cell? ⟨w.heap.size, 1, none⟩ = some (.slice la n lc) ∧ w'.cell? ⟨w.heap.size, 2, none⟩ = some (.int .u64 N)) := Lib.hid fun w' hb =>
    ⟨cell_keep hb (cell_of_row w0 _ 0 _ _ _ hy0), cell_keep hb (cell_of_row w0 _ 1 _ _ _ hy0), cell_keep hb (cell_of_row w0 _ 2 _ _ _ hy0)⟩
  have HC : Hid (∀ w', Below w0.heap.size w0 w' → w'.heap[w.heap.size + 1]? = some (.cells #[.slice ka kn kc, .int .i64 torn, .int .i64 cut] 45 (0, 0))) := Lib.hid fun w' hb => (hb.block _ (Array.getElem?_eq_some_iff.1 hc0).1).trans hc0
  have HFW : Hid (∀ w', Below w0.heap.size w0 w' → Calls Tryd.prog 6 #[.slice la n lc] w' fun r w'' => r = .returned (.bool (fewB ls)) ∧ Below w'.heap.size w' w'') := Lib.hid fun w' hb => few_any _ n ls w' (h.keep (bch hb0 hb))
  have HS : Hid (Calls Tryd.prog 15 #[.int .u64 x, .slice la n lc] w0 (SecF w0 ls x)) := Lib.hid (rsectors_any x hx _ n ls hn63 hlb w0 (h.keep hb0))
  obtain ⟨y0, y1, _⟩ := HY.out w0 (Below.refl _ _)
  have HLE := Lib.hid hln
  cases hf : fitsF ls with
  | false =>
    have HNO : Hid (synOk x ls = false) := Lib.hid (by unfold synOk; rw [hf, Bool.and_false, Bool.false_and])
    have HS0 : Hid (Calls Tryd.prog 15 #[.int .u64 x, .slice la n lc] w0 fun r w' => r = .returned (.tuple #[.slice none 0 0, .bool false]) ∧ Below w0.heap.size w0 w') := Lib.hid (HS.out.mono fun r w' h => by
      rcases h with ⟨h1, _⟩ | ⟨_, h1, h2⟩
      · rw [hf] at h1; cases h1
      · exact ⟨h1, h2⟩)
    clear HS hf hx hlb h hk hkb ht hct hN hb0 hy0 hc0 hz1 hln
    generalize fewB ls = z at *
    cases z with
    | false =>
      go_enter Tryd.func12, Tryd.ntmps12
      go_wp2_with (first
        | (go_at_call 15; (refine HS0.out.mono ?_); rintro r w1 ⟨rfl, hb⟩; obtain ⟨a0, a1, a2⟩ := HY.out w1 hb; have HB1 := Lib.hid hb; clear hb)
        | (go_at_call 6; (refine (HFW.out _ HB1.out).mono ?_); rintro r w2 ⟨rfl, hb⟩; have HB2 := Lib.hid (bch HB1.out hb); obtain ⟨b0, b1, b2⟩ := HY.out w2 HB2.out; clear hb))
      (try simp only [Exit.inBlock, Exit.then]); refine bodyPost_ret (results_tmp3 rfl _ _ _) rfl ?_
      exact .inl ⟨HNO.out, rfl, bch HB0.out HB2.out⟩
    | true =>
      go_enter Tryd.func12, Tryd.ntmps12
      go_wp2_with (first
        | (go_at_call 15; (refine HS0.out.mono ?_); rintro r w1 ⟨rfl, hb⟩; obtain ⟨a0, a1, a2⟩ := HY.out w1 hb; have HB1 := Lib.hid hb; clear hb)
        | (go_at_call 6; (refine (HFW.out _ HB1.out).mono ?_); rintro r w2 ⟨rfl, hb⟩; have HB2 := Lib.hid (bch HB1.out hb); obtain ⟨b0, b1, b2⟩ := HY.out w2 HB2.out; clear hb))
      (try simp only [Exit.inBlock, Exit.then]); refine bodyPost_ret (results_tmp3 rfl _ _ _) rfl ?_
      exact .inl ⟨HNO.out, rfl, bch HB0.out HB2.out⟩
  | true =>
    have hg := (fitsF_iff ls).1 hf
    have HS0 : Hid (Calls Tryd.prog 15 #[.int .u64 x, .slice la n lc] w0 fun r w' => ∃ a c, r = .returned (.tuple #[.slice a 16 c, .bool true]) ∧ FS w' (.slice a 16 c) 16 (wholeK x (bodyF (x % 4294967296) ls) (touchN 0 (endF ls)).2 16) ∧ Below w0.heap.size w0 w') := Lib.hid (HS.out.mono fun r w' h => by
      rcases h with ⟨_, v, h1, h2, h3⟩ | ⟨h1, _⟩
      · obtain ⟨a, c, rfl, _⟩ := id h2
        exact ⟨a, c, h1, h2, h3⟩
      · rw [hf] at h1; cases h1)
    clear HS
    cases hw : fewB ls with
    | false =>
      rw [hw] at HFW
      have HNO : Hid (synOk x ls = false) := Lib.hid (by unfold synOk; rw [hw, Bool.false_and, Bool.false_and])
      clear hf hx hlb h hk hkb ht hct hN hb0 hy0 hc0 hz1 hln hg hw
      go_enter Tryd.func12, Tryd.ntmps12
      go_wp2_with (first
        | (go_at_call 15; (refine HS0.out.mono ?_); rintro r w1 ⟨sa, sc, rfl, _, hb⟩; obtain ⟨a0, a1, a2⟩ := HY.out w1 hb; have HB1 := Lib.hid hb; clear hb)
        | (go_at_call 6; (refine (HFW.out _ HB1.out).mono ?_); rintro r w2 ⟨rfl, hb⟩; have HB2 := Lib.hid (bch HB1.out hb); obtain ⟨b0, b1, b2⟩ := HY.out w2 HB2.out; clear hb))
      (try simp only [Exit.inBlock, Exit.then]); refine bodyPost_ret (results_tmp3 rfl _ _ _) rfl ?_
      exact .inl ⟨HNO.out, rfl, bch HB0.out HB2.out⟩
    | true =>
      rw [hw] at HFW
      by_cases h0 : x = 0
      · have HNO : Hid (synOk x ls = false) := Lib.hid (by unfold synOk; rw [h0]; simp)
        clear hf hx hlb h hk hkb ht hct hN hb0 hy0 hc0 hz1 hln hg hw
        subst h0
        go_enter Tryd.func12, Tryd.ntmps12
        go_wp2_with (first
          | (go_at_call 15; (refine HS0.out.mono ?_); rintro r w1 ⟨sa, sc, rfl, _, hb⟩; obtain ⟨a0, a1, a2⟩ := HY.out w1 hb; have HB1 := Lib.hid hb; clear hb)
          | (go_at_call 6; (refine (HFW.out _ HB1.out).mono ?_); rintro r w2 ⟨rfl, hb⟩; have HB2 := Lib.hid (bch HB1.out hb); obtain ⟨b0, b1, b2⟩ := HY.out w2 HB2.out; clear hb))
        (try simp only [Exit.inBlock, Exit.then]); refine bodyPost_ret (results_tmp3 rfl _ _ _) rfl ?_
        exact .inl ⟨HNO.out, rfl, bch HB0.out HB2.out⟩
      · have hx0 : (x == 0) = false := by simpa using h0
        have HNO : Hid (synOk x ls = true) := Lib.hid (by unfold synOk; rw [hw, hf, hx0]; rfl)
        have hfew := (fewB_parts hw).1
        have hn100 : n ≤ 100 := by omega
        obtain ⟨q, hq⟩ : ∃ q, synN N ls = q := ⟨_, rfl⟩
        have hN2 : 0 ≤ N ∧ N ≤ 18446744073709551615 := hN
        have hq2 : N % ((ls.length + 1 : Nat) : Int) = (q : Int) := by
          unfold synN at hq
          have := Int.emod_nonneg N (show ((ls.length + 1 : Nat) : Int) ≠ 0 by omega)
          omega
        have hqn : q ≤ n := by
          have := Int.emod_lt_of_pos N (show (0 : Int) < ((ls.length + 1 : Nat) : Int) by omega)
          omega
        obtain ⟨m1, hm1⟩ : ∃ m1 : Nat, n + 1 = m1 := ⟨_, rfl⟩
        have hmI : (n : Int) + 1 = (m1 : Int) := by omega
        have hmb : (m1 : Int) ≤ 101 := by omega
        have hm0 : ¬ (m1 : Int) = 0 := by omega
        have htm : N.tmod (m1 : Int) = (q : Int) := by
          rw [Int.tmod_eq_emod_of_nonneg hN2.1, ← hq2, hln, hm1]
        have hqb : (q : Int) ≤ 100 := by omega
        have HSQ : Hid (∀ w', Below w0.heap.size w0 w' → ∀ a c, sliced la 0 q lc 1 = .slice a q c → Calls Tryd.prog 15 #[.int .u64 x, .slice a q c] w' fun r w'' => ∃ a c, r = .returned (.tuple #[.slice a 16 c, .bool true]) ∧ FS w'' (.slice a 16 c) 16 (wholeK x (bodyF (x % 4294967296) (ls.take q)) (touchN 0 (endF (ls.take q))).2 16) ∧ Below w'.heap.size w' w'') := Lib.hid fun w' hb a c hs => by
          have hr := (h.keep (bch hb0 hb)).pre q hqn
          rw [hs] at hr
          refine (rsectors_any x hx _ q (ls.take q) (by omega) (fun l hl => hlb l (List.mem_of_mem_take hl)) w' hr).mono fun r w'' h => ?_
          have hft : fitsF (ls.take q) = true := (fitsF_iff _).2 (good_take hg q (by omega))
          rcases h with ⟨_, v, h1, h2, h3⟩ | ⟨h1, _⟩
          · obtain ⟨a, c, rfl, _⟩ := id h2
            exact ⟨a, c, h1, h2, h3⟩
          · rw [hft] at h1; cases h1
        obtain ⟨qa, qc, hsl⟩ : ∃ a c, sliced la 0 q lc 1 = .slice a q c := by
          have := sliced_form la 0 q lc 1
          rwa [Nat.zero_add] at this
        have HSL := Lib.hid hsl
        have hqlc : q ≤ lc := by obtain ⟨_, _, e, h1, _⟩ := h.form; cases e; omega
        have HQL := Lib.hid hqlc
        have HAP : Hid (∀ (w' : World) (v1 v2 : Value), Below w0.heap.size w0 w' → FS w' v1 16 (wholeK x (bodyF (x % 4294967296) (ls.take q)) (touchN 0 (endF (ls.take q))).2 16) → FS w' v2 16 (wholeK x (bodyF (x % 4294967296) ls) (touchN 0 (endF ls)).2 16) →
            Calls Tryd.prog 24 #[v1, v2, .agg #[.slice ka kn kc, .int .i64 torn, .int .i64 cut]] w' fun r w'' => ∃ a c, r = .returned (.slice a 16 c) ∧ FS w'' (.slice a 16 c) 16 (synF x ls N kb torn cut) ∧ Below w'.heap.size w' w'') := Lib.hid fun w' v1 v2 hb h1 h2 => by
          refine (rapply_any v1 v2 _ 16 16 kn _ _ kb torn cut w' h1 h2 (hk.keep (bch hb0 hb)) hkb ht hct (by omega) (by omega)).mono fun r w'' ⟨v, e1, e2, e3⟩ => ?_
          have e2' : FS w'' v 16 (synF x ls N kb torn cut) := by unfold synF; rw [hq]; exact e2
          obtain ⟨a, c, rfl, _⟩ := id e2'
          exact ⟨a, c, e1, e2', e3⟩
        have HQE := Lib.hid hq
        generalize wholeK x (bodyF (x % 4294967296) (ls.take q)) (touchN 0 (endF (ls.take q))).2 16 = os at *
        generalize wholeK x (bodyF (x % 4294967296) ls) (touchN 0 (endF ls)).2 16 = ns at *
        clear hf hx hlb h hk hkb ht hct hN hb0 hy0 hc0 hz1 hln hg hw h0 hfew hq hq2 hN2 hm1 hsl hqlc
        go_enter Tryd.func12, Tryd.ntmps12
        go_wp2_with (first
          | (go_at_call 15; (refine HS0.out.mono ?_); rintro r w1 ⟨sa, sc, rfl, hs, hb⟩; obtain ⟨a0, a1, a2⟩ := HY.out w1 hb; have HB1 := Lib.hid hb; have HN1 := Lib.hid hs; clear hb hs)
          | (go_at_call 6; (refine (HFW.out _ HB1.out).mono ?_); rintro r w2 ⟨rfl, hb⟩; have HB2 := Lib.hid (bch HB1.out hb); have HN2 := Lib.hid (HN1.out.keep hb); obtain ⟨b0, b1, b2⟩ := HY.out w2 HB2.out; clear hb))
        have HST := Lib.hid (HY.out _ HB2.out.drew)
        (try go_wp2_with fail)
        refine wp_region_held_drew (S := (fun w' => w'.cell? ⟨w.heap.size, 0, none⟩ = some (.int .u64 x) ∧ w'.cell? ⟨w.heap.size, 1, none⟩ = some (.slice la n lc))) (by kernel_rfl) ⟨HST.out.1, HST.out.2.1⟩ (fun hS => ?_)
        refine wpAnyH_take (i := 0) (oi := ({ dst := some 43, op := Op.fieldAddr 42 (Operand.tmp 2) 0, type := 0, pos := "law.go:91", after := #[], guard := none } : Oper)) (v := ?_) rfl (by kernel_rfl) (by kernel_rfl) (by kernel_rfl) (fun _ _ _ h => h) (Or.inl ⟨by rfl, ?_⟩) hS ?_
        rotate_left
        · (intro w hSw; (try dsimp only at hSw); go_simp; try with_reducible rfl)
        (try simp only [Act.put, List.setIfInBounds_toArray, List.set_cons_zero, List.set_cons_succ])
        refine wpAnyH_take (i := 1) (oi := ({ dst := some 44, op := Op.load 22 (Operand.tmp 43), type := 22, pos := "law.go:91", after := #[{ on := 0, ground := Ground.data }], guard := none } : Oper)) (v := ?_) rfl (by kernel_rfl) (by kernel_rfl) (by kernel_rfl) (fun _ _ _ h => h) (Or.inl ⟨by rfl, ?_⟩) hS ?_
        rotate_left
        · (intro w hSw; (try dsimp only at hSw); go_simp; try with_reducible rfl)
        (try simp only [Act.put, List.setIfInBounds_toArray, List.set_cons_zero, List.set_cons_succ])
        refine wpAnyH_take (i := 2) (oi := ({ dst := some 45, op := Op.fieldAddr 42 (Operand.tmp 2) 1, type := 0, pos := "law.go:91", after := #[], guard := none } : Oper)) (v := ?_) rfl (by kernel_rfl) (by kernel_rfl) (by kernel_rfl) (fun _ _ _ h => h) (Or.inl ⟨by rfl, ?_⟩) hS ?_
        rotate_left
        · (intro w hSw; (try dsimp only at hSw); go_simp; try with_reducible rfl)
        (try simp only [Act.put, List.setIfInBounds_toArray, List.set_cons_zero, List.set_cons_succ])
        refine wpAnyH_take (i := 3) (oi := ({ dst := some 46, op := Op.load 23 (Operand.tmp 45), type := 23, pos := "law.go:91", after := #[{ on := 2, ground := Ground.data }], guard := none } : Oper)) (v := ?_) rfl (by kernel_rfl) (by kernel_rfl) (by kernel_rfl) (fun _ _ _ h => h) (Or.inl ⟨by rfl, ?_⟩) hS ?_
        rotate_left
        · (intro w hSw; (try dsimp only at hSw); go_simp; try with_reducible rfl)
        (try simp only [Act.put, List.setIfInBounds_toArray, List.set_cons_zero, List.set_cons_succ])
        refine wpAnyH_take (i := 4) (oi := ({ dst := some 47, op := Op.move (Operand.tmp 9), type := 3, pos := "law.go:91", after := #[], guard := none } : Oper)) (v := ?_) rfl (by kernel_rfl) (by kernel_rfl) (by kernel_rfl) (fun _ _ _ h => h) (Or.inl ⟨by rfl, ?_⟩) hS ?_
        rotate_left
        · (intro w hSw; (try dsimp only at hSw); go_simp; try with_reducible rfl)
        (try simp only [Act.put, List.setIfInBounds_toArray, List.set_cons_zero, List.set_cons_succ])
        refine wpAnyH_take (i := 5) (oi := ({ dst := some 48, op := Op.slice 23 (Operand.tmp 46) none (some (Operand.tmp 47)) none, type := 23, pos := "law.go:91", after := #[{ on := 3, ground := Ground.data }, { on := 4, ground := Ground.data }], guard := none } : Oper)) (v := .slice qa q qc) rfl (by kernel_rfl) (by kernel_rfl) (by kernel_rfl) (fun _ _ _ h => h) (Or.inl ⟨by rfl, ?_⟩) hS ?_
        · (intro w hSw; (try dsimp only at hSw); exact (exec_cutr_h (.tmp 46) (.tmp 47) rfl la n lc q rfl rfl HQL.out).trans (by rw [HSL.out]))
        (try simp only [Act.put, List.setIfInBounds_toArray, List.set_cons_zero, List.set_cons_succ])
        refine rg_one 6 ({ dst := some 49, op := Op.call { callee := Callee.value (Operand.func 15), args := #[Operand.tmp 44, Operand.tmp 48], argTypes := #[22, 23] }, type := 53, pos := "law.go:91", after := #[{ on := 1, ground := Ground.data }, { on := 5, ground := Ground.data }], guard := none } : Oper) (by kernel_rfl) rfl (fun K hK => ?_)
        go_simp
        (go_at_call 15; (refine (HSQ.out _ HB2.out.drew _ _ HSL.out).mono ?_); rintro r w3 ⟨ta, tc, rfl, hs, hb⟩; have HB3 := Lib.hid (bch HB2.out.drew hb); have HO3 := Lib.hid hs; have HN3 := Lib.hid (HN2.out.keep (bch (Below.refl _ w2).drew hb)); have hN := (show w3.cell? ⟨w.heap.size, 0, none⟩ = some (.int .u64 x) ∧ w3.cell? ⟨w.heap.size, 1, none⟩ = some (.slice la n lc) from ⟨(HY.out _ HB3.out).1, (HY.out _ HB3.out).2.1⟩); clear hb hs)
        refine hK.out _ _ ?_ (fun hS1 => ?_)
        · (first | exact hN | exact hS)
        clear hK K hS; have hS := hS1; clear hS1
        (try simp only [Act.put, List.setIfInBounds_toArray, List.set_cons_zero, List.set_cons_succ])
        refine wpAnyH_take (i := 7) (oi := ({ dst := some 42, op := Op.move (Operand.tmp 49), type := 53, pos := "law.go:91", after := #[{ on := 6, ground := Ground.data }], guard := none } : Oper)) (v := ?_) rfl (by kernel_rfl) (by kernel_rfl) (by kernel_rfl) (fun _ _ _ h => h) (Or.inl ⟨by rfl, ?_⟩) hS ?_
        rotate_left
        · (intro w hSw; (try dsimp only at hSw); go_simp; try with_reducible rfl)
        (try simp only [Act.put, List.setIfInBounds_toArray, List.set_cons_zero, List.set_cons_succ])
        refine wpAnyH_take (i := 8) (oi := ({ dst := some 50, op := Op.extract (Operand.tmp 42) 0, type := 24, pos := "law.go:91", after := #[{ on := 7, ground := Ground.data }], guard := none } : Oper)) (v := ?_) rfl (by kernel_rfl) (by kernel_rfl) (by kernel_rfl) (fun _ _ _ h => h) (Or.inl ⟨by rfl, ?_⟩) hS ?_
        rotate_left
        · (intro w hSw; (try dsimp only at hSw); go_simp; try with_reducible rfl)
        (try simp only [Act.put, List.setIfInBounds_toArray, List.set_cons_zero, List.set_cons_succ])
        refine wpAnyH_take (i := 9) (oi := ({ dst := some 51, op := Op.extract (Operand.tmp 42) 1, type := 4, pos := "law.go:91", after := #[{ on := 7, ground := Ground.data }, { on := 10, ground := Ground.gcOnly Departure.lateStores }], guard := none } : Oper)) (v := ?_) rfl (by kernel_rfl) (by kernel_rfl) (by kernel_rfl) (fun _ _ _ h => h) (Or.inl ⟨by rfl, ?_⟩) hS ?_
        rotate_left
        · (intro w hSw; (try dsimp only at hSw); go_simp; try with_reducible rfl)
        (try simp only [Act.put, List.setIfInBounds_toArray, List.set_cons_zero, List.set_cons_succ])
        refine wpAnyH_take (i := 10) (oi := ({ dst := some 10, op := Op.assign (Operand.tmp 50), type := 24, pos := "law.go:91", after := #[{ on := 8, ground := Ground.data }, { on := 6, ground := Ground.chain }, { on := 0, ground := Ground.phase }, { on := 1, ground := Ground.phase }, { on := 2, ground := Ground.phase }, { on := 3, ground := Ground.phase }, { on := 4, ground := Ground.phase }, { on := 5, ground := Ground.phase }, { on := 6, ground := Ground.phase }, { on := 7, ground := Ground.phase }, { on := 8, ground := Ground.phase }, { on := 9, ground := Ground.textOnly Departure.lateStores }], guard := none } : Oper)) (v := ?_) rfl (by kernel_rfl) (by kernel_rfl) (by kernel_rfl) (fun _ _ _ h => h) (Or.inl ⟨by rfl, ?_⟩) hS ?_
        rotate_left
        · (intro w hSw; (try dsimp only at hSw); go_simp; try with_reducible rfl)
        (try simp only [Act.put, List.setIfInBounds_toArray, List.set_cons_zero, List.set_cons_succ])
        refine wpAnyH_take (i := 11) (oi := ({ dst := some 11, op := Op.assign (Operand.tmp 51), type := 4, pos := "law.go:91", after := #[{ on := 9, ground := Ground.data }, { on := 10, ground := Ground.chain }, { on := 0, ground := Ground.phase }, { on := 1, ground := Ground.phase }, { on := 2, ground := Ground.phase }, { on := 3, ground := Ground.phase }, { on := 4, ground := Ground.phase }, { on := 5, ground := Ground.phase }, { on := 6, ground := Ground.phase }, { on := 7, ground := Ground.phase }, { on := 8, ground := Ground.phase }, { on := 9, ground := Ground.phase }, { on := 10, ground := Ground.phase }], guard := none } : Oper)) (v := ?_) rfl (by kernel_rfl) (by kernel_rfl) (by kernel_rfl) (fun _ _ _ h => h) (Or.inl ⟨by rfl, ?_⟩) hS ?_
        rotate_left
        · (intro w hSw; (try dsimp only at hSw); go_simp; try with_reducible rfl)
        (try simp only [Act.put, List.setIfInBounds_toArray, List.set_cons_zero, List.set_cons_succ])
        refine wpAnyH_done (by kernel_rfl) ?_ _
        clear hS hN HST
        go_wp2_with (first
          | (refine wpList_load_row rfl 45 (.tmp 3) rfl (w.heap.size + 1) rfl _ #[.slice ka kn kc, .int .i64 torn, .int .i64 cut] (0, 0) _ (HC.out _ HB3.out) Tryd.underlying45 rfl crash_info ?_)
          | (go_at_call 24; (refine (HAP.out _ _ _ HB3.out HO3.out HN3.out).mono ?_); rintro r w4 ⟨ra, rc, rfl, hs, hb⟩; have HR4 := Lib.hid hs; have HB4 := Lib.hid (bch HB3.out hb); clear hs hb))
        (try simp only [Exit.inBlock, Exit.then]); refine bodyPost_ret (results_tmp3 rfl _ _ _) rfl ?_
        exact .inr ⟨HNO.out, ra, rc, by rw [HQE.out]; rfl, HR4.out, bch HB0.out HB4.out⟩
end Go.Proofs.YtepaghohojomeaaDoor
/-
  Synced.After OF THE LAW OF LAYER 19: its sectors are bytes, whatever the crash; how many records are lasting. No condition.
-/
namespace Go.Proofs.YtepaghohojomeaaDoor
open Go.RowKit
theorem leaves_isB (kb : List Int) (torn cut : Int) (o n : List Int) (i : Nat) (ho : isB o) (hn : isB n) : isB (leaves kb torn cut o n i) := by
  unfold leaves
  split
  · unfold mixN
    exact (hn.take _).append (ho.drop _)
  · split
    · exact hn
    · exact ho
theorem applyN_isB (kb : List Int) (torn cut : Int) (os ns : List Int) (ho : isB os) (hn : isB ns) : ∀ k, isB (applyN kb torn cut os ns k)
  | 0 => isB.nil
  | k + 1 => by
    unfold applyN
    exact (applyN_isB kb torn cut os ns ho hn k).append (leaves_isB _ _ _ _ _ _ ((ho.drop _).take _) ((hn.drop _).take _))
theorem synF_isB (x : Int) (ls : List (List Int)) (hlb : ∀ l ∈ ls, isB l) (N : Int) (kb : List Int) (torn cut : Int) : isB (synF x ls N kb torn cut) := by
  unfold synF
  have hb : ∀ l : List (List Int), (∀ z ∈ l, isB z) → isB (bodyF (x % 4294967296) l) := fun l hl => by
    have := bodyF_bytes (ep := x % 4294967296) l hl l.length (Nat.le_refl _)
    rwa [List.take_length] at this
  exact applyN_isB kb torn cut _ _ (sc_whole_bytes x _ (hb _ fun z hz => hlb z (List.mem_of_mem_take hz)) _ 16) (sc_whole_bytes x _ (hb _ hlb) _ 16) 16
theorem syn_info : (Tryd.prog.info? 42).map (·.size) = some 3 := by kernel_rfl
theorem synOk_parts {x : Int} {ls : List (List Int)} (h : synOk x ls = true) : fewB ls = true ∧ fitsF ls = true ∧ x ≠ 0 := by
  unfold synOk at h
  rw [Bool.and_eq_true, Bool.and_eq_true] at h
  exact ⟨h.1.1, h.1.2, by simpa using h.2⟩
theorem synN_le (N : Int) (ls : List (List Int)) : synN N ls ≤ ls.length := by
  unfold synN
  have := Int.emod_lt_of_pos N (show (0 : Int) < ((ls.length + 1 : Nat) : Int) by omega)
  omega
end Go.Proofs.YtepaghohojomeaaDoor
/-
  WHAT THE SCANNER'S LIST OF RECORDS IS, as a list of slices (layer 19). No condition.
-/
namespace Go.Proofs.YtepaghohojomeaaDoor
open Go.RowKit
theorem SR.rl_ {base : Nat} {w : World} {v bl : Value} {es : List (List Int × Value)} {R : List (List Int)} (r : SR base w v es.length es bl) (h : es.map Prod.fst = R) : RL .u8 w v R.length R := by
  have := r.rl
  rw [h] at this
  rwa [show es.length = R.length from by rw [← h, List.length_map]] at this
end Go.Proofs.YtepaghohojomeaaDoor
/-
  LAYER 20 (tear), plain mathematics: what any crash leaves of a segment's sectors, one that tears a sector, too. No condition.
-/
namespace Go.Proofs.YtepaghohojomeaaDoor
open Go.RowKit
theorem mixN_get (o s : List Int) (k j : Nat) (hs : k ≤ s.length) : (mixN o s k).getD j 0 = if j < k then s.getD j 0 else o.getD j 0 := by
  unfold mixN
  by_cases h : j < k
  · rw [if_pos h, getD_app_l _ _ _ (by rw [List.length_take]; omega)]
    simp only [List.getD, List.getElem?_take, h, if_true]
  · rw [if_neg h, getD_app_r _ _ _ (by rw [List.length_take]; omega)]
    rw [List.length_take, Nat.min_eq_left hs]
    simp only [List.getD, List.getElem?_drop, show k + (j - k) = j from by omega]
theorem cutN_le (cut : Int) : cutN cut ≤ 64 := by unfold cutN; omega
theorem sec_ext (a b : List Int) (ha : a.length = 64) (hb : b.length = 64) (h : ∀ j, j < 64 → a.getD j 0 = b.getD j 0) : a = b := by
  refine List.ext_getElem (by omega) fun j h1 h2 => ?_
  have := h j (by omega)
  simpa [List.getD, h1, h2] using this
/-- a sector whose stamp's bytes are a sealed one's is sealed -/
theorem sealed_by (x i : Int) (s r : List Int) (hs : s.length = 64) (h : ∀ j, j < 12 → s.getD j 0 = (sealed x i r).getD j 0) : sealed x i (s.drop 12) = s := by
  refine sec_ext _ _ (sealed_length _ _ _) hs fun j hj => ?_
  by_cases h12 : j < 12
  · rw [h j h12]
    by_cases h8 : j < 8
    · rw [sealed_get1 _ _ _ _ h8, sealed_get1 _ _ _ _ h8]
    · rw [sealed_get2 _ _ _ _ (by omega) h12, sealed_get2 _ _ _ _ (by omega) h12]
  · rw [sealed_get3 _ _ _ _ (by omega) hj]
    simp only [List.getD, List.getElem?_drop, show 12 + (j - 12) = j from by omega]
/-- a sector's bytes, of what was laid -/
theorem whole_byte (x : Int) (body : List Int) (n i j : Nat) (hi : i < 16) (h12 : 12 ≤ j) (hj : j < 64) : (secOf (wholeK x body n 16) i).getD j 0 = if i < n then body.getD (52 * i + (j - 12)) 0 else 0 := by
  rw [secOf_whole x body n i 16 hi]
  split
  · rw [sealed_get3 _ _ _ _ h12 hj]
    unfold partB
    simp only [List.getD, List.getElem?_take, show j - 12 < 52 from by omega, if_true, List.getElem?_drop]
  · exact getD_replicate 64 j
/-- a sector behind a crash: some first bytes of the new one, and the old one's others -/
theorem leaves_mix (kb : List Int) (torn cut : Int) (os ns : List Int) (ho : os.length = 16 * 64) (hn : ns.length = 16 * 64) (i : Nat) (hi : i < 16) :
    ∃ q, q ≤ 64 ∧ (∀ j, (secOf (applyN kb torn cut os ns 16) i).getD j 0 = if j < q then (secOf ns i).getD j 0 else (secOf os i).getD j 0) ∧ ((i : Int) ≠ torn → q = 0 ∨ q = 64) := by
  have h1 := secOf_length os 16 i ho hi
  have h2 := secOf_length ns 16 i hn hi
  have hs := apply_sec kb torn cut os ns ho hn i 16 hi (Nat.le_refl _)
  rw [hs]
  unfold leaves
  by_cases ht : (i : Int) = torn
  · rw [if_pos ht]
    refine ⟨cutN cut, cutN_le cut, fun j => ?_, fun h => absurd ht h⟩
    have h2' : (sct ns i).length = 64 := h2
    have := mixN_get (sct os i) (sct ns i) (cutN cut) j (by have := cutN_le cut; omega)
    exact this
  · rw [if_neg ht]
    split
    · refine ⟨64, Nat.le_refl _, fun j => ?_, fun _ => .inr rfl⟩
      by_cases hj : j < 64
      · rw [if_pos hj]; rfl
      · rw [if_neg hj]
        have h2' : (sct ns i).length = 64 := h2
        simp only [List.getD, List.getElem?_eq_none (show (sct ns i).length ≤ j from by omega), List.getElem?_eq_none (show (secOf os i).length ≤ j from by omega)]
    · exact ⟨0, by omega, fun j => by rw [if_neg (by omega)]; rfl, fun _ => .inl rfl⟩
section
variable {x : Int} (hx : U64 x) (h0 : x ≠ 0) {ls : List (List Int)} (hg : GoodF ls ls.length)
include hx h0 hg
omit hx h0 in
theorem old_le {n : Nat} (hn : n ≤ ls.length) : endF (ls.take n) ≤ endF ls := by
  have := end_mono hg (k := n) (t := ls.length) hn (Nat.le_refl _)
  rwa [List.take_length] at this
omit hx h0 in
/-- a byte of the old sectors, of the new ones -/
theorem laid_byte (n : Nat) (hn : n ≤ ls.length) (i j : Nat) (hi : i < 16) (h12 : 12 ≤ j) (hj : j < 64) :
    (secOf (wholeK x (bodyF (x % 4294967296) (ls.take n)) (touchN 0 (endF (ls.take n))).2 16) i).getD j 0 = if 52 * i + (j - 12) < endF (ls.take n) then (bodyF (x % 4294967296) ls).getD (52 * i + (j - 12)) 0 else 0 := by
  rw [whole_byte x _ _ i j hi h12 hj]
  have h1 := body_out hg (x % 4294967296) n hn (52 * i + (j - 12))
  have h2 := body_pre hg (x % 4294967296) (k := n) (t := ls.length) hn (Nat.le_refl _) (52 * i + (j - 12))
  rw [List.take_length] at h2
  have ht := touch_lt (endF (ls.take n)) i
  by_cases he : 52 * i + (j - 12) < endF (ls.take n)
  · rw [if_pos he, if_pos (ht.2 (by omega)), h2 he]
  · rw [if_neg he]
    split
    · exact h1 (by omega)
    · rfl
omit hx h0 hg in
theorem laid_stamp (n : Nat) (i : Nat) (hi : i < 16) (h52 : 52 * i < endF (ls.take n)) : secOf (wholeK x (bodyF (x % 4294967296) (ls.take n)) (touchN 0 (endF (ls.take n))).2 16) i = sealed x (i : Int) (partB (bodyF (x % 4294967296) (ls.take n)) i) := by
  rw [secOf_whole x _ _ i 16 hi, if_pos ((touch_lt _ i).2 h52)]
omit hx h0 hg in
theorem stamp_same (y i : Int) (r s : List Int) (j : Nat) (h : j < 12) : (sealed y i r).getD j 0 = (sealed y i s).getD j 0 := by
  by_cases h8 : j < 8
  · rw [sealed_get1 _ _ _ _ h8, sealed_get1 _ _ _ _ h8]
  · rw [sealed_get2 _ _ _ _ (by omega) h, sealed_get2 _ _ _ _ (by omega) h]
omit h0 hx in
/-- behind any crash -/
theorem kept_crash (n : Nat) (hn : n ≤ ls.length) (kb : List Int) (torn cut : Int) :
    Kept (flatB x 16 (applyN kb torn cut (wholeK x (bodyF (x % 4294967296) (ls.take n)) (touchN 0 (endF (ls.take n))).2 16) (wholeK x (bodyF (x % 4294967296) ls) (touchN 0 (endF ls)).2 16) 16) 16)
      (flatK x 16 (applyN kb torn cut (wholeK x (bodyF (x % 4294967296) (ls.take n)) (touchN 0 (endF (ls.take n))).2 16) (wholeK x (bodyF (x % 4294967296) ls) (touchN 0 (endF ls)).2 16) 16) 16)
      (bodyF (x % 4294967296) ls) (endF (ls.take n)) (endF ls) := by
  have hl : ls.take ls.length = ls := List.take_length
  have n1 := laid_byte (x := x) hg ls.length (Nat.le_refl _)
  have o1 := laid_byte (x := x) hg n hn
  have n2 := laid_stamp (x := x) (ls := ls) ls.length
  have o2 := laid_stamp (x := x) (ls := ls) n
  rw [hl] at n1 n2
  have hle := old_le hg hn
  have hos := wholeK_length x (bodyF (x % 4294967296) (ls.take n)) (touchN 0 (endF (ls.take n))).2 16
  have hns := wholeK_length x (bodyF (x % 4294967296) ls) (touchN 0 (endF ls)).2 16
  generalize wholeK x (bodyF (x % 4294967296) (ls.take n)) (touchN 0 (endF (ls.take n))).2 16 = os at *
  generalize wholeK x (bodyF (x % 4294967296) ls) (touchN 0 (endF ls)).2 16 = ns at *
  have hal := applyN_length kb torn cut os ns 16 16 hos hns 16 (Nat.le_refl _) (Nat.le_refl _)
  have hmx := leaves_mix kb torn cut os ns hos hns
  generalize applyN kb torn cut os ns 16 = fs at *
  have hok : ∀ i, i < 16 → 52 * i < endF (ls.take n) → okAt x 16 fs i = true := fun i hi h => by
    obtain ⟨q, _, hq, _⟩ := hmx i hi
    rw [okAt_in _ _ _ _ hi]
    refine decide_eq_true (sealed_by x i _ (partB (bodyF (x % 4294967296) ls) i) (secOf_length _ 16 i hal hi) fun j hj => ?_)
    rw [hq j]
    split
    · rw [n2 i hi (by omega)]
    · rw [o2 i hi h]; exact stamp_same _ _ _ _ _ hj
  have hby : ∀ i, i < 16 → ∀ r, r < 52 → (flatB x 16 fs 16).getD (52 * i + r) 0 = if okAt x 16 fs i = true then (secOf fs i).getD (12 + r) 0 else 0 := fun i hi r hr => by
    rw [flatB_get x 16 fs hal i r hr 16 hi]
    unfold roomAt
    split
    · simp only [List.getD, List.getElem?_drop]
    · exact getD_replicate 52 r
  refine ⟨flatB_length _ _ _ hal 16, fun i hi h => ?_, fun j hj => ?_, fun j hj h8 => ?_⟩
  · rw [flatK_get _ _ _ i 16 hi]; exact hok i hi h
  · have hd : 52 * (j / 52) + j % 52 = j := by omega
    have h8 : endF (ls.take n) ≤ 832 := endF_le _
    have h1 := hby (j / 52) (by omega) (j % 52) (by omega)
    rw [hd, hok (j / 52) (by omega) (by omega), if_pos rfl] at h1
    obtain ⟨q, _, hq, _⟩ := hmx (j / 52) (by omega)
    rw [h1, hq]
    have e : 52 * (j / 52) + (12 + j % 52 - 12) = j := by omega
    split
    · rw [n1 _ _ (by omega) (by omega) (by omega), e, if_pos (by omega)]
    · rw [o1 _ _ (by omega) (by omega) (by omega), e, if_pos hj]
  · have hd : 52 * (j / 52) + j % 52 = j := by omega
    have h1 := hby (j / 52) (by omega) (j % 52) (by omega)
    rw [hd] at h1
    rw [h1]
    split
    · obtain ⟨q, _, hq, _⟩ := hmx (j / 52) (by omega)
      rw [hq]
      have e : 52 * (j / 52) + (12 + j % 52 - 12) = j := by omega
      split
      · rw [n1 _ _ (by omega) (by omega) (by omega), e, if_neg (by omega)]
      · rw [o1 _ _ (by omega) (by omega) (by omega), e, if_neg (by omega)]
    · rfl
end
/-- what Scan tells behind any crash that leaves what is free of collisions -/
theorem told_torn {x : Int} {ls : List (List Int)} (hg : GoodF ls ls.length) (h5 : ∀ z ∈ ls, z.length ≤ 512) (n : Nat) (hn : n ≤ ls.length) (kb : List Int) (torn cut : Int) (fs : List Int)
    (hfs : applyN kb torn cut (wholeK x (bodyF (x % 4294967296) (ls.take n)) (touchN 0 (endF (ls.take n))).2 16) (wholeK x (bodyF (x % 4294967296) ls) (touchN 0 (endF ls)).2 16) 16 = fs)
    (hc : clF (x % 4294967296) (flatB x 16 fs 16) (flatK x 16 fs 16) ls ls.length = []) :
    ∃ q, n ≤ q ∧ q ≤ ls.length ∧ (scEnd (x % 4294967296) (flatB x 16 fs 16) (flatK x 16 fs 16)).recs = ls.take q := by
  have M := kept_crash (x := x) hg n hn kb torn cut
  rw [hfs] at M
  exact M.told (by omega) hg h5 hn hc
end Go.Proofs.YtepaghohojomeaaDoor
