/-
  LISTS OF LAYER 15: fragments that came in (IF); records that a call makes, each one's bytes in a row of its own that lies apart from the joiner's (RW); loads and appends. Nothing here speaks of the program's functions. No condition.
-/
import Derived.Test.YtbnedcghbdphlaaJoinBlk
import Derived.Test.YtbnedcghbdphlaaFragList
import Derived.Test.YtbnedcghbdphlaaSlices
namespace Go.Proofs.Ytbnedcghbdphlaa
open Go.RowKit
theorem Try.info_sl : (Try.prog.info? 26).map (fun i => (i.zero, i.size, i.bytes)) = some (some (.slice none 0 0), 1, 24) := by kernel_rfl
/-- fragments that lie somewhere, each one's data too -/
structure IF (w : World) (v : Value) (n : Nat) (es : List (FR × Value)) : Prop where
  row : CS 3 w v n (eF es)
  data : ∀ e ∈ es, RI .u8 w e.2 e.1.data.length e.1.data
section
variable {w w' : World} {v v' : Value} {n m : Nat} {es : List (FR × Value)}
theorem IF.len (h : IF w v n es) : es.length = n := by have := h.row.length; rw [eF_length] at this; omega
theorem IF.keep (h : IF w v n es) (hb : Below w.heap.size w w') : IF w' v n es := ⟨h.row.kin (Kin.below hb), fun e he => (h.data e he).keep hb⟩
theorem IF.form (h : IF w v n es) : ∃ a cap, v = .slice a n cap ∧ n ≤ cap ∧ cap ≤ 9223372036854775807 ∧ (a = none → cap = 0) := h.row.form
theorem IF.at_ {a : Option Addr} {cap : Nat} (h : IF w (.slice a n cap) n es) (i : Nat) (e : FR × Value) (he : es[i]? = some e) : ∃ b off, a = some ⟨b, off, none⟩ ∧ w.rangeAt b (off + i * 3) (eL e) := by
  have hi := (List.getElem?_eq_some_iff.1 he).1
  have hl := h.len
  obtain ⟨b, off, rfl, hc⟩ := CS.at_ h.row i (by omega)
  refine ⟨b, off, rfl, fun j v hv => ?_⟩
  have hj : j < 3 := (List.getElem?_eq_some_iff.1 hv).1
  have h7 := flat_get 3 (es.map eL) i j (fun e he => by obtain ⟨o, _, rfl⟩ := List.mem_map.1 he; rfl) hj (eL e) (by simp [he])
  exact ((hc j hj).trans h7).trans hv
theorem el_keep {b o : Nat} {cs : List Value} (hb : Below w.heap.size w w') (h : w.rangeAt b o cs) : w'.rangeAt b o cs := fun j v hv => cell_keep hb (h j v hv)
theorem wpl_load_el {ops : Array Oper} {rest : List Oper} {o : Oper} {a : Act} {Q : Exit → Act → World → Prop} (hgd : o.guard = none) {b off : Nat} {e : FR × Value} (x : Operand) (ho : o.op = .load 34 x) (hx : a.eval x = .pointer (some ⟨b, off, none⟩)) (h : w.rangeAt b off (eL e))
    (hk : wpList Try.prog ops Q rest (a.put o.dst (.agg (fA e.1.kind e.1.epoch e.2))) w) : wpList Try.prog ops Q (o :: rest) a w :=
  wpList_load_mid hgd 34 x ho b off hx (eL e) _ h Try.underlying34 rfl fr_info' hk
end
/-- records that a call makes; bl is where the joiner's bytes lie -/
structure RW (base : Nat) (w : World) (v : Value) (m : Nat) (es : List (List Int × Value)) (bl : Value) : Prop where
  row : w.ownsRow base 26 1 v m (es.map Prod.snd)
  data : ∀ e ∈ es, w.ownsRow base 5 1 e.2 e.1.length (il .u8 e.1)
  apart : ∀ e ∈ es, ∀ g, e.2.ownBlock = some g → some g ≠ bl.ownBlock
section
variable {base jb : Nat} {w w' : World} {v v' bl bl' hv hv' : Value} {m : Nat} {es : List (List Int × Value)} {o : Bool} {h : List Int}
theorem RW.len (r : RW base w v m es bl) : es.length = m := by have := r.row.1; simpa using this
theorem RW.nil (base : Nat) (w : World) (bl : Value) : RW base w (.slice none 0 0) 0 [] bl := ⟨World.ownsRow_nil _ _ _ _, fun e he => by simp at he, fun e he => by simp at he⟩
theorem RW.keep (r : RW base w v m es bl) (hb : Below w.heap.size w w') : RW base w' v m es bl := ⟨own_keep r.row hb, fun e he => own_keep (r.data e he) hb, r.apart⟩
theorem RW.rl (r : RW base w v m es bl) : RL .u8 w v m (es.map Prod.fst) := by
  have hl := r.len
  refine ⟨es.map Prod.snd, RV.own r.row, by simpa using hl, fun j e l he hl => ?_⟩
  have hj : j < es.length := by have := (List.getElem?_eq_some_iff.1 he).1; simpa using this
  simp [hj] at he hl
  subst he hl
  exact RI.own (r.data _ (List.getElem_mem hj))
/-- a fragment is fed -/
theorem RW.feed (r : RW base w v m es hv) (j : JB w base jb o hv h) (k : Oth w w' jb hv) (l : Lies w hv hv') : RW base w' v m es hv' := by
  refine ⟨j.oth k r.row (by decide) (own_types r.row j.row (by decide)), fun e he => j.oth k (r.data e he) (by decide) (r.apart e he), fun e he g hg e2 => ?_⟩
  have h1 := ((r.data e he).lt g hg).2
  rcases l g e2.symm with h2 | h2
  · exact r.apart e he g hg h2
  · omega
theorem RW.snoc (r : RW base w v m es bl) (hg : w.grownBy w' v.ownBlock) (e : List Int × Value) (hd : w.ownsRow base 5 1 e.2 e.1.length (il .u8 e.1)) (ha : ∀ g, e.2.ownBlock = some g → some g ≠ bl.ownBlock)
    (ho : w'.ownsRow base 26 1 v' (m + 1) (es.map Prod.snd ++ [e.2])) : RW base w' v' (m + 1) (es ++ [e]) bl := by
  refine ⟨by rw [List.map_append]; exact ho, fun x hx => ?_, fun x hx => ?_⟩
  · rcases List.mem_append.1 hx with hx | hx
    · exact own_over (r.data x hx) hg (own_types (r.data x hx) r.row (by decide))
    · obtain rfl : x = e := by simpa using hx
      exact own_over hd hg (own_types hd r.row (by decide))
  · rcases List.mem_append.1 hx with hx | hx
    · exact r.apart x hx
    · obtain rfl : x = e := by simpa using hx
      exact ha
/-- a row that was there stays, where the list grows -/
theorem RW.other (r : RW base w v m es bl) (hg : w.grownBy w' v.ownBlock) {t : TypeId} {k n base' : Nat} {u : Value} {xs : List Value} (ho : w.ownsRow base' t k u n xs) (ht : t ≠ 26) : w'.ownsRow base' t k u n xs :=
  own_over ho hg (own_types ho r.row ht)
theorem RW.blk (r : RW base w v m es bl) (hg : w.grownBy w' v.ownBlock) {g : Nat} {c : Array Value} {t : TypeId} (hk : w.heap[g]? = some (.cells c t (0, 0))) (ht : t ≠ 26) : w'.heap[g]? = some (.cells c t (0, 0)) := by
  refine (hg.block g (Array.getElem?_eq_some_iff.1 hk).1 (fun e => ?_)).trans hk
  rcases r.row.2 with ⟨rfl, _⟩ | ⟨q, cap, cur, rfl, _, hcur, _⟩
  · simp [Value.ownBlock] at e
  · simp only [Value.ownBlock, Option.some.injEq] at e
    subst e
    rw [hk] at hcur
    simp only [Option.some.injEq, Obj.cells.injEq] at hcur
    exact ht hcur.2.1
theorem RW.joiner (r : RW base w v m es bl) (hg : w.grownBy w' v.ownBlock) (j : JB w base jb o hv h) : JB w' base jb o hv h :=
  ⟨r.blk hg j.blk (by decide), r.other hg j.row (by decide), j.idle, j.few, j.low⟩
/-- append of one record -/
theorem wpl_app_rw {ops : Array Oper} {rest : List Oper} {o : Oper} {a : Act} {Q : Exit → Act → World → Prop} (hgd : o.guard = none) (s x : Operand)
    (ho : o.op = .call { callee := .builtin .append, args := #[s, x], argTypes := #[38, 38] }) (hs : a.eval s = v) (r : RW base w v m es bl)
    (g : Nat) (e : List Int × Value) (hx : a.eval x = .slice (some ⟨g, 0, none⟩) 1 1) (hblk : w.heap[g]? = some (.cells #[e.2] 26 (0, 0)))
    (hd : w.ownsRow base 5 1 e.2 e.1.length (il .u8 e.1)) (ha : ∀ g, e.2.ownBlock = some g → some g ≠ bl.ownBlock) (hm : m ≤ 1000000) (hbase : base ≤ w.heap.size)
    (hq : ∀ v' w', Hid (RW base w' v' (m + 1) (es ++ [e]) bl) → Hid (w.grownBy w' v.ownBlock) → wpList Try.prog ops Q rest (a.put o.dst v') w') : wpList Try.prog ops Q (o :: rest) a w := by
  obtain ⟨i, hi, hz0, hz1, hz2⟩ := info_parts Try.info_sl
  obtain ⟨p, c, hv⟩ := own_form hd
  refine wpList_append_own_wide w hgd s x 38 ho base 26 i (.slice none 0 0) 1 24 Try.underlying38 hi hz0 hz1 hz2 rfl (by omega) v m (es.map Prod.snd) hs r.row ⟨g, 0, none⟩ 1 1 [e.2] hx rfl ?_ (by simp [Value.oneCell', hv]) (by unfold maxLen; omega) (by omega) hbase ?_
  · intro j u hj
    match j, hj with
    | 0, hj => simp at hj; subst hj; simpa [Addr.add] using cell_of_row w g 0 _ _ _ hblk
  · intro v' w' ho' hg _
    exact hq v' w' (r.snoc hg e hd ha ho') hg
end
end Go.Proofs.Ytbnedcghbdphlaa
