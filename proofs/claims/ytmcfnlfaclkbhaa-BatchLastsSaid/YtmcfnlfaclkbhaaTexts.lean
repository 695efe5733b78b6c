/-
  LISTS OF TEXTS: where they lie (SS), one at its place, appends to one that a call makes. Nothing here speaks of the program's functions. No condition.
-/
import Derived.Test.YtmcfnlfaclkbhaaList
import Derived.Deep.DeepAppendWide
namespace Go.Proofs.Ytmcfnlfaclkbhaa
open Go.RowKit
/-- a slice of texts -/
def SS (w : World) (v : Value) (l : List ByteArray) : Prop := CS 1 w v l.length (l.map .string)
theorem SS.kin {w w' : World} (hb : Kin w w') {v : Value} {l : List ByteArray} (h : SS w v l) : SS w' v l := CS.kin hb h
theorem SS.at_ {w : World} {a : Option Addr} {n cap : Nat} {l : List ByteArray} (h : SS w (.slice a n cap) l) (i : Nat) (s : ByteArray) (hs : l[i]? = some s) :
    ∃ b off, a = some ⟨b, off, none⟩ ∧ w.cell? ⟨b, off + i, none⟩ = some (.string s) := by
  obtain ⟨hi, rfl⟩ := List.getElem?_eq_some_iff.1 hs
  have hn : n = l.length := by obtain ⟨_, _, hv, _⟩ := h; simp at hv; exact hv.2.1
  subst hn
  obtain ⟨b, off, rfl, hc⟩ := CS.at_ h i hi
  refine ⟨b, off, rfl, ?_⟩
  have h1 := hc 0 (by omega)
  simpa [hi] using h1
theorem SS.below {w w' : World} {v : Value} {l : List ByteArray} (h : SS w v l) (hb : Below w.heap.size w w') : SS w' v l := h.kin (Kin.below hb)
theorem str_parts : (Try.prog.info? 9).map (fun i => (i.zero, i.size, i.bytes)) = some (some (.string ByteArray.empty), 1, 16) := by kernel_rfl
/-- append of one text to a row that the call made -/
theorem wpl_app_str {w : World} {ops : Array Oper} {rest : List Oper} {o : Oper} {a : Act} {Q : Exit → Act → World → Prop} (hgd : o.guard = none) (s x : Operand)
    (ho : o.op = .call { callee := .builtin .append, args := #[s, x], argTypes := #[43, 43] })
    (base : Nat) (v : Value) (n : Nat) (xs : List Value) (hs : a.eval s = v) (hown : Hid (w.ownsRow base 9 1 v n xs))
    (ad : Addr) (y : ByteArray) (hx : a.eval x = .slice (some ad) 1 1) (hcell : w.cell? ad = some (.string y)) (hn : n ≤ 1000000) (hbase : base ≤ w.heap.size)
    (h : ∀ v' w', Hid (w'.ownsRow base 9 1 v' (n + 1) (xs ++ [.string y])) → Hid (w.grownBy w' v.ownBlock) → wpList Try.prog ops Q rest (a.put o.dst v') w') : wpList Try.prog ops Q (o :: rest) a w := by
  obtain ⟨i, hi, hz0, hz1, hz2⟩ := info_parts str_parts
  refine wpList_append_own_wide w hgd s x 43 ho base 9 i (.string ByteArray.empty) 1 16 Try.underlying43 hi hz0 hz1 hz2 rfl (by omega) v n xs hs hown.out ad 1 1 [.string y] hx rfl ?_ (by simp [Value.oneCell']) (by unfold maxLen; omega) (by omega) hbase ?_
  · intro j u hj
    match j, hj with
    | 0, hj => simp at hj; subst hj; simpa [Addr.add] using hcell
  · intro v' w' h1 h2 _
    exact h v' w' h1 h2
theorem grown_alloc_trans {w w1 w2 : World} {o : Obj} {row : Option Nat} (h : (w1.alloc o).grownBy w2 row) (hb : Below w.heap.size w w1) (hr : ∀ j, row = some j → w.heap.size ≤ j) : Below w.heap.size w w2 :=
  (hb.alloc hb.size o).grown h (by have := hb.size; have e : (w1.alloc o).heap.size = w1.heap.size + 1 := by { show (w1.heap.push o).size = _; simp }; omega) hr
end Go.Proofs.Ytmcfnlfaclkbhaa
