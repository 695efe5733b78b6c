/-
  WHAT LIES APART, AND WHAT IS NEW: small laws over 'Below', rows of a call's own, texts of bytes; results in a cell with numbers beside it. Nothing here speaks of the program's functions. No condition.
-/
import Derived.Test.YthickhfbllddjaaDoorBase
import Derived.Deep.WholeRow
import Derived.Lib.SmallJoins
namespace Go.Proofs.YthickhfbllddjaaDoor
open Go.RowKit
theorem own_mono {w : World} {base base' : Nat} {e : TypeId} {size : Nat} {v : Value} {n : Nat} {xs : List Value} (h : w.ownsRow base e size v n xs) (hb : base' ≤ base) : w.ownsRow base' e size v n xs := by
  refine ⟨h.1, ?_⟩
  rcases h.2 with h2 | ⟨g, cap, cur, hv, hg, h3⟩
  · exact .inl h2
  · exact .inr ⟨g, cap, cur, hv, Nat.le_trans hb hg, h3⟩
theorem own_form {w : World} {base : Nat} {e : TypeId} {size : Nat} {v : Value} {n : Nat} {xs : List Value} (h : w.ownsRow base e size v n xs) : ∃ a c, v = .slice a n c := by
  rcases h.2 with ⟨rfl, rfl⟩ | ⟨g, cap, cur, hv, _⟩
  · exact ⟨none, 0, rfl⟩
  · exact ⟨_, cap, hv⟩
theorem balloc (w : World) (o : Obj) : Below w.heap.size w (w.alloc o) := (Below.refl _ _).alloc (Nat.le_refl _) _
theorem bch {a b c : World} (h : Below a.heap.size a b) (k : Below b.heap.size b c) : Below a.heap.size a c := h.trans (k.mono h.size)
/-- a literal of one byte, as a row of the call's own -/
theorem own_lit1 {w w' : World} {base : Nat} {k : Int} (h : w.alloc (.cells #[.int .u8 k] 5) = w') (hb : base ≤ w.heap.size) : w'.ownsRow base 5 1 (.slice (some ⟨w.heap.size, 0, none⟩) 1 1) 1 (il .u8 [k]) := by
  subst h
  exact World.ownsRow_lit w #[.int .u8 k] 1 hb (by unfold maxLen; omega) rfl
theorem bdrew (w : World) (o : Obj) : Below w.drew.heap.size w.drew (w.alloc o).drew := let h := balloc w o; ⟨h.os, h.tape, h.output, h.size, h.block⟩
theorem own_lit1d {w w' : World} {base b : Nat} {k : Int} (h : (w.alloc (.cells #[.int .u8 k] 5)).drew = w') (hb : base ≤ w.heap.size) (hw : w.heap.size = b) : w'.ownsRow base 5 1 (.slice (some ⟨b, 0, none⟩) 1 1) 1 (il .u8 [k]) := by
  subst h
  subst hw
  exact World.ownsRow.drew (own_lit1 rfl hb)
theorem bdrew0 (w : World) (o : Obj) : Below w.heap.size w (w.alloc o).drew := let h := balloc w o; ⟨h.os, h.tape, h.output, h.size, h.block⟩
theorem brow {B b : Nat} {a w : World} (h : Below B a w) (hB : B ≤ b) (ha : B ≤ a.heap.size) (c : Array Value) : Below B a (w.setRow b c) :=
  h.grown ⟨rfl, rfl, rfl, by simp, fun i _ hne => setRow_other w b i c (fun e => hne (by rw [e]))⟩ (Nat.le_trans ha h.size) (fun k e => by cases e; exact hB)
theorem bset {B b : Nat} {a w : World} (h : Below B a w) (hB : B ≤ b) (ha : B ≤ a.heap.size) (j : Nat) (v : Value) : Below B a (w.setCell ⟨b, j, none⟩ v) :=
  h.grown ⟨rfl, rfl, rfl, by simp, fun i _ hne => heap_setCell_other w ⟨b, j, none⟩ i v (fun e => hne (by rw [e]))⟩ (Nat.le_trans ha h.size) (fun k e => by cases e; exact hB)
theorem results_row_tmp2 {fn : Func} {p u x : Tmp} {ty : TypeId} {P : Program} (h : fn.results = #[.cell p ty, .tmp u, .tmp x]) (tmps : Array Value) (w : World) (g : Nat) (v : Value)
    (hp : tmps.getD p undef = .pointer (some ⟨g, 0, none⟩)) (hl : (loadVar ty ⟨g, 0, none⟩).run P w = .ok v w) :
    (results fn tmps).run P w = .ok (.tuple #[v, tmps.getD u undef, tmps.getD x undef]) w := by
  have hp' : tmps[p]?.getD undef = .pointer (some ⟨g, 0, none⟩) := by simpa using hp
  simp [results, h, hp', asAddr, hl, Result.andThen]
theorem bnew (w : World) (o : Obj) (c : Array Value) : Below w.heap.size w ((w.alloc o).setRow w.heap.size c) := brow (balloc w o) (Nat.le_refl _) (Nat.le_refl _) c
/-- the text of what a slice of bytes holds -/
theorem conv_ri {w : World} {v : Value} {n : Nat} {zs : List Int} (h : RI .u8 w v n zs) : (convert 38 9 v).run Tryd.prog w = .ok (.string (strOfNums zs)) w :=
  conv_of Tryd.underlying38 Tryd.underlying5 Tryd.underlying9 h
theorem text_append (a b : List Int) : strOfNums a ++ strOfNums b = strOfNums (a ++ b) := by
  show (⟨_⟩ : ByteArray) ++ ⟨_⟩ = ⟨_⟩
  apply ByteArray.ext
  simp
/-- .. and an error -/
theorem results_row_tmp {fn : Func} {p u : Tmp} {ty : TypeId} {P : Program} (h : fn.results = #[.cell p ty, .tmp u]) (tmps : Array Value) (w : World) (g : Nat) (v : Value)
    (hp : tmps.getD p undef = .pointer (some ⟨g, 0, none⟩)) (hl : (loadVar ty ⟨g, 0, none⟩).run P w = .ok v w) :
    (results fn tmps).run P w = .ok (.tuple #[v, tmps.getD u undef]) w := by
  rw [results_cell_tmp h]
  simp only [hp, asAddr, Sem.run_pure, Result.andThen_ok, hl]
/-- a row that a call made stays, where another one grows -/
theorem own_over {w w' : World} {base : Nat} {e : TypeId} {size : Nat} {v : Value} {n : Nat} {xs : List Value} {row : Option Nat} (h : w.ownsRow base e size v n xs) (hg : w.grownBy w' row) (hne : ∀ g, v.ownBlock = some g → some g ≠ row) : w'.ownsRow base e size v n xs := by
  refine ⟨h.1, ?_⟩
  rcases h.2 with h2 | ⟨g, cap, cur, hv, hb, hcur, h3⟩
  · exact .inl h2
  · refine .inr ⟨g, cap, cur, hv, hb, ?_, h3⟩
    rw [hg.block g (Array.getElem?_eq_some_iff.1 hcur).1 (hne g (by rw [hv]; rfl))]; exact hcur
/-- rows of two types are not one -/
theorem own_types {w : World} {base base' : Nat} {e e' : TypeId} {size size' : Nat} {v v' : Value} {n n' : Nat} {xs xs' : List Value} (h : w.ownsRow base e size v n xs) (h' : w.ownsRow base' e' size' v' n' xs') (hne : e ≠ e') : ∀ g, v.ownBlock = some g → some g ≠ v'.ownBlock := by
  intro g hg he
  rcases h.2 with ⟨rfl, _⟩ | ⟨q, cap, cur, rfl, _, hcur, _⟩
  · simp [Value.ownBlock] at hg
  · simp only [Value.ownBlock, Option.some.injEq] at hg
    subst hg
    rcases h'.2 with ⟨rfl, _⟩ | ⟨q', cap', cur', rfl, _, hcur', _⟩
    · simp [Value.ownBlock] at he
    · simp only [Value.ownBlock, Option.some.injEq] at he
      subst he
      rw [hcur] at hcur'
      simp only [Option.some.injEq, Obj.cells.injEq] at hcur'
      exact hne hcur'.2.1
end Go.Proofs.YthickhfbllddjaaDoor
