/-
  A JOINER IN A BLOCK (layer 15): its cells, its row of bytes, what stays when it takes a fragment. Nothing here speaks of the program's functions. No condition.
-/
import Derived.Test.YtbnedcghbdphlaaFragBlk
import Derived.Test.YtbnedcghbdphlaaList
namespace Go.Proofs.Ytbnedcghbdphlaa
open Go.RowKit
abbrev jA (o : Bool) (v : Value) : Array Value := #[.bool o, v]
theorem jo_info (o : Bool) (v : Value) : (Try.prog.info? 50).map (·.size) = some (jA o v).size := by
  rw [show (jA o v).size = 2 from rfl]; kernel_rfl
theorem jo_one (o : Bool) (a : Option Addr) (n m : Nat) : (jA o (.slice a n m)).all (·.oneCell') = true := by simp [jA, Value.oneCell']
/-- the block b holds a joiner -/
def JO (w : World) (b : Nat) (o : Bool) (v : Value) : Prop := w.heap[b]? = some (.cells (jA o v) 50 (0, 0))
section
variable {w w' : World} {b b' : Nat} {o : Bool} {v : Value}
theorem JO.lt (h : JO w b o v) : b < w.heap.size := (Array.getElem?_eq_some_iff.1 h).1
theorem JO.keep (h : JO w b o v) (hb : Below w.heap.size w w') : JO w' b o v := (hb.block b h.lt).trans h
theorem JO.row (h : JO w b o v) (o' : Bool) (v' : Value) : JO (w.setRow b (jA o' v')) b o' v' := setRow_heap w b _ _ _ _ h
theorem JO.cells (h : JO w b o v) : w.cell? ⟨b, 0, none⟩ = some (.bool o) ∧ w.cell? ⟨b, 1, none⟩ = some v := ⟨cell_of_row w b 0 _ _ _ h, cell_of_row w b 1 _ _ _ h⟩
/-- a block of another kind is another block -/
theorem JO.ne (h : JO w b o v) {g : Nat} {c : Array Value} {t : TypeId} {q : Nat × Nat} (hg : w.heap[g]? = some (.cells c t q)) (ht : t ≠ 50) : g ≠ b := by
  intro e; subst e
  rw [h] at hg
  simp only [Option.some.injEq, Obj.cells.injEq] at hg
  exact ht hg.2.1.symm
theorem JO.ne_own (h : JO w b o v) {base n k : Nat} {t : TypeId} {u : Value} {xs : List Value} (ho : w.ownsRow base t k u n xs) (ht : t ≠ 50) : ∀ q, u.ownBlock = some q → q ≠ b := by
  intro q hq
  rcases ho.2 with ⟨rfl, _⟩ | ⟨q', cap, cur, rfl, _, hcur, _⟩
  · simp [Value.ownBlock] at hq
  · simp only [Value.ownBlock, Option.some.injEq] at hq
    subst hq
    exact h.ne hcur ht
theorem JO.row_own (h : JO w b o v) (x : Array Value) {base n k : Nat} {t : TypeId} {u : Value} {xs : List Value} (ho : w.ownsRow base t k u n xs) (ht : t ≠ 50) : (w.setRow b x).ownsRow base t k u n xs :=
  own_over ho ⟨rfl, rfl, rfl, by simp, fun i _ hne => setRow_other w b i x (fun e => hne (by rw [e]))⟩ (fun g hg e => h.ne_own ho ht g hg (Option.some.inj e))
theorem JO.grown (h : JO w b o v) {base n k : Nat} {t : TypeId} {u : Value} {xs : List Value} (ho : w.ownsRow base t k u n xs) (ht : t ≠ 50) (hg : w.grownBy w' u.ownBlock) : JO w' b o v :=
  (hg.block b h.lt (fun e => h.ne_own ho ht b e.symm rfl)).trans h
end
/-- a joiner, and the bytes that it has -/
structure JB (w : World) (base jb : Nat) (o : Bool) (v : Value) (h : List Int) : Prop where
  blk : JO w jb o v
  row : w.ownsRow base 5 1 v h.length (il .u8 h)
  idle : o = false → v = .slice none 0 0 ∧ h = []
  few : h.length ≤ 512
  low : base ≤ jb
theorem JB.keep {w w' : World} {base jb : Nat} {o : Bool} {v : Value} {h : List Int} (j : JB w base jb o v h) (hb : Below w.heap.size w w') : JB w' base jb o v h :=
  ⟨j.blk.keep hb, own_keep j.row hb, j.idle, j.few, j.low⟩
/-- w' is w but for the joiner's block, the block of its bytes, and new ones -/
structure Oth (w w' : World) (jb : Nat) (v : Value) : Prop where
  os : w'.os = w.os
  tape : w'.tape = w.tape
  output : w'.output = w.output
  size : w.heap.size ≤ w'.heap.size
  block : ∀ g, g < w.heap.size → g ≠ jb → some g ≠ v.ownBlock → w'.heap[g]? = w.heap[g]?
theorem Oth.refl (w : World) (jb : Nat) (v : Value) : Oth w w jb v := ⟨rfl, rfl, rfl, Nat.le_refl _, fun _ _ _ _ => rfl⟩
theorem Oth.of_below {w w' : World} {jb : Nat} {v : Value} (h : Below w.heap.size w w') : Oth w w' jb v := ⟨h.os, h.tape, h.output, h.size, fun g hg _ _ => h.block g hg⟩
theorem Oth.trans {a b c : World} {jb : Nat} {v : Value} (h : Oth a b jb v) (k : Oth b c jb v) : Oth a c jb v :=
  ⟨k.os.trans h.os, k.tape.trans h.tape, k.output.trans h.output, Nat.le_trans h.size k.size, fun g hg h1 h2 => (k.block g (Nat.lt_of_lt_of_le hg h.size) h1 h2).trans (h.block g hg h1 h2)⟩
theorem Oth.row (w : World) (jb : Nat) (v : Value) (x : Array Value) : Oth w (w.setRow jb x) jb v := ⟨rfl, rfl, rfl, by simp, fun i _ hne _ => setRow_other w jb i x hne⟩
theorem Oth.grown {w w' : World} {jb : Nat} {v : Value} (h : w.grownBy w' v.ownBlock) : Oth w w' jb v := ⟨h.os, h.tape, h.output, h.size, fun g hg _ hn => h.block g hg hn⟩
theorem JB.below {w w' : World} {base jb : Nat} {o : Bool} {v : Value} {h : List Int} (j : JB w base jb o v h) (k : Oth w w' jb v) : Below base w w' :=
  ⟨k.os, k.tape, k.output, k.size, fun g hg => k.block g (Nat.lt_trans (Nat.lt_of_lt_of_le hg j.low) j.blk.lt) (fun e => by have := j.low; omega) (fun e => by have := (j.row.lt g e.symm).1; omega)⟩
/-- a row that was there stays, where it isn't the joiner's -/
theorem JB.oth {w w' : World} {base jb : Nat} {o : Bool} {v : Value} {h : List Int} (j : JB w base jb o v h) (k : Oth w w' jb v) {base' s n : Nat} {t : TypeId} {u : Value} {xs : List Value} (ho : w.ownsRow base' t s u n xs) (ht : t ≠ 50)
    (hne : ∀ g, u.ownBlock = some g → some g ≠ v.ownBlock) : w'.ownsRow base' t s u n xs := by
  refine ⟨ho.1, ?_⟩
  rcases id ho.2 with h2 | ⟨g, cap, cur, hv, hb, hcur, h3⟩
  · exact .inl h2
  · refine .inr ⟨g, cap, cur, hv, hb, ?_, h3⟩
    rw [k.block g (Array.getElem?_eq_some_iff.1 hcur).1 (j.blk.ne_own ho ht g (by rw [hv]; rfl)) (hne g (by rw [hv]; rfl))]; exact hcur
/-- a block of another kind than the joiner and its bytes stays -/
theorem JB.oth_blk {w w' : World} {base jb : Nat} {o : Bool} {v : Value} {h : List Int} (j : JB w base jb o v h) (k : Oth w w' jb v) {g : Nat} {c : Array Value} {t : TypeId} {q : Nat × Nat} (hg : w.heap[g]? = some (.cells c t q))
    (h1 : t ≠ 50) (h2 : t ≠ 5) : w'.heap[g]? = some (.cells c t q) := by
  refine (k.block g (Array.getElem?_eq_some_iff.1 hg).1 (j.blk.ne hg h1) (fun e => ?_)).trans hg
  rcases j.row.2 with ⟨rfl, _⟩ | ⟨q', cap, cur, rfl, _, hcur, _⟩
  · simp [Value.ownBlock] at e
  · simp only [Value.ownBlock, Option.some.injEq] at e
    subst e
    rw [hg] at hcur
    simp only [Option.some.injEq, Obj.cells.injEq] at hcur
    exact h2 hcur.2.1
/-- where what a call tells lies: where the joiner's bytes lay, or in a new block -/
def Lies (w : World) (v u : Value) : Prop := ∀ g, u.ownBlock = some g → some g = v.ownBlock ∨ w.heap.size ≤ g
theorem Lies.nil (w : World) (v : Value) (n c : Nat) : Lies w v (.slice none n c) := fun g hg => by simp [Value.ownBlock] at hg
end Go.Proofs.Ytbnedcghbdphlaa
