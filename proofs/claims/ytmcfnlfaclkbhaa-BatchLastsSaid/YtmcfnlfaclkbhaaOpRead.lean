/-
  WHAT THE METHODS OF op.reading (layer 10) ANSWER: kind, key, val, end. No condition but that the bytes read lie below the reading's own block.
-/
import Derived.Test.YtmcfnlfaclkbhaaOpRight
import Derived.Test.YtmcfnlfaclkbhaaFieldCut
namespace Go.Proofs.Ytmcfnlfaclkbhaa
open Go.RowKit
abbrev rA (v : Value) (m : Int) (k : Int) (s t : ByteArray) : Array Value := #[v, .int .i64 m, .int .i64 k, .string s, .string t]
/-- what was read, and where it goes on -/
def RD (w : World) (b : Nat) (v : Value) (m : Int) (k : Int) (s t : ByteArray) : Prop := w.heap[b]? = some (.cells (rA v m k s t) 49 (0, 0))
theorem RD.keep {w w' : World} {b : Nat} {v : Value} {m k : Int} {s t : ByteArray} (h : RD w b v m k s t) (hb : Below w.heap.size w w') : RD w' b v m k s t := (hb.block b (Array.getElem?_eq_some_iff.1 h).1).trans h
theorem RD.lt {w : World} {b : Nat} {v : Value} {m k : Int} {s t : ByteArray} (h : RD w b v m k s t) : b < w.heap.size := (Array.getElem?_eq_some_iff.1 h).1
theorem RD.cells {w : World} {b : Nat} {v : Value} {m k : Int} {s t : ByteArray} (h : RD w b v m k s t) :
    w.cell? ⟨b, 0, none⟩ = some v ∧ w.cell? ⟨b, 1, none⟩ = some (.int .i64 m) ∧ w.cell? ⟨b, 2, none⟩ = some (.int .i64 k) ∧ w.cell? ⟨b, 3, none⟩ = some (.string s) ∧ w.cell? ⟨b, 4, none⟩ = some (.string t) :=
  ⟨cell_of_row w b 0 _ _ _ h, cell_of_row w b 1 _ _ _ h, cell_of_row w b 2 _ _ _ h, cell_of_row w b 3 _ _ _ h, cell_of_row w b 4 _ _ _ h⟩
theorem RD.frozen {w : World} {b : Nat} {v : Value} {m k : Int} {s t : ByteArray} (h : RD w b v m k s t) (j : Nat) : w.frozen? ⟨b, j, none⟩ = false := Joins.unfrozen_of_block h j
theorem RD.set1 {w : World} {b : Nat} {v : Value} {m k : Int} {s t : ByteArray} (h : RD w b v m k s t) (m' : Int) : RD (w.setCell ⟨b, 1, none⟩ (.int .i64 m')) b v m' k s t := Joins.block_setCell h _
theorem RD.set2 {w : World} {b : Nat} {v : Value} {m k : Int} {s t : ByteArray} (h : RD w b v m k s t) (k' : Int) : RD (w.setCell ⟨b, 2, none⟩ (.int .i64 k')) b v m k' s t := Joins.block_setCell h _
theorem RD.set3 {w : World} {b : Nat} {v : Value} {m k : Int} {s t : ByteArray} (h : RD w b v m k s t) (s' : ByteArray) : RD (w.setCell ⟨b, 3, none⟩ (.string s')) b v m k s' t := Joins.block_setCell h _
theorem RD.set4 {w : World} {b : Nat} {v : Value} {m k : Int} {s t : ByteArray} (h : RD w b v m k s t) (t' : ByteArray) : RD (w.setCell ⟨b, 4, none⟩ (.string t')) b v m k s t' := Joins.block_setCell h _
theorem gbelow {w w' : World} {r : Option Nat} (h : Below w.heap.size w w') : w.grownBy w' r := ⟨h.os, h.tape, h.output, h.size, fun i hi _ => h.block i hi⟩
theorem gtrans {a b c : World} {r : Option Nat} (h : a.grownBy b r) (k : b.grownBy c r) : a.grownBy c r :=
  ⟨k.os.trans h.os, k.tape.trans h.tape, k.output.trans h.output, Nat.le_trans h.size k.size, fun i hi hn => (k.block i (Nat.lt_of_lt_of_le hi h.size) hn).trans (h.block i hi hn)⟩
theorem grown_set (w : World) (b j : Nat) (v : Value) : w.grownBy (w.setCell ⟨b, j, none⟩ v) (some b) :=
  ⟨rfl, rfl, rfl, by simp, fun i _ hne => heap_setCell_other w ⟨b, j, none⟩ i v (fun e => hne (by rw [e]))⟩
set_option maxRecDepth 8000 in
set_option maxHeartbeats 1000000 in
theorem kind_nil (v : Value) (m k : Int) (s t : ByteArray) (W0 w : World) (hri : RI .u8 W0 v 0 []) (hrd : RD w W0.heap.size v m k s t) :
    Calls Try.prog 25 #[.pointer (some ⟨W0.heap.size, 0, none⟩)] w fun e w' => e = .returned (.int .i64 1) ∧ RD w' W0.heap.size v m k s t ∧ w.grownBy w' (some W0.heap.size) := by
  obtain ⟨p, c, rfl⟩ : ∃ a c, v = .slice a 0 c := by obtain ⟨a, c, e, _⟩ := hri; exact ⟨a, c, e⟩
  obtain ⟨z0, _, _, _, _⟩ := hrd.cells
  have HRD := Lib.hid hrd
  clear hri hrd
  go_enter Try.func25, Try.ntmps25
  go_wp2
  go_ret
  exact ⟨rfl, HRD.out, gbelow (Below.refl _ _)⟩
set_option maxRecDepth 8000 in
set_option maxHeartbeats 1000000 in
theorem kind_cons (v : Value) (len : Nat) (h : Int) (r : List Int) (m k : Int) (s t : ByteArray) (W0 w : World) (hri : RI .u8 W0 v len (h :: r)) (hh : 0 ≤ h ∧ h ≤ 255) (hb : Below W0.heap.size W0 w) (hrd : RD w W0.heap.size v m k s t) (y : Int) (hy : y = if h ≠ 1 ∧ h ≠ 2 then 2 else 0) :
    Calls Try.prog 25 #[.pointer (some ⟨W0.heap.size, 0, none⟩)] w fun e w' => e = .returned (.int .i64 y) ∧ RD w' W0.heap.size v 1 h s t ∧ w.grownBy w' (some W0.heap.size) := by
  have hz := hri.length
  have hl0 : 0 < len := by simp at hz; omega
  have hl1 : ¬ (len : Int) = 0 := by omega
  have hlm : (0 : Int) < (len : Int) := by omega
  have hlb : (len : Int) ≤ 9223372036854775807 := by have := hri.le; omega
  obtain ⟨p, c, rfl⟩ : ∃ a c, v = .slice a len c := by obtain ⟨a, c, e, _⟩ := hri; exact ⟨a, c, e⟩
  obtain ⟨b, off, rfl, hcell⟩ := hri.at_ hl0
  have hc0 := cell_keep hb (hcell 0 hl0)
  rw [Nat.add_zero, show (h :: r).getD 0 0 = h from rfl] at hc0
  have hbl : b < W0.heap.size := World.block_lt_of_cell? W0 _ (hcell 0 hl0)
  obtain ⟨z0, z1, z2, z3, z4⟩ := hrd.cells
  have f1 := hrd.frozen 1
  have f2 := hrd.frozen 2
  have h2 := hrd.set2 h
  obtain ⟨y0, y1, y2, y3, y4⟩ := h2.cells
  have g1 := h2.frozen 1
  have h3 := h2.set1 1
  obtain ⟨x0, x1, x2, x3, x4⟩ := h3.cells
  have HR3 := Lib.hid h3
  have HB3 := Lib.hid (gtrans (grown_set w W0.heap.size 2 (.int .i64 h)) (grown_set (w.setCell ⟨W0.heap.size, 2, none⟩ (.int .i64 h)) W0.heap.size 1 (.int .i64 1)))
  clear hri hrd hb hcell hz h2 h3
  by_cases h1 : h = 1
  · obtain rfl : y = 0 := by rw [hy, if_neg (by omega)]
    subst h1
    clear hy
    go_enter Try.func25, Try.ntmps25
    go_wp2
    go_ret
    exact ⟨rfl, HR3.out, HB3.out⟩
  · by_cases h2 : h = 2
    · obtain rfl : y = 0 := by rw [hy, if_neg (by omega)]
      subst h2
      clear hy
      go_enter Try.func25, Try.ntmps25
      go_wp2
      go_ret
      exact ⟨rfl, HR3.out, HB3.out⟩
    · obtain rfl : y = 2 := by rw [hy, if_pos ⟨h1, h2⟩]
      have e1 : (h != 1) = true := by simpa using h1
      have e2 : (h != 2) = true := by simpa using h2
      have e3 : IntKind.i64.wrap h = h := by rw [IntKind.wrap_i64]; omega
      clear hy
      go_enter Try.func25, Try.ntmps25
      go_wp2
      go_ret
      exact ⟨rfl, HR3.out, HB3.out⟩
set_option maxRecDepth 8000 in
set_option maxHeartbeats 1000000 in
theorem end_any (v : Value) (m k : Int) (s t : ByteArray) (W0 w : World) (hrd : RD w W0.heap.size v m k s t) :
    Calls Try.prog 28 #[.pointer (some ⟨W0.heap.size, 0, none⟩)] w fun e w' => e = .returned (.int .i64 (if opRight k s t = true then 0 else 2)) ∧ RD w' W0.heap.size v m k s t ∧ w.grownBy w' (some W0.heap.size) := by
  obtain ⟨y, hy⟩ : ∃ y, opRight k s t = y := ⟨_, rfl⟩
  have HRR : Hid (∀ W, Calls Try.prog 17 #[.agg (oA k s t)] W fun e w' => e = .returned (.bool y) ∧ Below W.heap.size W w') := Lib.hid fun W => by have := oright_any k s t W; rwa [hy] at this
  rw [hy]
  obtain ⟨z0, z1, z2, z3, z4⟩ := hrd.cells
  have HRD := Lib.hid hrd
  clear hrd hy
  cases y with
  | true =>
    go_enter Try.func28, Try.ntmps28
    go_wp2_with (first
      | (go_at_call 17; (with_reducible refine (HRR.out _).mono ?_); rintro e w1 ⟨rfl, hb1⟩; have HR1 := Lib.hid (HRD.out.keep hb1); have HB1 : Hid (w.grownBy w1 (some W0.heap.size)) := Lib.hid (gbelow hb1); clear hb1))
    go_ret
    exact ⟨rfl, HR1.out, HB1.out⟩
  | false =>
    go_enter Try.func28, Try.ntmps28
    go_wp2_with (first
      | (go_at_call 17; (with_reducible refine (HRR.out _).mono ?_); rintro e w1 ⟨rfl, hb1⟩; have HR1 := Lib.hid (HRD.out.keep hb1); have HB1 : Hid (w.grownBy w1 (some W0.heap.size)) := Lib.hid (gbelow hb1); clear hb1))
    go_ret
    exact ⟨rfl, HR1.out, HB1.out⟩
end Go.Proofs.Ytmcfnlfaclkbhaa
