/-
  WHAT THE FUNCTIONS OF crc ANSWER THAT KNOW MATRICES: math/bits' TrailingZeros32, times, squared, one, Shift, Join. For every input that its types allow; both tables must lie in their blocks as start-up lays them.
-/
import Derived.Test.YtneggofhahjkmaaDoorCrcCode
import Derived.Test.YtneggofhahjkmaaDoorCrcLin
import Derived.Deep.MidRow
import Derived.Deep.WholeRow
import Derived.Great.Ranges
import Derived.Lib.SmallJoins
import Derived.ChangeKeysEq
namespace Go.Proofs.YtneggofhahjkmaaDoor
open Go.RowKit
/-- the table that tells which number a bit is lies in block 1 -/
def Bits (w : World) : Prop := ∀ j : Nat, j < 32 → w.cell? ⟨1, j, none⟩ = some (.int .u8 (tz.getD j 0))
theorem Bits.keep {w w' : World} (h : Bits w) (hb : Below w.heap.size w w') : Bits w' := fun j hj => cell_keep hb (h j hj)
set_option maxRecDepth 8000 in
theorem tz_any (c t q : Nat) (h : c < 4294967296) (hc : c = 2 ^ t * (2 * q + 1)) {w : World} (hB : Bits w) :
    Calls Tryd.prog 24 #[.int .u32 c] w fun e w' => e = .returned (.int .i64 t) ∧ w = w' := by
  have h0 : (c : Int) ≠ 0 := by rw [hc]; have := Nat.mul_pos (Nat.pow_pos (n := t) (show 0 < 2 by omega)) (show 0 < 2 * q + 1 by omega); omega
  have ht := low_lt t q (by rw [← hc]; exact h)
  have hand := u32_and_nat c (4294967296 - c) h (by omega)
  rw [show c &&& (4294967296 - c) = 2 ^ t from by rw [hc]; exact low_neg t q (by rw [← hc]; exact h)] at hand
  have hcell := hB (2 ^ t * 125613361 % 4294967296 / 134217728) (tz_lt _)
  rw [tz_get t ht] at hcell
  obtain ⟨p, hp⟩ : ∃ p, 2 ^ t = p := ⟨_, rfl⟩
  have hp1 : p < 4294967296 := by rw [← hp]; exact Nat.pow_lt_pow_right (by omega) ht
  rw [hp] at hand hcell
  obtain ⟨i, hi⟩ : ∃ i, p * 125613361 % 4294967296 / 134217728 = i := ⟨_, rfl⟩
  rw [hi] at hcell
  have hi1 : ((p : Int) * 125613361 % 4294967296 / 134217728) = (i : Int) := by rw [← hi]; simp
  have hi2 : (i : Int) < 32 := by omega
  have hneg : ((4294967296 - c : Nat) : Int) = (-(c : Int)) % 4294967296 := by omega
  rw [hneg] at hand
  have hcu : (c : Int) ≤ 4294967295 := by omega
  have hpu : (p : Int) ≤ 4294967295 := by omega
  have htu : (t : Int) < 32 := by omega
  clear hp hc h hB hp1 hi hneg ht
  go_enter Tryd.func24, Tryd.ntmps24
  go_wp2
  go_ret
  exact ⟨rfl, rfl⟩
/-- a matrix of n steps, as a value -/
def mat (n : Nat) : Array Value := (il .u32 (rows n)).toArray
theorem mat_get (n t : Nat) (h : t < 32) : (mat n)[t]? = some (.int .u32 ((row n t : Nat) : Int)) := by
  have := il_get .u32 (rows n) t (by rw [rows_length]; exact h)
  rw [rows_get n t h] at this
  simpa [mat] using this
set_option maxRecDepth 8000 in
set_option maxHeartbeats 800000 in
theorem times_any (n x : Nat) (h : x < 4294967296) {w : World} (hB : Bits w) {m : Nat} (hm : stn n x = m) :
    Calls Tryd.prog 21 #[.agg (mat n), .int .u32 x] w fun e w' => e = .returned (.int .u32 m) ∧ Below w.heap.size w w' := by
  have hcells : ∀ t, t < 32 → (w.alloc (.cells (mat n) 37)).cell? ⟨w.heap.size, t, none⟩ = some (.int .u32 ((row n t : Nat) : Int)) := fun t ht => by
    rw [Joins.cell_of_block (heap_alloc_last w _)]; exact mat_get n t ht
  have HC := Lib.hid hcells
  have HB := Lib.hid (hB.keep ((Below.refl _ _).alloc (Nat.le_refl _) (.cells (mat n) 37)))
  have HM := Lib.hid hm
  have HX := Lib.hid h
  have hx : (x : Int) ≤ 4294967295 := by omega
  clear hcells hB hm h
  go_enter Tryd.func21, Tryd.ntmps21
  go_wp2
  go_loop [1, 5] (fun a b => ∃ (c r : Nat), a = .int .u32 c ∧ b = .int .u32 r ∧ Hid (c < 4294967296) ∧ Hid (r < 4294967296) ∧ Hid (r ^^^ stn n c = stn n x)) (fun a _ => (intOf a).toNat)
  case atStart => exact ⟨x, 0, rfl, rfl, HX, Lib.hid (by omega), Lib.hid (Nat.zero_xor _)⟩
  case round =>
    obtain ⟨c, r, rfl, rfl, HCL, HR, HE⟩ := hrel
    by_cases h0 : (c : Int) = 0
    · have hc0 : c = 0 := by omega
      subst hc0
      have hr : r = m := by have := HE.out; rw [stn_zero, Nat.xor_zero, HM.out] at this; exact this
      subst hr
      go_wp2
      go_ret
      exact ⟨rfl, (Below.refl _ _).alloc (Nat.le_refl _) _⟩
    · obtain ⟨t, q, hc⟩ := low_bit c (by omega)
      have HCQ := Lib.hid hc
      have htl := low_lt t q (by rw [← hc]; exact HCL.out)
      have htu : (t : Int) < 32 := by omega
      have hcell := HC.out t htl
      obtain ⟨z, hz⟩ : ∃ z, row n t = z := ⟨_, rfl⟩
      have hzl : z < 4294967296 := by rw [← hz]; exact row_lt n t htl
      rw [hz] at hcell
      have hxor := u32_xor_nat r z HR.out hzl
      have hand := u32_and_nat c (c - 1) HCL.out (by have := HCL.out; omega)
      have hpred : ((c - 1 : Nat) : Int) = (c : Int) - 1 := by omega
      rw [hpred] at hand
      obtain ⟨r2, hr2⟩ : ∃ r2, r ^^^ z = r2 := ⟨_, rfl⟩
      obtain ⟨c2, hc2⟩ : ∃ c2, c &&& (c - 1) = c2 := ⟨_, rfl⟩
      rw [hr2] at hxor
      rw [hc2] at hand
      have H1 := Lib.hid (show c2 < c from by rw [← hc2]; exact and_pred_lt c (by omega))
      have H2 := Lib.hid (show r2 < 4294967296 from by rw [← hr2]; exact xor_lt r z HR.out hzl)
      have H3 := Lib.hid (show r2 ^^^ stn n c2 = stn n x from by rw [← hr2, ← hc2, ← hz]; exact times_round n r c t q x hc HE.out)
      have hcu : (c : Int) ≤ 4294967295 := by have := HCL.out; omega
      have hcp : 0 < (c : Int) := by omega
      clear hc hr2 hc2 hz hzl htl hpred
      go_wp2_with (first | (go_at_call 24; (with_reducible refine (tz_any c t q HCL.out HCQ.out HB.out).mono ?_); rintro e w' ⟨rfl, rfl⟩))
      go_round
      case rel => exact ⟨c2, r2, rfl, rfl, Nat.lt_trans H1.out HCL.out, H2, H3⟩
      case measure => have := H1.out; simp [intOf]; omega
theorem mat_size (n : Nat) : (mat n).size = 32 := by simp [mat, il_length, rows_length]
theorem mat_one (n : Nat) : (mat n).all (·.oneCell') = true := all_oneCell_toArray (il_one _ _)
theorem mat_info (c : Array Value) (h : c.size = 32) : (Tryd.prog.info? 37).map (·.size) = some c.size := by rw [h]; kernel_rfl
theorem index_mat (n k : Nat) (h : k < 32) (w : World) : (Instr.index 37 (.agg (mat n)) (.int .i64 k)).run Tryd.prog w = .ok (.int .u32 ((row n k : Nat) : Int)) w := by
  have hp := run_part_plain (P := Tryd.prog) (w := w) (e := 22) (by kernel_rfl) (mat_get n k h)
  have hk : (0 : Int) ≤ k ∧ (k : Int) < (32 : Nat) := by omega
  have hs : (sizeOf 22).run Tryd.prog w = .ok 1 w := by
    have : (Tryd.prog.info? 22).map (·.size) = some 1 := by kernel_rfl
    cases hq : Tryd.prog.info? 22 with
    | none => simp [hq] at this
    | some i => simp [hq] at this; simp [sizeOf, typeInfo, hq, this]
  simp [Instr.index, run_underlying Tryd.underlying37, asIntOf, hk, Sem.run_bind, hs, hp]
  omega
/-- a block of 32 cells of the type, made by this call -/
def Blk (w : World) (b : Nat) (c : Array Value) : Prop := w.heap[b]? = some (.cells c 37 (0, 0)) ∧ c.size = 32
theorem Blk.keep {w w' : World} {b : Nat} {c : Array Value} (h : Blk w b c) (hb : Below w.heap.size w w') : Blk w' b c :=
  ⟨by rw [hb.block b (Array.getElem?_eq_some_iff.1 h.1).1]; exact h.1, h.2⟩
theorem Blk.cell {w : World} {b : Nat} {c : Array Value} (h : Blk w b c) (j : Nat) : w.cell? ⟨b, j, none⟩ = c[j]? := Joins.cell_of_block h.1 j
theorem Blk.frozen {w : World} {b : Nat} {c : Array Value} (h : Blk w b c) (j : Nat) : w.frozen? ⟨b, j, none⟩ = false := Joins.unfrozen_of_block h.1 j
theorem Blk.stored {w : World} {b : Nat} {c : Array Value} (h : Blk w b c) (j : Nat) (v : Value) : Blk (w.setCell ⟨b, j, none⟩ v) b (c.setIfInBounds j v) := ⟨Joins.block_setCell h.1 v, by simpa using h.2⟩
theorem Blk.apart {w : World} {b b' : Nat} {c : Array Value} (h : Blk w b c) (hne : b ≠ b') (j : Nat) (v : Value) : Blk (w.setCell ⟨b', j, none⟩ v) b c := ⟨by rw [Below.heap_setCell w ⟨b', j, none⟩ v b hne]; exact h.1, h.2⟩
theorem Blk.row {w : World} {b : Nat} {c c' : Array Value} (h : Blk w b c) (hc : c'.size = 32) : Blk (w.setRow b c') b c' := ⟨setRow_heap w b c c' _ _ h.1, hc⟩
theorem Blk.row_apart {w : World} {b b' : Nat} {c : Array Value} (h : Blk w b c) (hne : b ≠ b') (c' : Array Value) : Blk (w.setRow b' c') b c := ⟨by rw [setRow_other w b' b c' hne]; exact h.1, h.2⟩
theorem below_row {B b : Nat} {a w : World} (h : Below B a w) (hB : B ≤ b) (c : Array Value) : Below B a (w.setRow b c) :=
  h.trans ⟨rfl, rfl, rfl, by simp, fun k hk => setRow_other w b k c (by omega)⟩
/-- some rows of a matrix, as a value -/
def smat (n k : Nat) : Array Value := (il .u32 (some_rows n k)).toArray
theorem smat_size (n k : Nat) (h : k ≤ 32) : (smat n k).size = 32 := by simp [smat, il_length, some_rows_length n k h]
theorem smat_set (n k : Nat) (h : k < 32) : (smat n k).setIfInBounds k (.int .u32 ((row n k : Nat) : Int)) = smat n (k + 1) := by
  unfold smat
  rw [← some_rows_set n k h, ← il_set]
  simp
theorem smat_all (n : Nat) : smat n 32 = mat n := by unfold smat mat; rw [some_rows_all]
theorem smat_zero (n : Nat) : smat n 0 = #[.int .u32 0, .int .u32 0, .int .u32 0, .int .u32 0, .int .u32 0, .int .u32 0, .int .u32 0, .int .u32 0, .int .u32 0, .int .u32 0, .int .u32 0, .int .u32 0, .int .u32 0, .int .u32 0, .int .u32 0, .int .u32 0, .int .u32 0, .int .u32 0, .int .u32 0, .int .u32 0, .int .u32 0, .int .u32 0, .int .u32 0, .int .u32 0, .int .u32 0, .int .u32 0, .int .u32 0, .int .u32 0, .int .u32 0, .int .u32 0, .int .u32 0, .int .u32 0] := by
  unfold smat; rw [some_rows_zero]; rfl
theorem smat_get (n k j : Nat) (h : j < 32) (hk : k ≤ 32) : (smat n k)[j]? = some (.int .u32 ((some_rows n k).getD j 0)) := by
  have := il_get .u32 (some_rows n k) j (by rw [some_rows_length n k hk]; exact h)
  simpa [smat] using this
theorem alloc_size (w : World) (o : Obj) : (w.alloc o).heap.size = w.heap.size + 1 := by show (w.heap.push o).size = _; simp
/-- where squaring stands: the matrix, room for the result, the rows that are there, both tables -/
structure SQ (W : World) (n k : Nat) (w : World) : Prop where
  below : Below W.heap.size W w
  size : W.heap.size + 1 + 1 < w.heap.size
  old : Blk w W.heap.size (mat n)
  room : Blk w (W.heap.size + 1) (smat (2 * n) 0)
  new : Blk w (W.heap.size + 1 + 1) (smat (2 * n) k)
  bits : Bits w
theorem SQ.keep {W w w' : World} {n k : Nat} (h : SQ W n k w) (hb : Below w.heap.size w w') : SQ W n k w' :=
  ⟨h.below.trans (hb.mono h.below.size), Nat.lt_of_lt_of_le h.size hb.size, h.old.keep hb, h.room.keep hb, h.new.keep hb, h.bits.keep hb⟩
theorem SQ.start (W : World) (n : Nat) (hB : Bits W) : SQ W n 0 (((W.alloc (.cells (mat n) 37)).alloc (.cells (smat (2 * n) 0) 37)).alloc (.cells (smat (2 * n) 0) 37)) := by
  have h0 : Below W.heap.size W (W.alloc (.cells (mat n) 37)) := (Below.refl _ _).alloc (Nat.le_refl _) _
  have s0 : (W.alloc (.cells (mat n) 37)).heap.size = W.heap.size + 1 := alloc_size _ _
  have b0 : Blk (W.alloc (.cells (mat n) 37)) W.heap.size (mat n) := ⟨heap_alloc_last W _, mat_size n⟩
  generalize W.alloc (.cells (mat n) 37) = w0 at *
  have h1 : Below w0.heap.size w0 (w0.alloc (.cells (smat (2 * n) 0) 37)) := (Below.refl _ _).alloc (Nat.le_refl _) _
  have s1 : (w0.alloc (.cells (smat (2 * n) 0) 37)).heap.size = w0.heap.size + 1 := alloc_size _ _
  have b1 : Blk (w0.alloc (.cells (smat (2 * n) 0) 37)) w0.heap.size (smat (2 * n) 0) := ⟨heap_alloc_last w0 _, smat_size _ _ (by omega)⟩
  generalize w0.alloc (.cells (smat (2 * n) 0) 37) = w1 at *
  have h2 : Below w1.heap.size w1 (w1.alloc (.cells (smat (2 * n) 0) 37)) := (Below.refl _ _).alloc (Nat.le_refl _) _
  have s2 : (w1.alloc (.cells (smat (2 * n) 0) 37)).heap.size = w1.heap.size + 1 := alloc_size _ _
  have b2 : Blk (w1.alloc (.cells (smat (2 * n) 0) 37)) w1.heap.size (smat (2 * n) 0) := ⟨heap_alloc_last w1 _, smat_size _ _ (by omega)⟩
  generalize w1.alloc (.cells (smat (2 * n) 0) 37) = w2 at *
  have hb : Below W.heap.size W w2 := (h0.trans (h1.mono h0.size)).trans (h2.mono (by omega))
  refine ⟨hb, by omega, (b0.keep h1).keep h2, ?_, ?_, hB.keep hb⟩
  · rw [s0] at b1; exact b1.keep h2
  · rw [s1, s0] at b2; exact b2
theorem SQ.stored {W w : World} {n k : Nat} (h : SQ W n k w) (hk : k < 32) (v : Value) (hv : v = .int .u32 ((row (2 * n) k : Nat) : Int)) : SQ W n (k + 1) (w.setCell ⟨W.heap.size + 1 + 1, k, none⟩ v) := by
  subst hv
  have hb : Below W.heap.size W (w.setCell ⟨W.heap.size + 1 + 1, k, none⟩ (.int .u32 ((row (2 * n) k : Nat) : Int))) := h.below.setCell (by show W.heap.size ≤ W.heap.size + 1 + 1; omega) _
  have hn := h.new.stored k (.int .u32 ((row (2 * n) k : Nat) : Int))
  rw [smat_set (2 * n) k hk] at hn
  exact ⟨hb, by simpa using h.size, h.old.apart (by omega) _ _, h.room.apart (by omega) _ _, hn, fun j hj => by rw [World.cell?_setCell_other _ _ _ _ (by intro e; have := congrArg Addr.block e; simp at this)]; exact h.bits j hj⟩
set_option maxRecDepth 8000 in
set_option maxHeartbeats 1000000 in
theorem squared_any (n : Nat) {w : World} (hB : Bits w) :
    Calls Tryd.prog 22 #[.agg (mat n)] w fun e w' => e = .returned (.agg (mat (2 * n))) ∧ Below w.heap.size w w' := by
  have HS0 := Lib.hid (SQ.start w n hB)
  have HZ := Lib.hid (smat_zero (2 * n))
  clear hB
  go_enter Tryd.func22, Tryd.ntmps22
  go_wp2_with (first
    | (rw [← HZ.out]; refine wpList_load_row rfl 37 _ rfl w.heap.size rfl _ (mat n) (0, 0) _ HS0.out.old.1 Tryd.underlying37 rfl (mat_info _ (mat_size n)) ?_))
  have HS1 := HS0
  rw [HZ.out] at HS1
  go_loopw [7] (fun i wr => ∃ k : Nat, i = .int .i64 k ∧ k ≤ 32 ∧ Hid (SQ w n k wr)) (fun i _ => 32 - (intOf i).toNat)
  case atStart => exact ⟨0, rfl, by omega, HS0⟩
  case round =>
    obtain ⟨k, rfl, hk, HS⟩ := hrel
    by_cases hlt : (k : Int) < 32
    · have hk2 : k < 32 := by omega
      have hg := index_mat n k hk2 wr
      obtain ⟨z, hz⟩ : ∃ z, row n k = z := ⟨_, rfl⟩
      have HZL := Lib.hid (show z < 4294967296 from by rw [← hz]; exact row_lt n k hk2)
      have HT := Lib.hid (show stn n z = row (2 * n) k from by rw [← hz]; exact row_twice n k)
      rw [hz] at hg
      have HK := Lib.hid hk2
      clear hz hk2
      go_wp2_with (first
        | (refine wpList_load_row rfl 37 _ rfl w.heap.size rfl _ (mat n) (0, 0) _ HS.out.old.1 Tryd.underlying37 rfl (mat_info _ (mat_size n)) ?_)
        | (go_at_call 21; (with_reducible refine (times_any n z HZL.out HS.out.bits HT.out).mono ?_); rintro e w' ⟨rfl, hb⟩; have HS2 := Lib.hid (HS.out.keep hb); have hcell := HS2.out.new.cell k; rw [smat_get _ _ _ HK.out (by omega)] at hcell; have hfr := HS2.out.new.frozen k; clear hb))
      go_roundw
      case rel => exact ⟨k + 1, by go_num, by omega, Lib.hid (HS2.out.stored HK.out _ rfl)⟩
      case measure => simp [intOf]; omega
    · have hk2 : k = 32 := by omega
      subst hk2
      go_wp2_with (first
        | (refine wpList_load_row rfl 37 _ rfl (w.heap.size + 1 + 1) rfl _ (smat (2 * n) 32) (0, 0) _ HS.out.new.1 Tryd.underlying37 rfl (mat_info _ (smat_size _ _ (by omega))) ?_)
        | (refine wpList_store_row rfl 37 _ _ rfl (w.heap.size + 1) (smat (2 * n) 32) rfl rfl _ (smat (2 * n) 0) HS.out.room.1 (mat_info _ (smat_size _ _ (by omega))) (by rw [smat_size _ _ (by omega), smat_size _ _ (by omega)]) (all_oneCell_toArray (il_one _ _)) ?_))
      refine bodyPost_ret_by (v := .agg (smat (2 * n) 32)) (results_cell_row rfl _ _ (w.heap.size + 1) _ (smat (2 * n) 32) (0, 0) _ rfl (HS.out.room.row (smat_size _ _ (by omega))).1 Tryd.underlying37 rfl (mat_info _ (smat_size _ _ (by omega)))) rfl ⟨by rw [smat_all], below_row HS.out.below (by omega) _⟩
/-- where the first matrix stands: room for the result, the rows that are there, both tables -/
structure OQ (W : World) (k : Nat) (w : World) : Prop where
  below : Below W.heap.size W w
  size : W.heap.size + 1 < w.heap.size
  room : Blk w W.heap.size (smat 8 0)
  new : Blk w (W.heap.size + 1) (smat 8 k)
  tab : Tab w
theorem OQ.start (W : World) (hT : Tab W) : OQ W 0 ((W.alloc (.cells (smat 8 0) 37)).alloc (.cells (smat 8 0) 37)) := by
  have h0 : Below W.heap.size W (W.alloc (.cells (smat 8 0) 37)) := (Below.refl _ _).alloc (Nat.le_refl _) _
  have s0 : (W.alloc (.cells (smat 8 0) 37)).heap.size = W.heap.size + 1 := alloc_size _ _
  have b0 : Blk (W.alloc (.cells (smat 8 0) 37)) W.heap.size (smat 8 0) := ⟨heap_alloc_last W _, smat_size _ _ (by omega)⟩
  generalize W.alloc (.cells (smat 8 0) 37) = w0 at *
  have h1 : Below w0.heap.size w0 (w0.alloc (.cells (smat 8 0) 37)) := (Below.refl _ _).alloc (Nat.le_refl _) _
  have s1 : (w0.alloc (.cells (smat 8 0) 37)).heap.size = w0.heap.size + 1 := alloc_size _ _
  have b1 : Blk (w0.alloc (.cells (smat 8 0) 37)) w0.heap.size (smat 8 0) := ⟨heap_alloc_last w0 _, smat_size _ _ (by omega)⟩
  generalize w0.alloc (.cells (smat 8 0) 37) = w1 at *
  have hb : Below W.heap.size W w1 := h0.trans (h1.mono h0.size)
  refine ⟨hb, by omega, b0.keep h1, ?_, hT.keep hb⟩
  rw [s0] at b1; exact b1
theorem OQ.stored {W w : World} {k : Nat} (h : OQ W k w) (hk : k < 32) (v : Value) (hv : v = .int .u32 ((row 8 k : Nat) : Int)) : OQ W (k + 1) (w.setCell ⟨W.heap.size + 1, k, none⟩ v) := by
  subst hv
  have hb : Below W.heap.size W (w.setCell ⟨W.heap.size + 1, k, none⟩ (.int .u32 ((row 8 k : Nat) : Int))) := h.below.setCell (by show W.heap.size ≤ W.heap.size + 1; omega) _
  have hn := h.new.stored k (.int .u32 ((row 8 k : Nat) : Int))
  rw [smat_set 8 k hk] at hn
  exact ⟨hb, by simpa using h.size, h.room.apart (by omega) _ _, hn, fun j hj => by rw [World.cell?_setCell_other _ _ _ _ (by intro e; have := congrArg Addr.block e; simp at this)]; exact h.tab j hj⟩
set_option maxRecDepth 8000 in
set_option maxHeartbeats 1000000 in
theorem one_any {w : World} (hT : Tab w) :
    Calls Tryd.prog 20 #[] w fun e w' => e = .returned (.agg (mat 8)) ∧ Below w.heap.size w w' := by
  have HS0 := Lib.hid (OQ.start w hT)
  have HZ := Lib.hid (smat_zero 8)
  clear hT
  go_enter Tryd.func20, Tryd.ntmps20
  go_wp2
  rw [← HZ.out]
  go_loopw [3] (fun i wr => ∃ k : Nat, i = .int .i64 k ∧ k ≤ 32 ∧ Hid (OQ w k wr)) (fun i _ => 32 - (intOf i).toNat)
  case atStart => exact ⟨0, rfl, by omega, HS0⟩
  case round =>
    obtain ⟨k, rfl, hk, HS⟩ := hrel
    by_cases hlt : (k : Int) < 32
    · have hk2 : k < 32 := by omega
      obtain ⟨p, hp⟩ : ∃ p, 2 ^ k = p := ⟨_, rfl⟩
      have hpl : p < 4294967296 := by rw [← hp]; exact Nat.pow_lt_pow_right (by omega) hk2
      have hsh : (2 : Int) ^ k % 4294967296 = (p : Int) := by
        rw [show ((2 : Int) ^ k) = ((p : Nat) : Int) from by rw [← hp]; simp, Int.emod_eq_of_lt (by omega) (by omega)]
      have HPL := Lib.hid hpl
      have HT := Lib.hid (show stn 8 p = row 8 k from by rw [← hp]; rfl)
      have HK := Lib.hid hk2
      have hcell := HS.out.new.cell k
      rw [smat_get _ _ _ hk2 (by omega)] at hcell
      have hfr := HS.out.new.frozen k
      clear hp hk2 hpl
      go_wp2_with (first
        | (go_at_call 17; (with_reducible refine (eight_any p HPL.out HS.out.tab HT.out).mono ?_); rintro e w' ⟨rfl, rfl⟩))
      go_roundw
      case rel => exact ⟨k + 1, by go_num, by omega, Lib.hid (HS.out.stored HK.out _ rfl)⟩
      case measure => simp [intOf]; omega
    · have hk2 : k = 32 := by omega
      subst hk2
      go_wp2_with (first
        | (refine wpList_load_row rfl 37 _ rfl (w.heap.size + 1) rfl _ (smat 8 32) (0, 0) _ HS.out.new.1 Tryd.underlying37 rfl (mat_info _ (smat_size _ _ (by omega))) ?_)
        | (refine wpList_store_row rfl 37 _ _ rfl w.heap.size (smat 8 32) rfl rfl _ (smat 8 0) HS.out.room.1 (mat_info _ (smat_size _ _ (by omega))) (by rw [smat_size _ _ (by omega), smat_size _ _ (by omega)]) (all_oneCell_toArray (il_one _ _)) ?_))
      refine bodyPost_ret_by (v := .agg (smat 8 32)) (results_cell_row rfl _ _ w.heap.size _ (smat 8 32) (0, 0) _ rfl (HS.out.room.row (smat_size _ _ (by omega))).1 Tryd.underlying37 rfl (mat_info _ (smat_size _ _ (by omega)))) rfl ⟨by rw [smat_all], below_row HS.out.below (by omega) _⟩
end Go.Proofs.YtneggofhahjkmaaDoor
