/-
  WHAT Shift AND Join OF crc ANSWER, for every input that their types allow; both tables must lie in their blocks as start-up lays them.
-/
import Derived.Test.YtneggofhahjkmaaDoorCrcMat
namespace Go.Proofs.YtneggofhahjkmaaDoor
open Go.RowKit
def shiftN (n : Int) : Nat := (min (max n 0) 1099511627776).toNat
theorem steps_odd (M L c : Nat) (h : L % 2 = 1) : stn (M * L) c = stn (2 * M * (L / 2)) (stn M c) := by
  rw [← stn_add]
  congr 1
  have : L = 2 * (L / 2) + 1 := by omega
  generalize L / 2 = k at *
  subst this
  rw [Nat.mul_add, Nat.mul_one, Nat.add_comm, Nat.mul_comm 2 M, Nat.mul_assoc]
theorem steps_even (M L c : Nat) (h : L % 2 = 0) : stn (M * L) c = stn (2 * M * (L / 2)) c := by
  have : L = 2 * (L / 2) := by omega
  generalize L / 2 = k at *
  subst this
  rw [Nat.mul_comm 2 M, Nat.mul_assoc]
/-- where shifting stands: the matrix of M steps lies in block b -/
structure HQ (W : World) (b M : Nat) (w : World) : Prop where
  below : Below W.heap.size W w
  le : W.heap.size ≤ b
  now : Blk w b (mat M)
  bits : Bits w
theorem HQ.keep {W w w' : World} {b M : Nat} (h : HQ W b M w) (hb : Below w.heap.size w w') : HQ W b M w' :=
  ⟨h.below.trans (hb.mono h.below.size), h.le, h.now.keep hb, h.bits.keep hb⟩
theorem bits_row {w : World} {b : Nat} (h : Bits w) (hb : 2 ≤ b) (c : Array Value) : Bits (w.setRow b c) := fun j hj => by
  rw [cell_setRow_other w b c _ (by show (1 : Nat) ≠ b; omega)]; exact h j hj
theorem Bits.two {w : World} (h : Bits w) : 2 ≤ w.heap.size := by
  have := block_lt_of_cell (h 0 (by omega)); simp at this; omega
theorem HQ.row {W w : World} {b M : Nat} (h : HQ W b M w) (h2 : 2 ≤ W.heap.size) (N : Nat) : HQ W b N (w.setRow b (mat N)) :=
  ⟨below_row h.below h.le _, h.le, h.now.row (mat_size N), bits_row h.bits (Nat.le_trans h2 h.le) _⟩
theorem HQ.start {W w : World} (hb : Below W.heap.size W w) (hB : Bits W) (c : Array Value) (hc : c.size = 32) (M : Nat) : HQ W w.heap.size M ((w.alloc (.cells c 37)).setRow w.heap.size (mat M)) :=
  ⟨below_row (hb.alloc hb.size _) hb.size _, hb.size, Blk.row (c := c) ⟨heap_alloc_last w _, hc⟩ (mat_size M), bits_row ((hB.keep hb).keep ((Below.refl _ _).alloc (Nat.le_refl _) _)) (Nat.le_trans hB.two hb.size) _⟩
set_option maxRecDepth 8000 in
set_option maxHeartbeats 1000000 in
theorem shift_any (x : Nat) (n : Int) (h : x < 4294967296) (hi : I63 n) {w : World} (ht : Tab w) (hB : Bits w) :
    Calls Tryd.prog 14 #[.int .u32 x, .int .i64 n] w fun e w' => e = .returned (.int .u32 (stn (8 * shiftN n) x)) ∧ Below w.heap.size w w' := by
  obtain ⟨m, hm⟩ : ∃ m, stn (8 * shiftN n) x = m := ⟨_, rfl⟩
  rw [hm]
  have HM := Lib.hid hm
  have HT := Lib.hid ht
  have HB := Lib.hid hB
  have HX := Lib.hid h
  have HZ := Lib.hid (smat_zero 0)
  have hi2 := hi
  unfold I63 at hi2
  clear hm ht hB h hi
  go_enter Tryd.func14, Tryd.ntmps14
  go_wp2_with (first
    | (go_at_call 20; (with_reducible refine (one_any HT.out).mono ?_); rintro e w1 ⟨rfl, hb⟩; have HB1 := Lib.hid hb; clear hb)
    | (rw [← HZ.out]; refine wpList_store_row rfl 37 _ _ rfl w1.heap.size (mat 8) rfl rfl _ (smat 0 0) (heap_alloc_last w1 _) (mat_info _ (mat_size 8)) (by rw [mat_size, smat_size _ _ (by omega)]) (mat_one 8) ?_; have HS0 := Lib.hid (HQ.start HB1.out HB.out (smat 0 0) (smat_size _ _ (by omega)) 8)))
  go_loopw [0, 6] (fun xv lv wr => ∃ (c L M : Nat), xv = .int .u32 c ∧ lv = .int .i64 L ∧ (L : Int) ≤ 1099511627776 ∧ Hid (c < 4294967296) ∧ Hid (stn (M * L) c = m) ∧ Hid (HQ w w1.heap.size M wr)) (fun _ lv _ => (intOf lv).toNat)
  case atStart =>
    have hL : min (max n 0) 1099511627776 = ((shiftN n : Nat) : Int) := by unfold shiftN; omega
    exact ⟨x, shiftN n, 8, rfl, by rw [hL], by rw [← hL]; omega, HX, HM, HS0⟩
  case round =>
    obtain ⟨c, L, M, rfl, rfl, hL, HC, HE, HS⟩ := hrel
    by_cases h0 : 0 < (L : Int)
    · obtain ⟨L2, hL2⟩ : ∃ L2, L / 2 = L2 := ⟨_, rfl⟩
      have hd : ((L : Int)) / 2 = (L2 : Int) := by omega
      have hd2 : ((L : Int)).tdiv 2 = (L2 : Int) := by rw [Int.tdiv_eq_ediv_of_nonneg (by omega)]; exact hd
      by_cases h1 : (L : Int) % 2 = 1
      · have h3 : (L : Int).tmod 2 = 1 := by rw [Int.tmod_eq_emod_of_nonneg (by omega)]; exact h1
        have HE2 := Lib.hid (show stn (2 * M * L2) (stn M c) = m from by rw [← hL2, ← steps_odd M L c (by omega)]; exact HE.out)
        obtain ⟨c2, hc2⟩ : ∃ c2, stn M c = c2 := ⟨_, rfl⟩
        have HC2 := Lib.hid hc2
        have HCL := Lib.hid (show c2 < 4294967296 from by rw [← hc2]; exact stn_lt M c HC.out)
        clear hc2 hL2
        go_wp2_with (first
          | (go_at_call 21; (with_reducible refine (times_any M c HC.out HS.out.bits HC2.out).mono ?_); rintro e w2 ⟨rfl, hb⟩; have HS2 := Lib.hid (HS.out.keep hb); clear hb)
          | (go_at_call 22; (with_reducible refine (squared_any M HS2.out.bits).mono ?_); rintro e w3 ⟨rfl, hb⟩; have HS3 := Lib.hid (HS2.out.keep hb); clear hb)
          | (refine wpList_load_row rfl 37 _ rfl w1.heap.size rfl _ (mat M) (0, 0) _ HS2.out.now.1 Tryd.underlying37 rfl (mat_info _ (mat_size M)) ?_)
          | (refine wpList_load_row rfl 37 _ rfl w1.heap.size rfl _ (mat M) (0, 0) _ HS.out.now.1 Tryd.underlying37 rfl (mat_info _ (mat_size M)) ?_)
          | (refine wpList_store_row rfl 37 _ _ rfl w1.heap.size (mat (2 * M)) rfl rfl _ (mat M) HS3.out.now.1 (mat_info _ (mat_size _)) (by rw [mat_size, mat_size]) (mat_one _) ?_; have HS4 := Lib.hid (HS3.out.row HB.out.two (2 * M))))
        go_roundw
        case rel => exact ⟨c2, L2, 2 * M, rfl, by go_num, by omega, HCL, by rw [← HC2.out]; exact HE2, HS4⟩
        case measure => simp [intOf]; omega
      · have h2 : (L : Int) % 2 = 0 := by omega
        have h3 : (L : Int).tmod 2 = 0 := by rw [Int.tmod_eq_emod_of_nonneg (by omega)]; exact h2
        have HE2 := Lib.hid (show stn (2 * M * L2) c = m from by rw [← hL2, ← steps_even M L c (by omega)]; exact HE.out)
        clear hL2
        go_wp2_with (first
          | (go_at_call 22; (with_reducible refine (squared_any M HS.out.bits).mono ?_); rintro e w3 ⟨rfl, hb⟩; have HS3 := Lib.hid (HS.out.keep hb); clear hb)
          | (refine wpList_load_row rfl 37 _ rfl w1.heap.size rfl _ (mat M) (0, 0) _ HS.out.now.1 Tryd.underlying37 rfl (mat_info _ (mat_size M)) ?_)
          | (refine wpList_store_row rfl 37 _ _ rfl w1.heap.size (mat (2 * M)) rfl rfl _ (mat M) HS3.out.now.1 (mat_info _ (mat_size _)) (by rw [mat_size, mat_size]) (mat_one _) ?_; have HS4 := Lib.hid (HS3.out.row HB.out.two (2 * M))))
        go_roundw
        case rel => exact ⟨c, L2, 2 * M, rfl, by go_num, by omega, HC, HE2, HS4⟩
        case measure => simp [intOf]; omega
    · have hz : L = 0 := by omega
      subst hz
      have hc : c = m := by have := HE.out; rw [Nat.mul_zero] at this; exact this
      subst hc
      go_wp2
      go_ret
      exact ⟨rfl, HS.out.below⟩
theorem join_any (x y : Nat) (n : Int) (h : x < 4294967296) (k : y < 4294967296) (hi : I63 n) {w : World} (ht : Tab w) (hB : Bits w) :
    Calls Tryd.prog 16 #[.int .u32 x, .int .u32 y, .int .i64 n] w fun e w' => e = .returned (.int .u32 (stn (8 * shiftN n) x ^^^ y)) ∧ Below w.heap.size w w' := by
  have HX := Lib.hid (u32_xor_nat (stn (8 * shiftN n) x) y (stn_lt _ _ h) k)
  have HT := Lib.hid ht
  have HB0 := Lib.hid hB
  have HI := Lib.hid hi
  have HH := Lib.hid h
  clear ht hi h hB
  go_enter Tryd.func16, Tryd.ntmps16
  go_wp2_with (first | (go_at_call 14; (with_reducible refine (shift_any x n HH.out HI.out HT.out HB0.out).mono ?_); rintro e w' ⟨rfl, hb⟩; have HB := Lib.hid hb; clear hb))
  go_ret
  exact ⟨ret_int HX.out, HB.out⟩
end Go.Proofs.YtneggofhahjkmaaDoor
