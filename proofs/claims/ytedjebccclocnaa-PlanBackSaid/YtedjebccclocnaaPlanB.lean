/-
  'awake' OF LAYER 16 (plan).
-/
import Derived.Test.YtedjebccclocnaaPlanFlat
import Derived.Test.YtedjebccclocnaaPlanWrite
import Derived.Lib.SlBytesConst
namespace Go.Proofs.Ytedjebccclocnaa
open Go.RowKit
theorem partB_bytes (zs : List Int) (h : Bytes zs) (i : Nat) : Bytes (partB zs i) := bytes_take (bytes_drop h _) _
theorem wholeK_bytes (x : Int) (zs : List Int) (n : Nat) (h : Bytes zs) : ∀ k, Bytes (wholeK x zs n k)
  | 0 => bytes_of_mem fun z hz => by simp [wholeK] at hz
  | k + 1 => bytes_of_mem fun z hz => by
    rw [wholeK, List.mem_append] at hz
    rcases hz with hz | hz
    · exact (wholeK_bytes x zs n h k).mem z hz
    · split at hz
      · exact (sealed_bytes x k _ (partB_bytes zs h k)).mem z hz
      · rw [z64, List.mem_replicate] at hz; omega
theorem RI.cellAt {w : World} {g n cap : Nat} {zs : List Int} (h : RI .u8 w (.slice (some ⟨g, 0, none⟩) n cap) n zs) (j : Nat) (hj : j < n) : w.cell? ⟨g, j, none⟩ = some (.int .u8 (zs.getD j 0)) := by
  obtain ⟨b, off, cp, e, _, _, hc⟩ := h.open_ (by omega)
  simp only [Value.slice.injEq, true_and, Option.some.injEq, Addr.mk.injEq, and_true] at e
  obtain ⟨⟨rfl, rfl⟩, rfl⟩ := e
  simpa using hc j hj
theorem BS.cellAt {w : World} {g n cap : Nat} {bs : List Bool} (h : BS w (.slice (some ⟨g, 0, none⟩) n cap) n bs) (j : Nat) (hj : j < n) : w.cell? ⟨g, j, none⟩ = some (.bool (bs.getD j false)) := by
  obtain ⟨b, off, e, hc⟩ := h.at_ j hj
  simp only [Option.some.injEq, Addr.mk.injEq, and_true] at e
  obtain ⟨rfl, rfl⟩ := e
  simpa using hc
theorem ri_x (w : World) : RI .u8 (w.alloc (.cells #[.int .u8 120] 5 (1, 2))) (.slice (some ⟨w.heap.size, 0, none⟩) 1 1) 1 [120] := by
  refine ⟨_, 1, rfl, rfl, Nat.le_refl _, by omega, fun h => by simp at h, fun _ => ⟨w.heap.size, 0, rfl, fun j hj => ?_⟩⟩
  obtain rfl : j = 0 := by omega
  have hg : (w.alloc (.cells #[.int .u8 120] 5 (1, 2))).heap[w.heap.size]? = some (.cells #[.int .u8 120] 5 (1, 2)) := by
    show (w.heap.push _)[w.heap.size]? = _
    simp
  rw [cell_of_row _ w.heap.size _ _ _ _ hg]
  rfl
theorem bytes_x : Bytes [120] := bytes_of_mem fun z hz => by simp at hz; omega
theorem ok_x (i : Nat) (hi : i < 2) : okAt 3 2 (wholeK 3 [120] 2 2) i = true := by
  rw [okAt_in _ _ _ _ hi, secOf_whole 3 [120] 2 i 2 hi, if_pos hi, sealed_own, decide_eq_true rfl]
theorem body_x : (flatB 3 2 (wholeK 3 [120] 2 2) 16).getD 0 0 = 120 := by
  have h := flatB_get 3 2 (wholeK 3 [120] 2 2) (wholeK_length 3 [120] 2 2) 0 0 (by omega) 16 (by omega)
  rw [Nat.mul_zero, Nat.zero_add] at h
  rw [h, roomAt_true _ _ _ _ (ok_x 0 (by omega)), secOf_whole 3 [120] 2 0 2 (by omega), if_pos (by omega), sealed_room]
  decide
set_option maxRecDepth 8000 in
set_option maxHeartbeats 1000000 in
theorem awake_any (w : World) : Calls Try.prog 6 #[] w fun e w' => e = .returned (.bool true) ∧ Below w.heap.size w w' := by
  have HW : Hid (∀ (v : Value) (w : World), RI .u8 w v 1 [120] → Calls Try.prog 11 #[.int .u64 3, v, .int .i64 50, .int .i64 60] w fun e w' => ∃ g, e = .returned (.tuple #[.int .i64 0, .slice (some ⟨g, 0, none⟩) 2 2]) ∧
      FS w' (.slice (some ⟨g, 0, none⟩) 2 2) 2 (wholeK 3 [120] 2 2) ∧ Below w.heap.size w w') := fun v w h => by
    rw [wholeK_in 3 [120] 2 2 (Nat.le_refl _)]
    exact write_any 3 (by unfold U64; omega) v 1 [120] (by omega) 50 60 (by unfold I63; omega) (by unfold I63; omega) w h 0 2 (by decide) (by decide)
  have HF : Hid (∀ (v : Value) (w : World), FS w v 2 (wholeK 3 [120] 2 2) → Calls Try.prog 7 #[.int .u64 3, v] w fun e w' => ∃ g1 g2, e = .returned (.tuple #[.slice (some ⟨g1, 0, none⟩) 832 832, .slice (some ⟨g2, 0, none⟩) 16 16]) ∧
      w'.cell? ⟨g1, 0, none⟩ = some (.int .u8 120) ∧ w'.cell? ⟨g2, 1, none⟩ = some (.bool true) ∧ w'.cell? ⟨g2, 2, none⟩ = some (.bool false) ∧ Below w.heap.size w w') := fun v w h => by
    refine (flat_any 3 (by unfold U64; omega) v 2 _ (wholeK_bytes 3 [120] 2 bytes_x 2) w h).mono ?_
    rintro e w' ⟨g1, g2, rfl, hr, hk, hb⟩
    refine ⟨g1, g2, rfl, ?_, ?_, ?_, hb⟩
    · rw [hr.cellAt 0 (by omega), body_x]
    · rw [hk.cellAt 1 (by omega), flatK_get _ _ _ _ _ (by omega), ok_x 1 (by omega)]
    · rw [hk.cellAt 2 (by omega), flatK_get _ _ _ _ _ (by omega), okAt_behind _ _ _ _ (by omega)]
  generalize wholeK 3 [120] 2 2 = fs at *
  have kc := fun (w : World) (C : Array Value) (n c : Nat) => Lib.run_convert_bytes_const (P := Try.prog) w 26 5 C n c Try.underlying26 Try.underlying5
  go_enter Try.func6, Try.ntmps6
  go_wp2_with (first
    | (go_at_call 11; (refine (HW.out _ _ (ri_x w)).mono ?_); rintro e w1 ⟨g, rfl, hf, hb⟩; have HF1 := Lib.hid hf; have HB1 := Lib.hid (bch (below_alloc w _) hb); clear hf hb)
    | (go_at_call 7; (with_reducible refine (HF.out _ _ HF1.out).mono ?_); rintro e w2 ⟨g1, g2, rfl, c1, c2, c3, hb⟩; have HB2 := Lib.hid (bch HB1.out hb); clear hb))
  go_ret
  exact ⟨rfl, HB2.out⟩
end Go.Proofs.Ytedjebccclocnaa
