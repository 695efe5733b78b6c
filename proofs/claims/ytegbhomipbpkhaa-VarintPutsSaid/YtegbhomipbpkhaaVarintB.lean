/-
  'awake' OF LAYER 2, what is kept through a law's region, conversions to texts, and contracts in the spelling that the laws' walks want.
-/
import Derived.Test.YtegbhomipbpkhaaVarintGet
import Derived.Test.YtegbhomipbpkhaaRegion
import Derived.Deep.RegionHeld3
namespace Go.Proofs.Ytegbhomipbpkhaa
open Go.RowKit
/-- the text of what a slice of bytes holds -/
theorem conv_ri {w : World} {v : Value} {n : Nat} {zs : List Int} (h : RI .u8 w v n zs) : (convert 22 9 v).run Try.prog w = .ok (.string (strOfNums zs)) w := by
  obtain ⟨a, cap, rfl, hl, _, _, _, hc⟩ := h
  by_cases h0 : 0 < n
  · obtain ⟨b, off, rfl, hcell⟩ := hc h0
    exact run_convert_bytes_arg w _ _ Try.underlying22 Try.underlying5 b off n cap zs hl hcell _ Try.underlying9
  · obtain rfl : n = 0 := by omega
    obtain rfl : zs = [] := List.length_eq_zero_iff.1 hl
    cases a with
    | none => exact run_convert_bytes_nil w _ _ Try.underlying22 Try.underlying5 0 cap _ Try.underlying9
    | some x =>
      have hl : (loadCells x 0).run Try.prog w = .ok (([] : List Int).map (Value.int .u8)).toArray w := run_loadCells_list (P := Try.prog) w x [] (fun j v hj => by simp at hj)
      rw [run_convert_bytes_string w _ _ _ _ 0 cap Try.underlying22 Try.underlying5 Try.underlying9, run_bytesToString w x 0 cap [] hl]
      rfl
theorem put_300 (w : World) : Calls Try.prog 6 #[.slice none 0 0, .int .u64 300] w fun e w' => ∃ b off cap, e = .returned (.slice (some ⟨b, off, none⟩) 2 cap) ∧
    w'.cell? ⟨b, off, none⟩ = some (.int .u8 172) ∧ w'.cell? ⟨b, off + 1, none⟩ = some (.int .u8 2) ∧ Below w.heap.size w w' := by
  refine (put_any 300 (by decide) (.slice none 0 0) 0 [] w (RI.nil _ _) (by omega)).mono fun e w' ⟨v', he, ho, hb⟩ => ?_
  rw [vb_300] at ho
  obtain ⟨a, cap, rfl, _, _, _, _, hc⟩ := RI.own ho
  obtain ⟨b, off, rfl, hcell⟩ := hc (by decide)
  exact ⟨b, off, cap, he, hcell 0 (by decide), hcell 1 (by decide), hb⟩
theorem size_300 (w : World) : Calls Try.prog 8 #[.int .u64 300] w fun e w' => e = .returned (.int .i64 2) ∧ w = w' :=
  size_at 300 2 (by decide) (by rw [vb_300]; rfl) w
set_option maxHeartbeats 400000 in
theorem awake_any (w : World) : Calls Try.prog 10 #[] w fun e w' => e = .returned (.bool true) ∧ Below w.heap.size w w' := by
  go_enter Try.func10, Try.ntmps10
  go_wp2_with (first
    | (go_at_call 6; (with_reducible refine (put_300 _).mono ?_); rintro e w' ⟨b, off, cap, rfl, c0, c1, hb⟩; have HB := Lib.hid hb; clear hb)
    | (go_at_call 8; (with_reducible refine (size_300 _).mono ?_); rintro e w' ⟨rfl, rfl⟩))
  go_ret
  exact ⟨rfl, HB.out⟩
end Go.Proofs.Ytegbhomipbpkhaa
