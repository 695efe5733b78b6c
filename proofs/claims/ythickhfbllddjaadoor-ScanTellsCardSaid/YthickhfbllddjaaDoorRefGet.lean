/-
  LAYER 1 (word), what later layers take of it: what the reference's Get answers. Bytes must lie where the slice says.
-/
import Derived.Test.YthickhfbllddjaaDoorJC
namespace Go.Proofs.YthickhfbllddjaaDoor
open Go.RowKit
set_option maxHeartbeats 400000 in
theorem rgetw_some (b off len cap : Nat) (zs : List Int) (w : World) (hz : Bytes zs) (hlen : 0 < len) (hmax : len ≤ 9223372036854775807)
    (hc : ∀ j, j < len → w.cell? ⟨b, off + j, none⟩ = some (.int .u8 (zs.getD j 0))) :
    Calls Tryd.prog 56 #[.slice (some ⟨b, off, none⟩) len cap] w fun e w' => e = .returned (.int .u64 (getI zs (min len 8))) ∧ Drawn w w' := by
  obtain ⟨m, hm, hm1, hm2, hm3⟩ : ∃ m : Nat, min len 8 = m ∧ m ≤ len ∧ m ≤ 8 ∧ (m = len ∨ m = 8) := ⟨_, rfl, by omega, by omega, by omega⟩
  rw [hm]
  have HM := Lib.hid hm; clear hm
  go_enter Tryd.func56, Tryd.ntmps56
  go_wp2
  go_loopw [3, 4] (fun n i wr => ∃ k : Nat, k ≤ m ∧ i = .int .i64 k ∧ n = .int .u64 (getI zs k) ∧ Drawn w wr) (fun _ i _ => m - (intOf i).toNat)
  case atStart => exact ⟨0, by omega, rfl, rfl, ⟨0, rfl⟩⟩
  case round =>
    obtain ⟨k, hk, rfl, rfl, hw⟩ := hrel
    by_cases hlt : k < m
    · have hcell : wr.cell? ⟨b, off + k, none⟩ = some (.int .u8 (zs.getD k 0)) := (hw.cell _).trans (hc k (by omega))
      have hb : 0 ≤ zs[k]?.getD 0 ∧ zs[k]?.getD 0 ≤ 255 := hz k
      have HG := Lib.hid (getI_ref zs hz k (by omega))
      have h1 : (k : Int) < (len : Int) := by omega
      have h2 : (k : Int) < 8 := by omega
      go_wp2_with fail
      have he : IntKind.i64.wrap (8 * (k : Int)) = ((8 * k : Nat) : Int) := by rw [IntWalk.i64_in _ (by omega)]; omega
      have hu : IntKind.u64.wrap (zs[k]?.getD 0) = zs[k]?.getD 0 := IntWalk.u64_in _ (by omega)
      go_quiet ((go_at_call 61; exact quiet_eq (two_at _ (8 * k) (by omega) (by omega) _)))
      clear he hu
      go_wp2
      go_roundw
      case rel => exact ⟨k + 1, by omega, by go_num, by rw [← HG.out]; rfl, hw.then _⟩
      case measure => simp [intOf]; omega
    · rcases (by omega : (len : Int) ≤ k ∨ (k : Int) < len ∧ 8 ≤ (k : Int)) with h1 | ⟨h1, h2⟩
      all_goals
        go_wp2
        go_ret
        exact ⟨ret_int (by congr 1; omega), hw⟩
end Go.Proofs.YthickhfbllddjaaDoor
