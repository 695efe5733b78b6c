/-
  WHAT word.Get (layer 1) ANSWERS. Bytes must lie where the slices say.
-/
import Derived.Test.YtncnmmillhnhlaaDoorPut
namespace Go.Proofs.YtncnmmillhnhlaaDoor
open Go.RowKit
set_option maxHeartbeats 400000 in
theorem get_some (b off len cap : Nat) (zs : List Int) (w : World) (hz : Bytes zs) (hlen : 0 < len) (hmax : len ≤ 9223372036854775807)
    (hc : ∀ j, j < len → w.cell? ⟨b, off + j, none⟩ = some (.int .u8 (zs.getD j 0))) :
    Calls Tryd.prog 28 #[.slice (some ⟨b, off, none⟩) len cap] w fun e w' => e = .returned (.int .u64 (getI zs (min len 8))) ∧ w = w' := by
  obtain ⟨m, hm, hm1, hm2, hm3⟩ : ∃ m : Nat, min len 8 = m ∧ m ≤ len ∧ m ≤ 8 ∧ (m = len ∨ m = 8) := ⟨_, rfl, by omega, by omega, by omega⟩
  rw [hm]
  have HM := Lib.hid hm; clear hm
  go_enter Tryd.func28, Tryd.ntmps28
  rcases (by have := HM.out; omega : (len : Int) ≤ 8 ∧ len ≤ m ∨ 8 < (len : Int) ∧ 8 ≤ m) with ⟨h8, hl⟩ | ⟨h8, hl⟩
  all_goals
    go_wp2
    go_loop [3, 8] (fun n i => ∃ k : Nat, k ≤ m ∧ i = .int .i64 k ∧ n = .int .u64 (getI zs k)) (fun _ i => m - (intOf i).toNat)
    case atStart => exact ⟨0, by omega, rfl, rfl⟩
    case round =>
      obtain ⟨k, hk, rfl, rfl⟩ := hrel
      have hb : 0 ≤ zs[k]?.getD 0 ∧ zs[k]?.getD 0 ≤ 255 := hz k
      by_cases hlt : k < m
      · have hcell : w.cell? ⟨b, off + k, none⟩ = some (.int .u8 (zs.getD k 0)) := hc k (by omega)
        have HG := Lib.hid (getI_or zs hz k (by omega))
        go_wp2
        go_round
        case rel => exact ⟨k + 1, by omega, by go_num, by rw [← HG.out]; rfl⟩
        case measure => simp [intOf]; omega
      · go_wp2
        go_ret
        exact ⟨ret_int (by congr 1; omega), rfl⟩
end Go.Proofs.YtncnmmillhnhlaaDoor
