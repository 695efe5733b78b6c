/-
  WHAT THE DOCUMENT'S ANSWERS OF LAYER 8 (disk) ANSWER: the reference's New.
-/
import Derived.Test.YtpnialanmidekaaDiskSecs
import Derived.Test.YtpnialanmidekaaMix
namespace Go.Proofs.Ytpnialanmidekaa
open Go.RowKit
theorem newD_run (c : Int) (hc : I63 c) (F : Nat → Bool) (w : World) :
    Calls Try.prog 9 #[.int .i64 c] w fun e w' => ∃ v', e = .returned v' ∧ RD (mask F w') v' (AD.newD c) ∧ Below w.heap.size w w' := by
  unfold I63 at hc
  obtain ⟨k, hk⟩ : ∃ k, min (max c 0) 1048576 = k := ⟨_, rfl⟩
  have HK := Lib.hid hk
  clear hk
  by_cases h1 : 1048576 < c
  · go_enter Try.func9, Try.ntmps9
    go_wp2
    refine bodyPost_ret_by (results_cell_row rfl _ _ w.heap.size _ _ (0, 0) _ rfl (heap_alloc_last w _) Try.underlying29 rfl disk_info) rfl ⟨_, rfl, ⟨.slice none 0 0, ?_, FLs.nil _⟩, below_alloc w _⟩
    have : (AD.newD c).cap = 1048576 := by show min (max c 0) 1048576 = 1048576; omega
    simp only [dv, this]; rfl
  · by_cases h2 : c < 0
    · go_enter Try.func9, Try.ntmps9
      go_wp2
      refine bodyPost_ret_by (results_cell_row rfl _ _ w.heap.size _ _ (0, 0) _ rfl (heap_alloc_last w _) Try.underlying29 rfl disk_info) rfl ⟨_, rfl, ⟨.slice none 0 0, ?_, FLs.nil _⟩, below_alloc w _⟩
      have : (AD.newD c).cap = 0 := by show min (max c 0) 1048576 = 0; omega
      simp only [dv, this]; rfl
    · go_enter Try.func9, Try.ntmps9
      go_wp2
      refine bodyPost_ret_by (results_cell_row rfl _ _ w.heap.size _ _ (0, 0) _ rfl (heap_alloc_last w _) Try.underlying29 rfl disk_info) rfl ⟨_, rfl, ⟨.slice none 0 0, ?_, FLs.nil _⟩, below_alloc w _⟩
      have : (AD.newD c).cap = c := by show min (max c 0) 1048576 = c; omega
      simp only [dv, this]; rfl
end Go.Proofs.Ytpnialanmidekaa
