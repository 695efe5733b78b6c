/-
  WHAT New AND Idle OF THE PROGRAM'S LAYER 15 (join) ANSWER, and Feed of no joiner. No condition.
-/
import Derived.Test.YtbnedcghbdphlaaJoinBlk
import Derived.Test.YtbnedcghbdphlaaJoinMath
import Derived.Test.YtbnedcghbdphlaaAppw
import Derived.WalkMore
namespace Go.Proofs.Ytbnedcghbdphlaa
open Go.RowKit
set_option maxRecDepth 8000 in
theorem new_any (w : World) : Calls Try.prog 7 #[] w fun e w' => e = .returned (.pointer (some ⟨w.heap.size, 0, none⟩)) ∧ JB w' w.heap.size w.heap.size false (.slice none 0 0) [] ∧ Below w.heap.size w w' := by
  go_enter Try.func7, Try.ntmps7
  go_wp2
  go_ret
  exact ⟨rfl, ⟨heap_alloc_last w _, World.ownsRow_nil _ _ _ _, fun _ => ⟨rfl, rfl⟩, by simp, Nat.le_refl _⟩, balloc w _⟩
set_option maxRecDepth 8000 in
theorem idle_any (o : Bool) (v : Value) (jb : Nat) (w : World) (h : JO w jb o v) : Calls Try.prog 10 #[.pointer (some ⟨jb, 0, none⟩)] w fun e w' => e = .returned (.bool (!o)) ∧ w = w' := by
  obtain ⟨h0, h1⟩ := h.cells
  clear h
  go_enter Try.func10, Try.ntmps10
  go_wp2
  go_ret
  exact ⟨rfl, rfl⟩
set_option maxRecDepth 8000 in
theorem idle_nil (w : World) : Calls Try.prog 10 #[.pointer none] w fun e w' => e = .returned (.bool true) ∧ w = w' := by
  go_enter Try.func10, Try.ntmps10
  go_wp2
  go_ret
  exact ⟨rfl, rfl⟩
set_option maxRecDepth 8000 in
theorem feed_nil (k ep : Int) (v : Value) (w : World) : Calls Try.prog 8 #[.pointer none, .agg (fA k ep v)] w fun e w' => e = .returned (.tuple #[.slice none 0 0, .bool false, .int .i64 11]) ∧ Below w.heap.size w w' := by
  go_enter Try.func8, Try.ntmps8
  go_wp2
  go_step3
  go_wp2
  try rw [Exit.noGoto_ret]
  go_ret3
  exact ⟨rfl, balloc w _⟩
end Go.Proofs.Ytbnedcghbdphlaa
