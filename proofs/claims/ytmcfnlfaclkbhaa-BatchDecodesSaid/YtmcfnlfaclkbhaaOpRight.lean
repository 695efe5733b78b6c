/-
  WHAT THE PROGRAM'S OWN Right OF LAYER 10 (op) ANSWERS. No condition.
-/
import Derived.Test.YtmcfnlfaclkbhaaOpMath
namespace Go.Proofs.Ytmcfnlfaclkbhaa
open Go.RowKit
set_option maxRecDepth 8000 in
set_option maxHeartbeats 1000000 in
theorem oright_any (k : Int) (s t : ByteArray) (w : World) :
    Calls Try.prog 17 #[.agg (oA k s t)] w fun e w' => e = .returned (.bool (opRight k s t)) ∧ Below w.heap.size w w' := by
  by_cases h0 : s.size = 0
  · obtain rfl := size_zero h0
    rw [show opRight k ⟨#[]⟩ t = false from by unfold opRight; exact decide_eq_false (fun h => absurd h.1 (by decide))]
    clear h0
    go_enter Try.func17, Try.ntmps17
    go_wp2
    go_ret
    exact ⟨rfl, balloc _ _⟩
  · obtain ⟨e1, e2, e3⟩ := empty_no h0
    by_cases h1 : 24 < (s.size : Int)
    · rw [show opRight k s t = false from by unfold opRight; exact decide_eq_false (fun h => by omega)]
      go_enter Try.func17, Try.ntmps17
      go_wp2
      go_ret
      exact ⟨rfl, balloc _ _⟩
    · have hs1 : 1 ≤ s.size := by omega
      have hs2 : s.size ≤ 24 := by omega
      by_cases hk1 : k = 1
      · subst hk1
        by_cases ht : (t.size : Int) ≤ 128
        · have ht2 : t.size ≤ 128 := by omega
          rw [show opRight 1 s t = true from by unfold opRight; simp [hs1, hs2, ht2]]
          clear ht2
          go_enter Try.func17, Try.ntmps17
          go_wp2
          go_ret
          exact ⟨rfl, balloc _ _⟩
        · have ht2 : ¬ t.size ≤ 128 := by omega
          rw [show opRight 1 s t = false from by unfold opRight; simp [ht2]]
          clear ht2
          go_enter Try.func17, Try.ntmps17
          go_wp2
          go_ret
          exact ⟨rfl, balloc _ _⟩
      · have hb1 : (k == 1) = false := by simpa using hk1
        by_cases hk2 : k = 2
        · subst hk2
          by_cases ht : t.size = 0
          · obtain rfl := size_zero ht
            rw [show opRight 2 s ⟨#[]⟩ = true from by unfold opRight; simp [hs1, hs2, ht]]
            go_enter Try.func17, Try.ntmps17
            go_wp2
            go_ret
            exact ⟨rfl, balloc _ _⟩
          · obtain ⟨g1, g2, g3⟩ := empty_no ht
            rw [show opRight 2 s t = false from by unfold opRight; simp [ht]]
            go_enter Try.func17, Try.ntmps17
            go_wp2
            go_ret
            exact ⟨rfl, balloc _ _⟩
        · have hb2 : (k == 2) = false := by simpa using hk2
          rw [show opRight k s t = false from by unfold opRight; simp [hk1, hk2]]
          go_enter Try.func17, Try.ntmps17
          go_wp2
          go_ret
          exact ⟨rfl, balloc _ _⟩
end Go.Proofs.Ytmcfnlfaclkbhaa
