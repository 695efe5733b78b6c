/-
  WHETHER TWO FRAGMENTS ARE THE SAME (layer 13): the reference's Same. Bytes must lie where the slices say.
-/
import Derived.Test.YtepmiooemjjhdaaFragBlk
import Derived.Test.YtepmiooemjjhdaaFR
import Derived.Test.YtepmiooemjjhdaaIsB
namespace Go.Proofs.Ytepmiooemjjhdaa
open Go.RowKit
theorem fr_same (k e : Int) (d : List Int) (k' e' : Int) (d' : List Int) : decide ((⟨k, e, d⟩ : FR) = ⟨k', e', d'⟩) = (decide (k = k') && (decide (e = e') && decide (d = d'))) := by
  rw [Bool.eq_iff_iff]; simp [FR.mk.injEq]
set_option maxRecDepth 8000 in
set_option maxHeartbeats 2000000 in
theorem rfsame_any (k e : Int) (v : Value) (n : Nat) (d : List Int) (k' e' : Int) (v' : Value) (n' : Nat) (d' : List Int) (w : World) (h1 : RI .u8 w v n d) (h2 : RI .u8 w v' n' d') (hb1 : isB d) (hb2 : isB d') :
    Calls Try.prog 14 #[.agg (fA k e v), .agg (fA k' e' v')] w fun r w' => r = .returned (.bool (decide ((⟨k, e, d⟩ : FR) = ⟨k', e', d'⟩))) ∧ Below w.heap.size w w' := by
  rw [fr_same]
  by_cases hk : k = k'
  · subst hk
    by_cases hc : e = e'
    · subst hc
      have q1 := conv_ri (h1.keep (fbelow2 w (.cells (fA k e v) 39) (.cells (fA k e v') 39)))
      have q2 := conv_ri (h2.keep (fbelow2 w (.cells (fA k e v) 39) (.cells (fA k e v') 39)))
      obtain ⟨a, m, rfl, _⟩ := h1
      obtain ⟨a', m', rfl, _⟩ := h2
      by_cases hd : d = d'
      · subst hd
        rw [show (decide (k = k) && (decide (e = e) && decide (d = d))) = true from by simp]
        clear hb1 hb2
        go_enter Try.func14, Try.ntmps14
        go_wp2
        go_ret
        exact ⟨rfl, fbelow2 _ _ _⟩
      · rw [show (decide (k = k) && (decide (e = e) && decide (d = d'))) = false from by simp [hd]]
        have hs : ¬ strOfNums d = strOfNums d' := fun e => hd (strOfNums_inj hb1 hb2 e)
        have hs2 := str_ne hs
        clear hb1 hb2
        go_enter Try.func14, Try.ntmps14
        go_wp2
        go_ret
        exact ⟨rfl, fbelow2 _ _ _⟩
    · rw [show (decide (k = k) && (decide (e = e') && decide (d = d'))) = false from by simp [hc]]
      have hq : (e == e') = false := by simpa using hc
      clear h1 h2 hb1 hb2
      go_enter Try.func14, Try.ntmps14
      go_wp2
      go_ret
      exact ⟨rfl, fbelow2 _ _ _⟩
  · rw [show (decide (k = k') && (decide (e = e') && decide (d = d'))) = false from by simp [hk]]
    have hq : (k == k') = false := by simpa using hk
    clear h1 h2 hb1 hb2
    go_enter Try.func14, Try.ntmps14
    go_wp2
    go_ret
    exact ⟨rfl, fbelow2 _ _ _⟩
end Go.Proofs.Ytepmiooemjjhdaa
