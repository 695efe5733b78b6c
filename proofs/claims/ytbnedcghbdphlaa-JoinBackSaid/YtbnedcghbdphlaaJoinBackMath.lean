/-
  WHAT WAS CUT IS JOINED (layers 14 and 15): the fragments of a record that fits come to it. Plain mathematics. No condition.
-/
import Derived.Test.YtbnedcghbdphlaaCutPc
import Derived.Test.YtbnedcghbdphlaaJoinMath
namespace Go.Proofs.Ytbnedcghbdphlaa
theorem back_from {a n m : Nat} (hc : Cuts a n m) (hf : Fit a n) (h5 : n ≤ 512) (zs : List Int) (hz : zs.length = n) (acc : List (List Int)) (r : List FR) :
    ∀ (q j : Nat), j + q = m → 0 < q → jRun (decide (0 < j)) (zs.take (fS a n j)) acc (((firstP a n m).drop j).map (frOf 0 zs) ++ r) = jRun false [] (acc ++ [zs]) r
  | 0, j, _, h0 => by omega
  | q + 1, j, hj, _ => by
    have hjm : j < m := by omega
    obtain ⟨hr, hs⟩ := hc.at_ hf hjm
    have hge := hs.f_ge
    have hle := hs.f_le
    have hl := last_iff hc hjm
    have hd : (firstP a n m).drop j = pcS a n j :: (firstP a n m).drop (j + 1) := by
      have h1 := firstP_get a n m j hjm
      obtain ⟨hi, e⟩ := List.getElem?_eq_some_iff.1 h1
      rw [List.drop_eq_getElem_cons hi, e]
    have hfr : frOf 0 zs (pcS a n j) = ⟨kindN (decide (j = 0)) (decide (fS a n (j + 1) = n)), 0, (zs.drop (fS a n j)).take (fS a n (j + 1) - fS a n j)⟩ := by
      show FR.mk _ _ _ = _
      simp [pcS]
    have ht : zs.take (fS a n j) ++ (zs.drop (fS a n j)).take (fS a n (j + 1) - fS a n j) = zs.take (fS a n (j + 1)) := by
      rw [← List.take_add, show fS a n j + (fS a n (j + 1) - fS a n j) = fS a n (j + 1) from by omega]
    have hl1 : (zs.take (fS a n j)).length = fS a n j := by rw [List.length_take]; omega
    have hl2 : ((zs.drop (fS a n j)).take (fS a n (j + 1) - fS a n j)).length = fS a n (j + 1) - fS a n j := by rw [List.length_take, List.length_drop]; omega
    have hlen : ¬ (zs.take (fS a n j)).length + ((zs.drop (fS a n j)).take (fS a n (j + 1) - fS a n j)).length > 512 := by rw [hl1, hl2]; omega
    rw [hd, List.map_cons, List.cons_append, hfr]
    by_cases hlast : j + 1 = m
    · have h3 : fS a n (j + 1) = n := hl.2 hlast
      have hk : jFit (decide (0 < j)) (kindN (decide (j = 0)) (decide (fS a n (j + 1) = n))) = true ∧ jLast (kindN (decide (j = 0)) (decide (fS a n (j + 1) = n))) = true := by
        rw [decide_eq_true h3]
        by_cases h0 : j = 0
        · subst h0; decide
        · rw [decide_eq_true (by omega : 0 < j), decide_eq_false h0]; decide
      obtain ⟨e1, e2, e3, e4, e5⟩ := j_ends hk.1 hlen hk.2
      rw [jRun_cons _ _ _ _ _ e1]
      simp only
      rw [e2, e3, e4, e5, if_pos rfl, ht, h3, List.take_of_length_le (by omega), List.drop_of_length_le (by rw [firstP_len]; omega)]
      rfl
    · have h3 : ¬ fS a n (j + 1) = n := fun e => hlast (hl.1 e)
      have hk : jFit (decide (0 < j)) (kindN (decide (j = 0)) (decide (fS a n (j + 1) = n))) = true ∧ jLast (kindN (decide (j = 0)) (decide (fS a n (j + 1) = n))) = false := by
        rw [decide_eq_false h3]
        by_cases h0 : j = 0
        · subst h0; decide
        · rw [decide_eq_true (by omega : 0 < j), decide_eq_false h0]; decide
      obtain ⟨e1, e2, e3, e4, e5⟩ := j_goes hk.1 hlen hk.2
      rw [jRun_cons _ _ _ _ _ e1]
      simp only
      rw [e2, e3, e4, if_neg (by decide), ht]
      have ih := back_from hc hf h5 zs hz acc r q (j + 1) (by omega) (by omega)
      rw [decide_eq_true (by omega : 0 < j + 1)] at ih
      exact ih
/-- what was cut is joined -/
theorem back_one (x : Int) (zs : List Int) (h : fitI x zs.length = true) (h5 : zs.length ≤ 512) (acc : List (List Int)) (r : List FR) :
    jRun false [] acc ((pcsI x zs.length).map (frOf 0 zs) ++ r) = jRun false [] (acc ++ [zs]) r := by
  obtain ⟨k, m, hk, _, _, hc, hf⟩ := told_of h
  have hk2 : k = zs.length := by omega
  subst hk2
  rw [(told_yes hc hf).2.1]
  have h0 := hc.1
  have z := back_from hc hf h5 zs rfl acc r m 0 (by omega) (by omega)
  rw [List.drop_zero] at z
  have e0 : zs.take (fS (nr x) zs.length 0) = [] := by rw [show fS (nr x) zs.length 0 = 0 from rfl]; rfl
  rw [e0] at z
  exact z
end Go.Proofs.Ytbnedcghbdphlaa
