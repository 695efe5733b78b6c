/-
  WHAT THE PROGRAM'S OWN FUNCTIONS OF LAYER 13 (frag) ANSWER: isKind, right, Same. No condition of ours.
-/
import Derived.Test.YtkomlapgjblnlaaDoorFragRef
import Derived.Test.YtkomlapgjblnlaaDoorFragHead
import Derived.Test.YtkomlapgjblnlaaDoorBytesEq
namespace Go.Proofs.YtkomlapgjblnlaaDoor
open Go.RowKit
theorem kind_any (k : Int) (w : World) : Calls Tryd.prog 23 #[.int .i64 k] w fun e w' => e = .returned (.bool (decide (1 ≤ k ∧ k ≤ 4))) ∧ w = w' := by
  rcases (by omega : (1 ≤ k ∧ k ≤ 4) ∨ k < 1 ∨ (1 ≤ k ∧ 4 < k)) with ⟨h1, h2⟩ | h1 | ⟨h1, h2⟩
  · rw [show decide (1 ≤ k ∧ k ≤ 4) = true from decide_eq_true ⟨h1, h2⟩]
    go_enter Tryd.func23, Tryd.ntmps23
    go_wp2
    go_ret
    exact ⟨rfl, rfl⟩
  · rw [show decide (1 ≤ k ∧ k ≤ 4) = false from decide_eq_false (by omega)]
    go_enter Tryd.func23, Tryd.ntmps23
    go_wp2
    go_ret
    exact ⟨rfl, rfl⟩
  · rw [show decide (1 ≤ k ∧ k ≤ 4) = false from decide_eq_false (by omega)]
    go_enter Tryd.func23, Tryd.ntmps23
    go_wp2
    go_ret
    first
      | exact ⟨rfl, rfl⟩
      | exact ⟨ret_bool (decide_eq_false (by omega)), rfl⟩
set_option maxRecDepth 8000 in
set_option maxHeartbeats 1000000 in
theorem fright_any (k e : Int) (a : Option Addr) (n cap : Nat) (w : World) :
    Calls Tryd.prog 14 #[.agg (fA k e (.slice a n cap))] w fun r w' => r = .returned (.bool (fragOk k n)) ∧ Below w.heap.size w w' := by
  obtain ⟨y, hy⟩ : ∃ y, decide (1 ≤ k ∧ k ≤ 4) = y := ⟨_, rfl⟩
  have HK : Hid (∀ w, Calls Tryd.prog 23 #[.int .i64 k] w fun e w' => e = .returned (.bool y) ∧ w = w') := Lib.hid fun w => by rw [← hy]; exact kind_any k w
  have hall : fragOk k n = (y && decide ((n : Int) ≤ 197)) := by
    rw [← hy, Bool.eq_iff_iff]; unfold fragOk; simp; omega
  rw [hall]
  cases y with
  | false =>
    clear hy hall
    go_enter Tryd.func14, Tryd.ntmps14
    go_wp2_with (first
      | (go_at_call 23; (with_reducible refine (HK.out _).mono ?_); rintro e w' ⟨rfl, rfl⟩))
    go_ret
    exact ⟨rfl, balloc _ _⟩
  | true =>
    clear hy hall
    go_enter Tryd.func14, Tryd.ntmps14
    go_wp2_with (first
      | (go_at_call 23; (with_reducible refine (HK.out _).mono ?_); rintro e w' ⟨rfl, rfl⟩))
    go_ret
    exact ⟨rfl, balloc _ _⟩
set_option maxRecDepth 8000 in
set_option maxHeartbeats 2000000 in
theorem fsame_any (k e : Int) (v : Value) (n : Nat) (d : List Int) (k' e' : Int) (v' : Value) (n' : Nat) (d' : List Int) (w : World) (h1 : RI .u8 w v n d) (h2 : RI .u8 w v' n' d') (hb1 : isB d) (hb2 : isB d') :
    Calls Tryd.prog 10 #[.agg (fA k e v), .agg (fA k' e' v')] w fun r w' => r = .returned (.bool (decide ((⟨k, e, d⟩ : FR) = ⟨k', e', d'⟩))) ∧ Below w.heap.size w w' := by
  rw [fr_same]
  by_cases hk : k = k'
  · subst hk
    by_cases hc : e = e'
    · subst hc
      obtain ⟨y, hy⟩ : ∃ y, decide (d = d') = y := ⟨_, rfl⟩
      rw [show (decide (k = k) && (decide (e = e) && decide (d = d'))) = y from by simp [← hy]]
      have HE : Hid (∀ w, RI .u8 w v n d → RI .u8 w v' n' d' → Calls Tryd.prog 21 #[v, v'] w fun e w' => e = .returned (.bool y) ∧ w = w') := Lib.hid fun w a b => by rw [← hy]; exact bequal_any v v' n n' d d' w a b hb1 hb2
      have H1 := Lib.hid (h1.keep (fbelow2 w (.cells (fA k e v) 25) (.cells (fA k e v') 25)))
      have H2 := Lib.hid (h2.keep (fbelow2 w (.cells (fA k e v) 25) (.cells (fA k e v') 25)))
      clear h1 h2 hb1 hb2 hy
      go_enter Tryd.func10, Tryd.ntmps10
      go_wp2_with (first
        | (go_at_call 21; (with_reducible refine (HE.out _ H1.out H2.out).mono ?_); rintro e w' ⟨rfl, rfl⟩))
      go_ret
      exact ⟨rfl, fbelow2 _ _ _⟩
    · rw [show (decide (k = k) && (decide (e = e') && decide (d = d'))) = false from by simp [hc]]
      have hq : (e == e') = false := by simpa using hc
      clear h1 h2 hb1 hb2
      go_enter Tryd.func10, Tryd.ntmps10
      go_wp2
      go_ret
      exact ⟨rfl, fbelow2 _ _ _⟩
  · rw [show (decide (k = k') && (decide (e = e') && decide (d = d'))) = false from by simp [hk]]
    have hq : (k == k') = false := by simpa using hk
    clear h1 h2 hb1 hb2
    go_enter Tryd.func10, Tryd.ntmps10
    go_wp2
    go_ret
    exact ⟨rfl, fbelow2 _ _ _⟩
end Go.Proofs.YtkomlapgjblnlaaDoor
