/-
  LAYER 12 (batch): the walk of the law BatchLasts. Within the form's own bounds.
-/
import Derived.Test.YtmcfnlfaclkbhaaBatLastR
import Derived.Test.YtmcfnlfaclkbhaaBatLaws
namespace Go.Proofs.Ytmcfnlfaclkbhaa
open Go.RowKit
set_option maxRecDepth 8000 in
set_option maxHeartbeats 4000000 in
theorem lasts_walk (v : Value) (l : List AO) (W : World) (h : OS W v l) (hk : ∀ o ∈ l, o.key.size ≤ maxLen) :
    Calls Try.prog 5 #[v] W fun e w' => e = .returned (.bool true) ∧ Below W.heap.size W w' := by
  obtain ⟨a, c, rfl, hc, hm, _⟩ := h.form
  obtain ⟨n, hn⟩ : ∃ n, l.length = n := ⟨_, rfl⟩
  rw [hn] at h hc ⊢
  by_cases hbig : 200 < (n : Int)
  · clear h hn hk
    go_enter Try.func5, Try.ntmps5
    go_wp2_with (first
      | (go_at_call 6; (with_reducible refine (awake_any _).mono ?_); rintro e w1 ⟨rfl, hb⟩; have HB := Lib.hid hb; clear hb))
    go_ret
    exact ⟨rfl, HB.out⟩
  · have HL := Lib.hid h
    obtain ⟨m, hlm⟩ : ∃ m, lastOf l = m := ⟨_, rfl⟩
    have hml : m.length ≤ 200 := by have := lastOf_len l; rw [hlm] at this; omega
    have hmm : lastOf m = m := by rw [← hlm]; exact lastOf_twice l
    have hmk : ∀ o ∈ m, o.key.size ≤ maxLen := fun o ho => hk o (lastOf_mem (by rw [hlm]; exact ho))
    have H1 : Hid (∀ w, OS w (.slice a n c) l → Calls Try.prog 14 #[.slice a n c] w fun e w' => ∃ v', e = .returned v' ∧ OS w' v' m ∧ Below w.heap.size w w') := Lib.hid fun w h => by have := blast_any _ l w h (by omega) hk; rwa [hlm] at this
    have H2 : Hid (∀ v w, OS w v m → Calls Try.prog 14 #[v] w fun e w' => ∃ v', e = .returned v' ∧ OS w' v' m ∧ Below w.heap.size w w') := Lib.hid fun v w h => by have := blast_any _ m w h hml hmk; rwa [hmm] at this
    have H3 : Hid (∀ w, OS w (.slice a n c) l → Calls Try.prog 15 #[.slice a n c] w fun e w' => ∃ v', e = .returned v' ∧ OS w' v' m ∧ Below w.heap.size w w') := Lib.hid fun w h => by have := rblast_any _ l w h (by omega); rwa [hlm] at this
    have H5 : Hid (∀ v1 v2 w, OS w v1 m → OS w v2 m → Calls Try.prog 12 #[v1, v2] w fun e w' => e = .returned (.bool true) ∧ Below w.heap.size w w') := Lib.hid fun v1 v2 w h1 h2 => (rosame_any v1 v2 m m w h1 h2).mono fun _ _ ⟨e, b⟩ => ⟨by rw [e]; simp, b⟩
    clear h hn hk hlm hml hmm hmk
    go_enter Try.func5, Try.ntmps5
    go_wp2_with (first
      | (go_at_call 12; (with_reducible refine (H5.out _ _ _ HX5.out HY5.out).mono ?_); rintro e w6 ⟨rfl, hb⟩; have HB6 := Lib.hid (bch HB5.out hb); clear hb)
      | (go_at_call 14; (with_reducible refine (H2.out _ _ HX4.out).mono ?_); rintro e w5 ⟨v5, rfl, ho, hb⟩; have HX5 := Lib.hid ho; have HY5 := Lib.hid (HX4.out.keep hb); have HB5 := Lib.hid (bch HB4.out hb); clear hb ho)
      | (go_at_call 12; (with_reducible refine (H5.out _ _ _ HX3.out HY3.out).mono ?_); rintro e w4 ⟨rfl, hb⟩; have HX4 := Lib.hid (HX3.out.keep hb); have HB4 := Lib.hid (bch HB3.out hb); clear hb)
      | (go_at_call 15; (with_reducible refine (H3.out _ (HL.out.keep HB2.out)).mono ?_); rintro e w3 ⟨v3, rfl, ho, hb⟩; have HY3 := Lib.hid ho; have HX3 := Lib.hid (HX2.out.keep hb); have HB3 := Lib.hid (bch HB2.out hb); clear hb ho)
      | (go_at_call 14; (with_reducible refine (H1.out _ HL.out).mono ?_); rintro e w2 ⟨v2, rfl, ho, hb⟩; have HX2 := Lib.hid ho; have HB2 := Lib.hid hb; clear hb ho)
      | (go_at_call 6; (with_reducible refine (awake_any _).mono ?_); rintro e w7 ⟨rfl, hb⟩; have HB7 := Lib.hid (bch HB6.out hb); clear hb))
    go_ret
    exact ⟨rfl, HB7.out⟩
end Go.Proofs.Ytmcfnlfaclkbhaa
