/-
  WHAT THE DOCUMENT'S ANSWERS OF LAYER 13 (frag) ANSWER: the reference's Right, Same, Bytes. No condition of ours but bounds that the statements themselves have.
-/
import Derived.Test.YtkomlapgjblnlaaDoorFragBlk
import Derived.Test.YtkomlapgjblnlaaDoorFragMath
import Derived.Test.YtkomlapgjblnlaaDoorPut
namespace Go.Proofs.YtkomlapgjblnlaaDoor
open Go.RowKit
set_option maxRecDepth 8000 in
set_option maxHeartbeats 1000000 in
theorem rfright_any (k e : Int) (a : Option Addr) (n cap : Nat) (w : World) :
    Calls Tryd.prog 7 #[.agg (fA k e (.slice a n cap))] w fun r w' => r = .returned (.bool (fragOk k n)) ∧ Below w.heap.size w w' := by
  cases hr : fragOk k n with
  | true =>
    obtain ⟨h1, h2, h3⟩ := fok_parts hr
    have h3' : (n : Int) ≤ 197 := by omega
    clear hr
    go_enter Tryd.func7, Tryd.ntmps7
    go_wp2
    go_ret
    exact ⟨rfl, balloc _ _⟩
  | false =>
    have hn : ¬ (1 ≤ k ∧ k ≤ 4 ∧ n ≤ 197) := of_decide_eq_false hr
    clear hr
    rcases (by omega : k < 1 ∨ (1 ≤ k ∧ 4 < k) ∨ (1 ≤ k ∧ k ≤ 4 ∧ 197 < (n : Int))) with h | ⟨h1, h⟩ | ⟨h1, h2, h⟩
    all_goals
      clear hn
      go_enter Tryd.func7, Tryd.ntmps7
      go_wp2
      go_ret
      refine ⟨?_, balloc _ _⟩
      first
        | rfl
        | exact ret_bool (decide_eq_false (by omega))
theorem fr_same (k e : Int) (d : List Int) (k' e' : Int) (d' : List Int) : decide ((⟨k, e, d⟩ : FR) = ⟨k', e', d'⟩) = (decide (k = k') && (decide (e = e') && decide (d = d'))) := by
  rw [Bool.eq_iff_iff]; simp [FR.mk.injEq]
set_option maxRecDepth 8000 in
set_option maxHeartbeats 2000000 in
theorem rfsame_any (k e : Int) (v : Value) (n : Nat) (d : List Int) (k' e' : Int) (v' : Value) (n' : Nat) (d' : List Int) (w : World) (h1 : RI .u8 w v n d) (h2 : RI .u8 w v' n' d') (hb1 : isB d) (hb2 : isB d') :
    Calls Tryd.prog 12 #[.agg (fA k e v), .agg (fA k' e' v')] w fun r w' => r = .returned (.bool (decide ((⟨k, e, d⟩ : FR) = ⟨k', e', d'⟩))) ∧ Below w.heap.size w w' := by
  rw [fr_same]
  by_cases hk : k = k'
  · subst hk
    by_cases hc : e = e'
    · subst hc
      have q1 := conv_ri (h1.keep (fbelow2 w (.cells (fA k e v) 25) (.cells (fA k e v') 25)))
      have q2 := conv_ri (h2.keep (fbelow2 w (.cells (fA k e v) 25) (.cells (fA k e v') 25)))
      obtain ⟨a, m, rfl, _⟩ := h1
      obtain ⟨a', m', rfl, _⟩ := h2
      by_cases hd : d = d'
      · subst hd
        rw [show (decide (k = k) && (decide (e = e) && decide (d = d))) = true from by simp]
        clear hb1 hb2
        go_enter Tryd.func12, Tryd.ntmps12
        go_wp2
        go_ret
        exact ⟨rfl, fbelow2 _ _ _⟩
      · rw [show (decide (k = k) && (decide (e = e) && decide (d = d'))) = false from by simp [hd]]
        have hs : ¬ strOfNums d = strOfNums d' := fun e => hd (strOfNums_inj hb1 hb2 e)
        have hs2 := str_ne hs
        clear hb1 hb2
        go_enter Tryd.func12, Tryd.ntmps12
        go_wp2
        go_ret
        exact ⟨rfl, fbelow2 _ _ _⟩
    · rw [show (decide (k = k) && (decide (e = e') && decide (d = d'))) = false from by simp [hc]]
      have hq : (e == e') = false := by simpa using hc
      clear h1 h2 hb1 hb2
      go_enter Tryd.func12, Tryd.ntmps12
      go_wp2
      go_ret
      exact ⟨rfl, fbelow2 _ _ _⟩
  · rw [show (decide (k = k') && (decide (e = e') && decide (d = d'))) = false from by simp [hk]]
    have hq : (k == k') = false := by simpa using hk
    clear h1 h2 hb1 hb2
    go_enter Tryd.func12, Tryd.ntmps12
    go_wp2
    go_ret
    exact ⟨rfl, fbelow2 _ _ _⟩
/-- the reference's Put, as a row of the call's own -/
theorem rput_own (x : Int) (n : Nat) (hx : U64 x) (hn : n ≤ 8) (w : World) :
    Calls Tryd.prog 18 #[.int .u64 x, .int .i64 n] w fun e w' => ∃ a c, e = .returned (.slice a n c) ∧ w'.ownsRow w.heap.size 5 1 (.slice a n c) n (il .u8 (putL x n)) ∧ Below w.heap.size w w' :=
  (rput_any x n n hx (by unfold I63; omega) (by unfold clampI; omega) w).mono fun _ _ ⟨v, he, ho, hb⟩ => by
    obtain ⟨a, c, rfl⟩ := own_form ho
    exact ⟨a, c, he, ho, hb⟩
theorem u8_fit {k : Int} (h0 : 0 ≤ k) (h1 : k ≤ 255) : IntKind.u8.wrap k = k := by simp [IntKind.wrap, IntKind.signed, IntKind.bits]; omega
set_option maxRecDepth 8000 in
set_option maxHeartbeats 2000000 in
theorem rfbytes_any (k e : Int) (v : Value) (n : Nat) (d : List Int) (w : World) (hr : fragOk k n = true) (he : 0 ≤ e ∧ e ≤ 4294967295) (hri : RI .u8 w v n d) (hbd : isB d) :
    Calls Tryd.prog 9 #[.agg (fA k e v)] w fun r w' => ∃ a c, r = .returned (.slice a (11 + n) c) ∧ w'.ownsRow w.heap.size 5 1 (.slice a (11 + n) c) (11 + n) (il .u8 (fragB k e d)) ∧ Below w.heap.size w w' := by
  have hp := fok_parts hr
  have hd := hri.length
  obtain ⟨he0, he1⟩ := he
  have hwk := u8_fit (k := k) (by omega) (by omega)
  obtain ⟨o, ho⟩ : ∃ o, ofS (fragT k e d) = o := ⟨_, rfl⟩
  obtain ⟨m, hm⟩ : ∃ m, maskS o = m := ⟨_, rfl⟩
  have hm9 : m < 4294967296 := by rw [← hm]; exact maskS_lt o
  have HO := Lib.hid ho
  have HOL : Hid (o < 4294967296) := Lib.hid (by rw [← ho]; exact ofS_lt _)
  have HM := Lib.hid hm
  have HFB : Hid (putL m 4 ++ fragT k e d = fragB k e d ∧ (fragB k e d).length = 11 + n) := Lib.hid ⟨by unfold fragB fragS; rw [ho, hm], by rw [fragB_length, hd]⟩
  have HT : Hid (putL n 2 ++ [k] ++ putL e 4 ++ d = fragT k e d ∧ (fragT k e d).length = 7 + n) := Lib.hid ⟨by unfold fragT fragK; rw [hd], by rw [fragT_length, hd]⟩
  have HTB : Hid (∀ x ∈ fragT k e d, 0 ≤ x ∧ x ≤ 255) := Lib.hid (fragT_bytes (by omega) e hbd)
  have HP1 : Hid (∀ w, Calls Tryd.prog 18 #[.int .u64 n, .int .i64 2] w fun e w' => ∃ a c, e = .returned (.slice a 2 c) ∧ w'.ownsRow w.heap.size 5 1 (.slice a 2 c) 2 (il .u8 (putL n 2)) ∧ Below w.heap.size w w') := Lib.hid (rput_own n 2 (by unfold U64; omega) (by omega))
  have HP2 : Hid (∀ w, Calls Tryd.prog 18 #[.int .u64 e, .int .i64 4] w fun e' w' => ∃ a c, e' = .returned (.slice a 4 c) ∧ w'.ownsRow w.heap.size 5 1 (.slice a 4 c) 4 (il .u8 (putL e 4)) ∧ Below w.heap.size w w') := Lib.hid (rput_own e 4 (by unfold U64; omega) (by omega))
  have HP3 : Hid (∀ w, Calls Tryd.prog 18 #[.int .u64 m, .int .i64 4] w fun e' w' => ∃ a c, e' = .returned (.slice a 4 c) ∧ w'.ownsRow w.heap.size 5 1 (.slice a 4 c) 4 (il .u8 (putL m 4)) ∧ Below w.heap.size w w') := Lib.hid (rput_own m 4 (by unfold U64; omega) (by omega))
  obtain ⟨w0, hw0⟩ : ∃ q, w.alloc (.cells (fA k e v) 25) = q := ⟨_, rfl⟩
  have HA : Hid (FO w0 w.heap.size k e v) := Lib.hid (by rw [← hw0]; exact FO.alloc w)
  have HB : Hid (Below w.heap.size w w0) := Lib.hid (by rw [← hw0]; exact balloc w _)
  have HR := Lib.hid (hri.keep HB.out)
  have HN : Hid (n ≤ 197) := Lib.hid hp.2.2
  obtain ⟨a, cap, rfl⟩ : ∃ a cap, v = .slice a n cap := by obtain ⟨a, c, e, _⟩ := hri; exact ⟨a, c, e⟩
  obtain ⟨z0, z1, z2⟩ := HA.out.cells
  have hn9 : (n : Int) ≤ 197 := by omega
  have hm8 : (m : Int) ≤ 4294967295 := by omega
  clear hr hri hp hd ho hm hm9 hbd
  go_enter Tryd.func9, Tryd.ntmps9
  go_wp2_with (first
    | (go_at_call 18; (with_reducible refine (HP1.out _).mono ?_); rintro r w1 ⟨a1, c1, rfl, ho1, hb1⟩; have HO1 := Lib.hid ho1; have HB1 := Lib.hid hb1; obtain ⟨x0, x1, x2⟩ := (HA.out.keep hb1).cells; clear ho1 hb1)
    | (at_builtin; refine wpl_appn rfl (.tmp 29) (.tmp 30) 23 rfl 5 .u8 1 Tryd.underlying23 Tryd.info_u8 w5.heap.size _ 4 (putL m 4) rfl HO6 _ (7 + n) (fragT k e d) rfl ((RI.own HO5F.out).keep HB6.out) (by have := HN.out; omega) (by have := HN.out; omega) w5.heap.size w5 HB6 (Nat.le_refl _) HB6.out.size ?_; intro v7 w7 HO7 HB7)
    | (at_builtin; refine wpl_appn rfl (.tmp 21) (.tmp 23) 23 rfl 5 .u8 1 Tryd.underlying23 Tryd.info_u8 w0.heap.size _ (2 + 1 + 4) (putL n 2 ++ [k] ++ putL e 4) rfl HO4 _ n d rfl (HR.out.keep HB4.out) (by have := HN.out; omega) (by have := HN.out; omega) w0.heap.size w0 HB4 (Nat.le_refl _) HB4.out.size ?_; intro v5 w5 HO5 HB5; have HO5F := Lib.hid (own_fin HO5.out HT.out.1 HT.out.2))
    | (at_builtin; refine wpl_appn rfl (.tmp 15) (.tmp 19) 23 rfl 5 .u8 1 Tryd.underlying23 Tryd.info_u8 w0.heap.size _ (2 + 1) (putL n 2 ++ [k]) rfl HO2K _ 4 (putL e 4) rfl (RI.own HO3.out) (by omega) (by omega) w0.heap.size w0 HB3 (Nat.le_refl _) HB3.out.size ?_; intro v4 w4 HO4 HB4; obtain ⟨q0, q1, q2⟩ := (HA.out.keep HB4.out).cells)
    | (at_builtin; refine wpl_app1 rfl (.tmp 9) (.tmp 13) 23 rfl 5 .u8 1 Tryd.underlying23 Tryd.info_u8 w0.heap.size _ 2 (putL n 2) rfl (Lib.hid (HO1.out.alloc _)) ⟨w1.heap.size, 0, none⟩ k rfl (alloc_cell w1 _ _) (by omega) (by omega) w0.heap.size w0 (Lib.hid (bch HB1.out (balloc _ _))) (Nat.le_refl _) (by have := HB1.out.size; simp; omega) ?_; intro v2 w2 HO2 HB2; obtain ⟨y0, y1, y2⟩ := (HA.out.keep HB2.out).cells)
    | (go_at_call 18; (with_reducible refine (HP2.out _).mono ?_); rintro r w3 ⟨a3, c3, rfl, ho3, hb3⟩; have HO2K := Lib.hid (own_keep HO2.out hb3); have HO3 := Lib.hid ho3; have HB3 := Lib.hid (bch HB2.out hb3); clear ho3 hb3)
    | (go_at_call 20; (with_reducible refine (rof_any (RI.own HO5F.out) HTB.out HO.out).mono ?_); rintro e w' ⟨rfl, rfl⟩)
    | (go_at_call 19; (with_reducible refine (rmask_at o m HOL.out HM.out _).mono ?_); rintro e w' ⟨rfl, rfl⟩)
    | (go_at_call 18; (with_reducible refine (HP3.out _).mono ?_); rintro r w6 ⟨a6, c6, rfl, ho6, hb6⟩; have HO6 := Lib.hid ho6; have HB6 := Lib.hid hb6; clear ho6 hb6))
  go_ret
  have h7 := own_fin HO7.out HFB.out.1 HFB.out.2
  obtain ⟨a7, c7, rfl⟩ := own_form h7
  have hb5 := bch HB.out HB5.out
  exact ⟨a7, c7, rfl, own_mono h7 hb5.size, bch hb5 HB7.out⟩
end Go.Proofs.YtkomlapgjblnlaaDoor
