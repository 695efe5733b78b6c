/-
  THE WALK OF THE LAW ImageBodies: whatever epoch and records come in: the call returns true and changes nothing that was there.
-/
import Derived.Test.YtjlnceldnbpapaaDoorImgB
import Derived.Test.YtjlnceldnbpapaaDoorImgSecs
import Derived.Test.YtjlnceldnbpapaaDoorImgRefL
import Derived.Test.YtjlnceldnbpapaaDoorSame
namespace Go.Proofs.YtjlnceldnbpapaaDoor
open Go.RowKit
theorem places_yes {w : World} {ls : List (List Int)} {N : Nat} {fn : Nat} {args : Array Value} (h : Calls Tryd.prog fn args w (PlF w ls N)) (hf : fitsF ls = true) :
    Calls Tryd.prog fn args w fun e w' => ∃ a c, e = .returned (.tuple #[.slice a N c, .bool true]) ∧ w'.ownsRow w.heap.size 3 1 (.slice a N c) N (il .i64 (placesF ls)) ∧ Below w.heap.size w w' :=
  h.mono fun e w' h => by
    rcases h with ⟨_, h⟩ | ⟨h, _⟩
    · exact h
    · rw [hf] at h; cases h
theorem places_not {w : World} {ls : List (List Int)} {N : Nat} {fn : Nat} {args : Array Value} (h : Calls Tryd.prog fn args w (PlF w ls N)) (hf : fitsF ls = false) :
    Calls Tryd.prog fn args w fun e w' => e = .returned (.tuple #[.slice none 0 0, .bool false]) ∧ Below w.heap.size w w' :=
  h.mono fun e w' h => by
    rcases h with ⟨h, _⟩ | ⟨_, h⟩
    · rw [hf] at h; cases h
    · exact h
theorem secs_yes {w : World} {ls : List (List Int)} {ep : Int} {fn : Nat} {args : Array Value} (h : Calls Tryd.prog fn args w (SecF w ls ep)) (hf : fitsF ls = true) :
    Calls Tryd.prog fn args w fun e w' => ∃ v, e = .returned (.tuple #[v, .bool true]) ∧ FS w' v 16 (wholeK ep (bodyF (ep % 4294967296) ls) (touchN 0 (endF ls)).2 16) ∧ Below w.heap.size w w' :=
  h.mono fun e w' h => by
    rcases h with ⟨_, h⟩ | ⟨h, _⟩
    · exact h
    · rw [hf] at h; cases h
theorem secs_not {w : World} {ls : List (List Int)} {ep : Int} {fn : Nat} {args : Array Value} (h : Calls Tryd.prog fn args w (SecF w ls ep)) (hf : fitsF ls = false) :
    Calls Tryd.prog fn args w fun e w' => e = .returned (.tuple #[.slice none 0 0, .bool false]) ∧ Below w.heap.size w w' :=
  h.mono fun e w' h => by
    rcases h with ⟨h, _⟩ | ⟨_, h⟩
    · rw [hf] at h; cases h
    · exact h
theorem same_none (w : World) : Calls Tryd.prog 13 #[.slice none 0 0, .slice none 0 0] w fun e w' => e = .returned (.bool true) ∧ Below w.heap.size w w' := by
  have h : FS w (.slice none 0 0) 0 [] := ⟨none, 0, rfl, rfl, Nat.le_refl _, by omega, fun _ => rfl, fun h => absurd h (by omega)⟩
  exact same_true _ _ 0 [] w h h
set_option maxRecDepth 8000 in
set_option maxHeartbeats 8000000 in
theorem bodies_walk (ep : Int) (hep : U64 ep) (lv : Value) (N : Nat) (ls : List (List Int)) (hlb : ∀ l ∈ ls, isB l) (W : World) (ht : Tab W) (hrl : RL .u8 W lv N ls) :
    Calls Tryd.prog 3 #[.int .u64 ep, lv] W fun e w' => e = .returned (.bool true) ∧ Below W.heap.size W w' := by
  obtain ⟨la, lc, rfl, _⟩ := hrl.form
  have HFW : Hid (∀ w, Calls Tryd.prog 6 #[.slice la N lc] w fun e w' => e = .returned (.bool (decide (N ≤ 100))) ∧ w = w') := Lib.hid fun w => few_any la N lc w
  by_cases hN : N ≤ 100
  · rw [decide_eq_true hN] at HFW
    have HT := Lib.hid ht
    have HRL := Lib.hid hrl
    have HBL := Lib.hid (bodyF_len (ep % 4294967296) ls)
    have HPL := Lib.hid ((placesF_len ls).trans hrl.length)
    have HB0 : Hid (∀ w, Tab w → RL .u8 w (.slice la N lc) N ls → Calls Tryd.prog 8 #[.int .u64 ep, .slice la N lc] w (BodyF w ls (ep % 4294967296))) := Lib.hid fun w q1 q2 => body_any ep _ N ls hlb w q1 q2
    have HL0 : Hid (∀ w, RL .u8 w (.slice la N lc) N ls → Calls Tryd.prog 9 #[.int .u64 ep, .slice la N lc] w (LayF w ls (ep % 4294967296) N)) := Lib.hid fun w q => rlay_any ep hep _ N ls (by omega) hlb w q
    have HP0 : Hid (∀ w, RL .u8 w (.slice la N lc) N ls → Calls Tryd.prog 10 #[.slice la N lc] w (PlF w ls N)) := Lib.hid fun w q => places_any _ N ls (by omega) w q
    have HS0 : Hid (∀ w, Tab w → RL .u8 w (.slice la N lc) N ls → Calls Tryd.prog 11 #[.int .u64 ep, .slice la N lc] w (SecF w ls ep)) := Lib.hid fun w q1 q2 => sectors_any ep hep _ N ls hlb w q1 q2
    have HR0 : Hid (∀ w, RL .u8 w (.slice la N lc) N ls → Calls Tryd.prog 12 #[.int .u64 ep, .slice la N lc] w (SecF w ls ep)) := Lib.hid fun w q => rsectors_any ep hep _ N ls (by omega) hlb w q
    cases hf : fitsF ls with
    | true =>
      have HB1 : Hid (∀ w, Tab w → RL .u8 w (.slice la N lc) N ls → Calls Tryd.prog 8 #[.int .u64 ep, .slice la N lc] w _) := Lib.hid fun w q1 q2 => body_yes (HB0.out w q1 q2) hf
      have HL1 : Hid (∀ w, RL .u8 w (.slice la N lc) N ls → Calls Tryd.prog 9 #[.int .u64 ep, .slice la N lc] w _) := Lib.hid fun w q => lay_yes (HL0.out w q) hf
      have HP1 : Hid (∀ w, RL .u8 w (.slice la N lc) N ls → Calls Tryd.prog 10 #[.slice la N lc] w _) := Lib.hid fun w q => places_yes (HP0.out w q) hf
      have HS1 : Hid (∀ w, Tab w → RL .u8 w (.slice la N lc) N ls → Calls Tryd.prog 11 #[.int .u64 ep, .slice la N lc] w _) := Lib.hid fun w q1 q2 => secs_yes (HS0.out w q1 q2) hf
      have HR1 : Hid (∀ w, RL .u8 w (.slice la N lc) N ls → Calls Tryd.prog 12 #[.int .u64 ep, .slice la N lc] w _) := Lib.hid fun w q => secs_yes (HR0.out w q) hf
      generalize wholeK ep (bodyF (ep % 4294967296) ls) (touchN 0 (endF ls)).2 16 = fs at *
      generalize bodyF (ep % 4294967296) ls = bd at *
      generalize endF ls = en at *
      generalize placesF ls = pl at *
      obtain ⟨s1, hs1⟩ : ∃ s, strOfNums bd = s := ⟨_, rfl⟩
      have HS := Lib.hid hs1
      clear hep hlb ht hrl HB0 HL0 HP0 HS0 HR0 hf hs1
      go_enter Tryd.func3, Tryd.ntmps3
      go_wp2_with (first
        | (go_at_call 6; (with_reducible refine (HFW.out _).mono ?_); rintro e w0 ⟨rfl, rfl⟩)
        | (go_at_call 8; (with_reducible refine (HB1.out _ HT.out HRL.out).mono ?_); rintro e w1 ⟨g1, rfl, hy, _, hb⟩; have HY1 := Lib.hid hy; have HW1 := Lib.hid hb; have HRL1 := Lib.hid (HRL.out.keep hb); have HT1 := Lib.hid (HT.out.keep hb); clear hy hb)
        | (go_at_call 9; (with_reducible refine (HL1.out _ HRL1.out).mono ?_); rintro e w2 ⟨g2, pa, pc, rfl, hy, ho, hb⟩; have HW2 := Lib.hid (bch HW1.out hb); have k2 := conv_ri ((HY1.out.keep hb).ri HBL.out (by omega)); have k3 := conv_ri (hy.ri HBL.out (by omega)); rw [HS.out] at k2 k3; have HO2 := Lib.hid ho; have HRL2 := Lib.hid (HRL1.out.keep hb); have HT2 := Lib.hid (HT1.out.keep hb); clear hy ho hb)
        | (go_at_call 10; (with_reducible refine (HP1.out _ HRL2.out).mono ?_); rintro e w3 ⟨qa, qc, rfl, ho, hb⟩; have HW3 := Lib.hid (bch HW2.out hb); have HO3 := Lib.hid ho; have HO2b := Lib.hid (own_keep HO2.out hb); have HRL3 := Lib.hid (HRL2.out.keep hb); have HT3 := Lib.hid (HT2.out.keep hb); clear ho hb))
      clear HB1 HL1 HP1 HO2 HRL1 HRL2 HT1 HT2 HW1 HW2 HY1
      go_loopw [14] (fun iv wr => ∃ k : Nat, iv = .int .i64 (k : Int) ∧ k ≤ N ∧ Hid (Below w3.heap.size w3 wr)) (fun iv _ => N - (intOf iv).toNat)
      case atStart => exact ⟨0, rfl, by omega, Lib.hid (Below.refl _ _)⟩
      case round =>
        obtain ⟨k, rfl, hk, HB⟩ := hrel
        by_cases hlt : (k : Int) < (N : Int)
        · obtain ⟨b1, o1, rfl, hc1⟩ := (RI.own HO3.out).at_ (by omega)
          obtain ⟨b2, o2, rfl, hc2⟩ := (RI.own HO2b.out).at_ (by omega)
          have HC1 := Lib.hid (hc1 k (by omega))
          have HC2 := Lib.hid (hc2 k (by omega))
          generalize pl.getD k 0 = y at *
          clear hc1 hc2
          go_wp2_with fail
          refine wp_region_held_drew (S := (fun w' => Below w3.heap.size w3 w')) (by kernel_rfl) (HB.out.drew) (fun hS => ?_)
          refine wpAnyH_take (i := 0) (oi := ({ dst := some 74, op := Op.move (Operand.tmp 12), type := 29, pos := "law.go:34", after := #[], guard := none } : Oper)) (v := ?_) rfl (by kernel_rfl) (by kernel_rfl) (by kernel_rfl) (fun _ _ _ h => h) (Or.inl ⟨by rfl, ?_⟩) hS ?_
          rotate_left
          · (intro w hSw; (try dsimp only at hSw); go_simp; try with_reducible rfl)
          (try simp only [Act.put, List.setIfInBounds_toArray, List.set_cons_zero, List.set_cons_succ])
          refine wpAnyH_take (i := 1) (oi := ({ dst := some 75, op := Op.move (Operand.tmp 14), type := 3, pos := "law.go:34", after := #[], guard := none } : Oper)) (v := ?_) rfl (by kernel_rfl) (by kernel_rfl) (by kernel_rfl) (fun _ _ _ h => h) (Or.inl ⟨by rfl, ?_⟩) hS ?_
          rotate_left
          · (intro w hSw; (try dsimp only at hSw); go_simp; try with_reducible rfl)
          (try simp only [Act.put, List.setIfInBounds_toArray, List.set_cons_zero, List.set_cons_succ])
          refine wpAnyH_take (i := 2) (oi := ({ dst := some 76, op := Op.indexAddr 29 (Operand.tmp 74) (Operand.tmp 75), type := 0, pos := "law.go:34", after := #[{ on := 0, ground := Ground.data }, { on := 1, ground := Ground.data }], guard := none } : Oper)) (v := ?_) rfl (by kernel_rfl) (by kernel_rfl) (by kernel_rfl) (fun _ _ _ h => h) (Or.inl ⟨by rfl, ?_⟩) hS ?_
          rotate_left
          · (intro w hSw; (try dsimp only at hSw); go_simp; try with_reducible rfl)
          (try simp only [Act.put, List.setIfInBounds_toArray, List.set_cons_zero, List.set_cons_succ])
          refine wpAnyH_take (i := 3) (oi := ({ dst := some 77, op := Op.load 3 (Operand.tmp 76), type := 3, pos := "law.go:34", after := #[{ on := 2, ground := Ground.data }], guard := none } : Oper)) (v := ?_) rfl (by kernel_rfl) (by kernel_rfl) (by kernel_rfl) (fun _ _ _ h => h) (Or.inl ⟨by rfl, ?_⟩) hS ?_
          rotate_left
          · (intro w hSw; (try dsimp only at hSw); have z := cell_keep hSw HC1.out; go_simp; try with_reducible rfl)
          (try simp only [Act.put, List.setIfInBounds_toArray, List.set_cons_zero, List.set_cons_succ])
          refine wpAnyH_take (i := 4) (oi := ({ dst := some 78, op := Op.move (Operand.tmp 9), type := 29, pos := "law.go:34", after := #[], guard := none } : Oper)) (v := ?_) rfl (by kernel_rfl) (by kernel_rfl) (by kernel_rfl) (fun _ _ _ h => h) (Or.inl ⟨by rfl, ?_⟩) hS ?_
          rotate_left
          · (intro w hSw; (try dsimp only at hSw); go_simp; try with_reducible rfl)
          (try simp only [Act.put, List.setIfInBounds_toArray, List.set_cons_zero, List.set_cons_succ])
          refine wpAnyH_take (i := 5) (oi := ({ dst := some 79, op := Op.move (Operand.tmp 14), type := 3, pos := "law.go:34", after := #[], guard := none } : Oper)) (v := ?_) rfl (by kernel_rfl) (by kernel_rfl) (by kernel_rfl) (fun _ _ _ h => h) (Or.inl ⟨by rfl, ?_⟩) hS ?_
          rotate_left
          · (intro w hSw; (try dsimp only at hSw); go_simp; try with_reducible rfl)
          (try simp only [Act.put, List.setIfInBounds_toArray, List.set_cons_zero, List.set_cons_succ])
          refine wpAnyH_take (i := 6) (oi := ({ dst := some 80, op := Op.indexAddr 29 (Operand.tmp 78) (Operand.tmp 79), type := 0, pos := "law.go:34", after := #[{ on := 4, ground := Ground.data }, { on := 5, ground := Ground.data }], guard := none } : Oper)) (v := ?_) rfl (by kernel_rfl) (by kernel_rfl) (by kernel_rfl) (fun _ _ _ h => h) (Or.inl ⟨by rfl, ?_⟩) hS ?_
          rotate_left
          · (intro w hSw; (try dsimp only at hSw); go_simp; try with_reducible rfl)
          (try simp only [Act.put, List.setIfInBounds_toArray, List.set_cons_zero, List.set_cons_succ])
          refine wpAnyH_take (i := 7) (oi := ({ dst := some 81, op := Op.load 3 (Operand.tmp 80), type := 3, pos := "law.go:34", after := #[{ on := 6, ground := Ground.data }], guard := none } : Oper)) (v := ?_) rfl (by kernel_rfl) (by kernel_rfl) (by kernel_rfl) (fun _ _ _ h => h) (Or.inl ⟨by rfl, ?_⟩) hS ?_
          rotate_left
          · (intro w hSw; (try dsimp only at hSw); have z := cell_keep hSw HC2.out; go_simp; try with_reducible rfl)
          (try simp only [Act.put, List.setIfInBounds_toArray, List.set_cons_zero, List.set_cons_succ])
          refine wpAnyH_take (i := 8) (oi := ({ dst := some 82, op := Op.binOp BinOp.neq 3 (Operand.tmp 77) (Operand.tmp 81) 3, type := 4, pos := "law.go:34", after := #[{ on := 3, ground := Ground.data }, { on := 7, ground := Ground.data }], guard := none } : Oper)) (v := ?_) rfl (by kernel_rfl) (by kernel_rfl) (by kernel_rfl) (fun _ _ _ h => h) (Or.inl ⟨by rfl, ?_⟩) hS ?_
          rotate_left
          · (intro w hSw; (try dsimp only at hSw); go_simp; try with_reducible rfl)
          (try simp only [Act.put, List.setIfInBounds_toArray, List.set_cons_zero, List.set_cons_succ])
          refine wpAnyH_done (by kernel_rfl) ?_ _
          have HS4 := Lib.hid hS
          clear hS
          go_wp2
          go_roundw
          case rel => exact ⟨k + 1, by go_num, by omega, HS4⟩
          case measure => simp [intOf]; omega
        · obtain rfl : k = N := by omega
          have HT4 := Lib.hid (HT3.out.keep HB.out)
          have HRL4 := Lib.hid (HRL3.out.keep HB.out)
          have HW4 := Lib.hid (bch HW3.out HB.out)
          go_wp2_with (first
            | (go_at_call 11; (with_reducible refine (HS1.out _ HT4.out HRL4.out).mono ?_); rintro e w5 ⟨v5, rfl, hs, hb⟩; have HF5 := Lib.hid hs; have HW5 := Lib.hid (bch HW4.out hb); have HRL5 := Lib.hid (HRL4.out.keep hb); clear hs hb)
            | (go_at_call 12; (with_reducible refine (HR1.out _ HRL5.out).mono ?_); rintro e w6 ⟨v6, rfl, hs, hb⟩; have HF6 := Lib.hid hs; have HF5b := Lib.hid (HF5.out.keep hb); have HW6 := Lib.hid (bch HW5.out hb); clear hs hb)
            | (go_at_call 13; (with_reducible refine (same_true _ _ 16 fs _ HF5b.out HF6.out).mono ?_); rintro e w7 ⟨rfl, hb⟩; have HW7 := Lib.hid (bch HW6.out hb); clear hb)
            | (go_at_call 7; (with_reducible refine (awake_any _).mono ?_); rintro e w9 ⟨rfl, hb⟩; have HB9 := Lib.hid (bch HW7.out hb); clear hb))
          go_ret
          exact ⟨rfl, HB9.out⟩
    | false =>
      have HB1 : Hid (∀ w, Tab w → RL .u8 w (.slice la N lc) N ls → Calls Tryd.prog 8 #[.int .u64 ep, .slice la N lc] w _) := Lib.hid fun w q1 q2 => body_not (HB0.out w q1 q2) hf
      have HL1 : Hid (∀ w, RL .u8 w (.slice la N lc) N ls → Calls Tryd.prog 9 #[.int .u64 ep, .slice la N lc] w _) := Lib.hid fun w q => lay_not (HL0.out w q) hf
      have HP1 : Hid (∀ w, RL .u8 w (.slice la N lc) N ls → Calls Tryd.prog 10 #[.slice la N lc] w _) := Lib.hid fun w q => places_not (HP0.out w q) hf
      have HS1 : Hid (∀ w, Tab w → RL .u8 w (.slice la N lc) N ls → Calls Tryd.prog 11 #[.int .u64 ep, .slice la N lc] w _) := Lib.hid fun w q1 q2 => secs_not (HS0.out w q1 q2) hf
      have HR1 : Hid (∀ w, RL .u8 w (.slice la N lc) N ls → Calls Tryd.prog 12 #[.int .u64 ep, .slice la N lc] w _) := Lib.hid fun w q => secs_not (HR0.out w q) hf
      clear hep hlb ht hrl HB0 HL0 HP0 HS0 HR0 hf HBL HPL
      go_enter Tryd.func3, Tryd.ntmps3
      go_wp2_with (first
        | (go_at_call 6; (with_reducible refine (HFW.out _).mono ?_); rintro e w0 ⟨rfl, rfl⟩)
        | (go_at_call 8; (with_reducible refine (HB1.out _ HT.out HRL.out).mono ?_); rintro e w1 ⟨rfl, hb⟩; have HW1 := Lib.hid hb; have HRL1 := Lib.hid (HRL.out.keep hb); have HT1 := Lib.hid (HT.out.keep hb); clear hb)
        | (go_at_call 9; (with_reducible refine (HL1.out _ HRL1.out).mono ?_); rintro e w2 ⟨rfl, hb⟩; have HW2 := Lib.hid (bch HW1.out hb); have k2 := conv_ri (RI.nil .u8 w2); have HRL2 := Lib.hid (HRL1.out.keep hb); have HT2 := Lib.hid (HT1.out.keep hb); clear hb)
        | (go_at_call 10; (with_reducible refine (HP1.out _ HRL2.out).mono ?_); rintro e w3 ⟨rfl, hb⟩; have HW3 := Lib.hid (bch HW2.out hb); have HRL3 := Lib.hid (HRL2.out.keep hb); have HT3 := Lib.hid (HT2.out.keep hb); clear hb))
      go_loopw [14] (fun iv wr => iv = .int .i64 0 ∧ wr = w3) (fun iv _ => 0)
      case atStart => exact ⟨rfl, rfl⟩
      case round =>
        obtain ⟨rfl, rfl⟩ := hrel
        go_wp2_with (first
          | (go_at_call 11; (with_reducible refine (HS1.out _ HT3.out HRL3.out).mono ?_); rintro e w5 ⟨rfl, hb⟩; have HW5 := Lib.hid (bch HW3.out hb); have HRL5 := Lib.hid (HRL3.out.keep hb); clear hb)
          | (go_at_call 12; (with_reducible refine (HR1.out _ HRL5.out).mono ?_); rintro e w6 ⟨rfl, hb⟩; have HW6 := Lib.hid (bch HW5.out hb); clear hb)
          | (go_at_call 13; (with_reducible refine (same_none _).mono ?_); rintro e w7 ⟨rfl, hb⟩; have HW7 := Lib.hid (bch HW6.out hb); clear hb)
          | (go_at_call 7; (with_reducible refine (awake_any _).mono ?_); rintro e w9 ⟨rfl, hb⟩; have HB9 := Lib.hid (bch HW7.out hb); clear hb))
        go_ret
        exact ⟨rfl, HB9.out⟩
  · rw [decide_eq_false hN] at HFW
    clear hep hlb ht hrl
    go_enter Tryd.func3, Tryd.ntmps3
    go_wp2_with (first
      | (go_at_call 6; (with_reducible refine (HFW.out _).mono ?_); rintro e w0 ⟨rfl, rfl⟩)
      | (go_at_call 7; (with_reducible refine (awake_any _).mono ?_); rintro e w9 ⟨rfl, hb⟩; have HB9 := Lib.hid hb; clear hb))
    go_ret
    exact ⟨rfl, HB9.out⟩
end Go.Proofs.YtjlnceldnbpapaaDoor
