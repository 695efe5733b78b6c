/-
  WHAT THE DOCUMENT'S ANSWERS OF LAYER 11 (record) ANSWER: the reference's Bytes, Encode. No condition of ours but a bound on the data's length.
-/
import Derived.Test.YtnnkaddgbcdehaaRecRef
namespace Go.Proofs.Ytnnkaddgbcdehaa
open Go.RowKit
theorem own_two {w : World} {b : Nat} {k c : Int} (h : w.heap.size = b) : (w.alloc (.cells #[.int .u8 k, .int .u8 c] 5)).ownsRow b 5 1 (.slice (some ⟨b, 0, none⟩) 2 2) 2 (il .u8 [k, c]) := by
  subst h
  exact World.ownsRow_lit w #[.int .u8 k, .int .u8 c] 2 (Nat.le_refl _) (by unfold maxLen; omega) rfl
theorem own_len {w : World} {base : Nat} {e : TypeId} {v : Value} {n m : Nat} {xs ys : List Int} (h : w.ownsRow base e 1 v n (il .u8 xs)) (hx : xs = ys) (hm : ys.length = m) : w.ownsRow base e 1 v m (il .u8 ys) := by
  subst hx
  have h1 := h.1
  rw [il_length] at h1
  rw [show m = n from by omega]
  exact h
theorem u8_in {k : Int} (h0 : 0 ≤ k) (h1 : k ≤ 255) : IntKind.u8.wrap k = k := by simp [IntKind.wrap, IntKind.signed, IntKind.bits]; omega
set_option maxRecDepth 8000 in
set_option maxHeartbeats 2000000 in
theorem rrbytes_any (k c l p : Int) (v : Value) (n : Nat) (d : List Int) (w : World) (hr : recOk k c l p = true) (hri : RI .u8 w v n d) (hn : (n : Int) ≤ 150000000000000) :
    Calls Try.prog 11 #[.agg (rA k c l p v)] w fun e w' => ∃ v', e = .returned v' ∧ w'.ownsRow w.heap.size 5 1 v' (recH k c l p ++ d).length (il .u8 (recH k c l p ++ d)) ∧ Below w.heap.size w w' := by
  have hp := ok_parts hr
  obtain ⟨q, hq⟩ : ∃ q, (recH k c l p ++ d).length = q := ⟨_, rfl⟩
  obtain ⟨ln, rfl⟩ : ∃ ln : Nat, l = ln := ⟨l.toNat, by omega⟩
  obtain ⟨m, hm⟩ : ∃ m : Nat, (ln : Int) - p = m := ⟨((ln : Int) - p).toNat, by omega⟩
  have hsub : wrap64 ((ln : Int) - p) = (m : Int) := by rw [IntWalk.wrap64_in _ (by omega)]; exact hm
  have hwk := u8_in (k := k) (by omega) (by omega)
  have hwc := u8_in (k := c) (by omega) (by omega)
  have hvl := vb_len ln (by omega)
  have hvm := vb_len m (by omega)
  have HQ : Hid ([k, c] ++ vb ln ++ vb m ++ d = recH k c ln p ++ d ∧ (recH k c ln p ++ d).length = q) := Lib.hid ⟨by unfold recH; rw [hm]; simp, hq⟩
  have HV := Lib.hid (And.intro hvl hvm)
  have HA := Lib.hid (RO.alloc (k := k) (c := c) (l := ln) (p := p) (v := v) w)
  have HB := Lib.hid (balloc w (.cells (rA k c ln p v) 24))
  have HR := Lib.hid (hri.keep HB.out)
  obtain ⟨a, cap, rfl⟩ : ∃ a cap, v = .slice a n cap := by obtain ⟨a, c, e, _⟩ := hri; exact ⟨a, c, e⟩
  have hln : (ln : Int) ≤ 2147483647 := by omega
  have hmn : (m : Int) ≤ 2147483647 := by omega
  rw [hq]
  clear hr hri hp hq hm hvl hvm
  go_enter Try.func11, Try.ntmps11
  go_wp2_with (first
    | (go_at_call 21; (with_reducible refine (rput_any m (by omega) _ (2 + (vb ln).length) ([k, c] ++ vb ln) _ (RI.own HO1.out) (by have := HV.out; omega)).mono ?_); rintro e w2 ⟨v2, rfl, ho2, hb2⟩; have HO2 := Lib.hid (own_mono ho2 HB1.out.size); have HB2 := Lib.hid (bch HB1.out hb2); have HR2 := Lib.hid (HR1.out.keep hb2); obtain ⟨x0, x1, x2, x3, x4⟩ := (HA1.out.keep hb2).cells; clear ho2 hb2)
    | (go_at_call 21; go_loud (with_reducible refine (rput_any ln (by omega) _ 2 [k, c] _ (RI.own (own_two (by simp))) (by omega)).mono ?_); rintro e w1 ⟨v1, rfl, ho1, hb1⟩; have HB1 := Lib.hid (bch HB.out (bch (balloc _ _) hb1)); have HO1 := Lib.hid (own_mono ho1 (base' := w.heap.size) (by simp; omega)); have HA1 := Lib.hid (HA.out.keep (bch (balloc _ _) hb1)); have HR1 := Lib.hid (HR.out.keep (bch (balloc _ _) hb1)); obtain ⟨z0, z1, z2, z3, z4⟩ := HA1.out.cells; clear ho1 hb1)
    | (at_builtin; refine wpl_appn rfl (.tmp 23) (.tmp 25) 22 rfl 5 .u8 1 Try.underlying22 Try.info_u8 w.heap.size _ (2 + (vb ln).length + (vb m).length) ([k, c] ++ vb ln ++ vb m) rfl HO2 _ n d rfl HR2 (by have := HV.out; omega) (by have := HV.out; omega) w.heap.size w HB2 (Nat.le_refl _) HB2.out.size ?_; intro v3 w3 HO3 HB3))
  go_ret
  exact ⟨_, rfl, own_len HO3.out HQ.out.1 HQ.out.2, HB3.out⟩
set_option maxRecDepth 8000 in
set_option maxHeartbeats 2000000 in
theorem rrenc_right (k c l p : Int) (v : Value) (n : Nat) (d : List Int) (w : World) (hr : recOk k c l p = true) (hri : RI .u8 w v n d) (hn : (n : Int) ≤ 150000000000000) (hs : (recH k c l p ++ d).length ≤ 512) :
    Calls Try.prog 7 #[.agg (rA k c l p v)] w fun e w' => ∃ v', e = .returned (.tuple #[v', .int .i64 0]) ∧ w'.ownsRow w.heap.size 5 1 v' (recH k c l p ++ d).length (il .u8 (recH k c l p ++ d)) ∧ Below w.heap.size w w' := by
  obtain ⟨q, hq⟩ : ∃ q, (recH k c l p ++ d).length = q := ⟨_, rfl⟩
  rw [hq] at hs ⊢
  have hs2 : ¬ (512 : Int) < (q : Int) := by omega
  have HX : Hid (∀ w, RI .u8 w v n d → Calls Try.prog 11 #[.agg (rA k c l p v)] w fun e w' => ∃ a cap, e = .returned (.slice a q cap) ∧ w'.ownsRow w.heap.size 5 1 (.slice a q cap) q (il .u8 (recH k c l p ++ d)) ∧ Below w.heap.size w w') := Lib.hid fun w h =>
    (rrbytes_any k c l p v n d w hr h hn).mono fun _ _ ⟨v', he, ho, hb⟩ => by
      rw [hq] at ho
      obtain ⟨a, cap, rfl⟩ := own_form ho
      exact ⟨a, cap, he, ho, hb⟩
  have HO : Hid (∀ w, Calls Try.prog 9 #[.agg (rA k c l p v)] w fun e w' => e = .returned (.bool true) ∧ Below w.heap.size w w') := Lib.hid fun w => by rw [← hr]; exact rrecok_any k c l p v w
  have HA := Lib.hid (RO.alloc (k := k) (c := c) (l := l) (p := p) (v := v) w)
  have HB := Lib.hid (balloc w (.cells (rA k c l p v) 24))
  have HR := Lib.hid (hri.keep HB.out)
  clear hr hri hn hs hq
  go_enter Try.func7, Try.ntmps7
  go_wp2_with (first
    | (go_at_call 9; (with_reducible refine (HO.out _).mono ?_); rintro e w1 ⟨rfl, hb1⟩; have HA1 := Lib.hid (HA.out.keep hb1); have HR1 := Lib.hid (HR.out.keep hb1); have HB1 := Lib.hid (bch HB.out hb1); clear hb1)
    | (go_at_call 11; (with_reducible refine (HX.out _ HR2.out).mono ?_); rintro e w3 ⟨a3, c3, rfl, ho3, hb3⟩; have HO3 := Lib.hid (own_mono ho3 HB2.out.size); have HB3 := Lib.hid (bch HB2.out hb3); clear ho3 hb3)
    | (go_at_call 11; (with_reducible refine (HX.out _ HR1.out).mono ?_); rintro e w2 ⟨a2, c2, rfl, ho2, hb2⟩; have HA2 := Lib.hid (HA1.out.keep hb2); have HR2 := Lib.hid (HR1.out.keep hb2); have HB2 := Lib.hid (bch HB1.out hb2); clear ho2 hb2)
    | (refine wpl_load_rec rfl (.tmp 1) rfl rfl HA2.out ?_)
    | (refine wpl_load_rec rfl (.tmp 1) rfl rfl HA1.out ?_)
    | (refine wpl_load_rec rfl (.tmp 1) rfl rfl HA.out ?_))
  go_ret2
  exact ⟨_, rfl, HO3.out, HB3.out⟩
set_option maxRecDepth 8000 in
set_option maxHeartbeats 2000000 in
theorem rrenc_long (k c l p : Int) (v : Value) (n : Nat) (d : List Int) (w : World) (hr : recOk k c l p = true) (hri : RI .u8 w v n d) (hn : (n : Int) ≤ 150000000000000) (hs : 512 < (recH k c l p ++ d).length) :
    Calls Try.prog 7 #[.agg (rA k c l p v)] w fun e w' => e = .returned (.tuple #[.slice none 0 0, .int .i64 5]) ∧ Below w.heap.size w w' := by
  obtain ⟨q, hq⟩ : ∃ q, (recH k c l p ++ d).length = q := ⟨_, rfl⟩
  rw [hq] at hs
  have hs2 : (512 : Int) < (q : Int) := by omega
  have HX : Hid (∀ w, RI .u8 w v n d → Calls Try.prog 11 #[.agg (rA k c l p v)] w fun e w' => ∃ a cap, e = .returned (.slice a q cap) ∧ Below w.heap.size w w') := Lib.hid fun w h =>
    (rrbytes_any k c l p v n d w hr h hn).mono fun _ _ ⟨v', he, ho, hb⟩ => by
      rw [hq] at ho
      obtain ⟨a, cap, rfl⟩ := own_form ho
      exact ⟨a, cap, he, hb⟩
  have HO : Hid (∀ w, Calls Try.prog 9 #[.agg (rA k c l p v)] w fun e w' => e = .returned (.bool true) ∧ Below w.heap.size w w') := Lib.hid fun w => by rw [← hr]; exact rrecok_any k c l p v w
  have HA := Lib.hid (RO.alloc (k := k) (c := c) (l := l) (p := p) (v := v) w)
  have HB := Lib.hid (balloc w (.cells (rA k c l p v) 24))
  have HR := Lib.hid (hri.keep HB.out)
  clear hr hri hn hs hq
  go_enter Try.func7, Try.ntmps7
  go_wp2_with (first
    | (go_at_call 9; (with_reducible refine (HO.out _).mono ?_); rintro e w1 ⟨rfl, hb1⟩; have HA1 := Lib.hid (HA.out.keep hb1); have HR1 := Lib.hid (HR.out.keep hb1); have HB1 := Lib.hid (bch HB.out hb1); clear hb1)
    | (go_at_call 11; (with_reducible refine (HX.out _ HR1.out).mono ?_); rintro e w2 ⟨a2, c2, rfl, hb2⟩; have HB2 := Lib.hid (bch HB1.out hb2); clear hb2)
    | (refine wpl_load_rec rfl (.tmp 1) rfl rfl HA1.out ?_)
    | (refine wpl_load_rec rfl (.tmp 1) rfl rfl HA.out ?_))
  go_ret2
  exact ⟨rfl, HB2.out⟩
set_option maxRecDepth 8000 in
set_option maxHeartbeats 2000000 in
theorem rrenc_wrong (k c l p : Int) (v : Value) (w : World) (hr : recOk k c l p = false) :
    Calls Try.prog 7 #[.agg (rA k c l p v)] w fun e w' => e = .returned (.tuple #[.slice none 0 0, .int .i64 13]) ∧ Below w.heap.size w w' := by
  have HO : Hid (∀ w, Calls Try.prog 9 #[.agg (rA k c l p v)] w fun e w' => e = .returned (.bool false) ∧ Below w.heap.size w w') := Lib.hid fun w => by rw [← hr]; exact rrecok_any k c l p v w
  have HA := Lib.hid (RO.alloc (k := k) (c := c) (l := l) (p := p) (v := v) w)
  have HB := Lib.hid (balloc w (.cells (rA k c l p v) 24))
  clear hr
  go_enter Try.func7, Try.ntmps7
  go_wp2_with (first
    | (go_at_call 9; (with_reducible refine (HO.out _).mono ?_); rintro e w1 ⟨rfl, hb1⟩; have HB1 := Lib.hid (bch HB.out hb1); clear hb1)
    | (refine wpl_load_rec rfl (.tmp 1) rfl rfl HA.out ?_))
  go_ret2
  exact ⟨rfl, HB1.out⟩
end Go.Proofs.Ytnnkaddgbcdehaa
