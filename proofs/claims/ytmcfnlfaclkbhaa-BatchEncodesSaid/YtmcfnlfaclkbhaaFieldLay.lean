/-
  WHAT THE PROGRAM'S OWN lay OF LAYER 4 (field) ANSWERS, and bytes.Clone (for the layers behind it, too). Bytes must lie where the slices say; sizes as the theorems say.
-/
import Derived.Test.YtmcfnlfaclkbhaaFieldPk
import Derived.Test.YtmcfnlfaclkbhaaClone
namespace Go.Proofs.Ytmcfnlfaclkbhaa
open Go.RowKit
set_option maxRecDepth 8000 in
set_option maxHeartbeats 1000000 in
theorem lay_some (v : Value) (len : Nat) (zs : List Int) (b off n cap : Nat) (ls : List (List Int)) (w : World) (hri : RI .u8 w v len zs) (hrl : RL .u8 w (.slice (some ⟨b, off, none⟩) n cap) n ls) (h0 : 0 < n) (hn : (n : Int) * 65539 + len ≤ 200000000000000) :
    Calls Try.prog 33 #[v, .slice (some ⟨b, off, none⟩) n cap] w fun e w' => ∃ v', e = .returned v' ∧ w'.ownsRow w.heap.size 5 1 v' (len + (pk ls).length) (il .u8 (zs ++ pk ls)) ∧ Below w.heap.size w w' := by
  obtain ⟨b', off', hbo, hat⟩ := hrl.at_ h0
  simp only [Option.some.injEq, Addr.mk.injEq, and_true] at hbo
  obtain ⟨rfl, rfl⟩ := hbo
  have HAT := Lib.hid hat
  have HL := Lib.hid hrl.length
  have HN := Lib.hid hn
  have hn2 : (n : Int) ≤ 9223372036854775807 := by omega
  have HR := Lib.hid hri
  clear hat hrl hn hri
  go_enter Try.func33, Try.ntmps33
  go_wp2_with (first
    | (go_at_call 39; (with_reducible refine (clone_any _ len zs _ HR.out (by have := HN.out; omega)).mono ?_); rintro e w1 ⟨v1, rfl, ho1, hb1⟩; have HO1 := Lib.hid ho1; have HB1 := Lib.hid hb1; clear ho1 hb1))
  go_loopw [5, 12] (fun x iv wr => ∃ i : Nat, iv = .int .i64 i ∧ i ≤ n ∧ Hid (wr.ownsRow w.heap.size 5 1 x (len + (pk (ls.take i)).length) (il .u8 (zs ++ pk (ls.take i)))) ∧ Hid (Below w.heap.size w wr)) (fun _ iv _ => n - (intOf iv).toNat)
  case atStart => exact ⟨0, rfl, by omega, Lib.hid (by simpa [pk_nil] using HO1.out), HB1⟩
  case round =>
    obtain ⟨i, rfl, hi, HO, HB⟩ := hrel
    by_cases hlt : (i : Int) < (n : Int)
    · obtain ⟨x1, c1, hc, hr⟩ := HAT.out i (by omega)
      have HPT := Lib.hid (pk_take ls i (by rw [HL.out]; omega))
      generalize ls.getD i [] = l at hc hr HPT
      have HR := Lib.hid hr
      have hcell := cell_keep HB.out hc
      have HLE := Lib.hid (show len + (pk (ls.take i)).length + 65539 ≤ 200000000000000 from by have h1 := pk_len (ls.take i); have h2 := HN.out; have h3 : (ls.take i).length ≤ i := (by simp; omega); omega)
      have hlr : (l.length : Int) ≤ 9223372036854775807 := by have := hr.le; omega
      clear hc hr
      by_cases hle : (l.length : Int) ≤ 65536
      · have HPF := Lib.hid (fo_small l (by omega))
        obtain ⟨m, hm⟩ : ∃ m, len + (pk (ls.take i)).length = m := ⟨_, rfl⟩
        have HM := Lib.hid hm
        rw [hm] at HO
        have HV := Lib.hid (vb_three l.length (by omega))
        clear hm
        go_wp2_with (first
          | (go_at_call 40; (with_reducible refine (put_any l.length (by omega) _ 0 [] _ (RI.nil _ _) (by omega)).mono ?_); rintro e w2 ⟨v2, rfl, ho2, hb2⟩; rw [Nat.zero_add, List.nil_append] at ho2; have HO2 := Lib.hid (own_keep HO.out hb2); have HP2 := Lib.hid (RI.own ho2); have HB2 := Lib.hid (HB.out.trans (hb2.mono HB.out.size)); clear ho2 hb2)
          | (at_builtin; (refine wpl_appn rfl (.tmp 19) (.tmp 23) 24 rfl 5 .u8 1 Try.underlying24 Try.info_u8 w.heap.size _ m _ rfl HO2 _ (vb l.length).length (vb l.length) rfl HP2 (by have := HLE.out; have := HM.out; have := HV.out; omega) (by have := HLE.out; have := HM.out; have := HV.out; omega) w.heap.size w HB2 (Nat.le_refl _) HB2.out.size ?_); intro v3 w3 HO3 HB3)
          | (at_builtin; (refine wpl_appn rfl (.tmp 25) (.tmp 26) 24 rfl 5 .u8 1 Try.underlying24 Try.info_u8 w.heap.size _ (m + (vb l.length).length) _ rfl HO3 _ l.length l rfl (HR.out.keep HB3.out) (by have := HLE.out; have := HM.out; have := HV.out; omega) (by have := HLE.out; have := HM.out; have := HV.out; omega) w.heap.size w HB3 (Nat.le_refl _) HB3.out.size ?_); intro v4 w4 HO4 HB4))
        go_roundw
        case rel =>
          refine ⟨i + 1, by go_num, by omega, ?_, HB4⟩
          have h5 := HO4.out
          rw [List.append_assoc, List.append_assoc, ← fb, ← HPF.out, ← HPT.out,
            show m + (vb l.length).length + l.length = len + (pk (ls.take (i + 1))).length from by rw [HPT.out, HPF.out, List.length_append, fb, List.length_append, ← HM.out]; omega] at h5
          exact h5
        case measure => simp [intOf]; omega
      · have HPF := Lib.hid (fo_big l (by omega))
        go_wp2
        go_roundw
        case rel => exact ⟨i + 1, by go_num, by omega, by rw [HPT.out, HPF.out, List.append_nil]; exact HO, HB⟩
        case measure => simp [intOf]; omega
    · go_wp2
      go_ret
      have h5 := HO.out
      rw [List.take_of_length_le (by rw [HL.out]; omega)] at h5
      exact ⟨_, rfl, h5, HB.out⟩
set_option maxRecDepth 8000 in
theorem lay_none (v : Value) (len : Nat) (zs : List Int) (a : Option Addr) (cap : Nat) (w : World) (hri : RI .u8 w v len zs) (hn : (len : Int) ≤ 200000000000000) :
    Calls Try.prog 33 #[v, .slice a 0 cap] w fun e w' => ∃ v', e = .returned v' ∧ w'.ownsRow w.heap.size 5 1 v' len (il .u8 zs) ∧ Below w.heap.size w w' := by
  have HR := Lib.hid hri
  clear hri
  go_enter Try.func33, Try.ntmps33
  go_wp2_with (first
    | (go_at_call 39; (with_reducible refine (clone_any _ len zs _ HR.out hn).mono ?_); rintro e w1 ⟨v1, rfl, ho1, hb1⟩; have HO1 := Lib.hid ho1; have HB1 := Lib.hid hb1; clear ho1 hb1))
  refine wp_loop_rounds 1 ?_
  rw [rounds_succ]
  go_wp2
  go_ret
  exact ⟨_, rfl, HO1.out, HB1.out⟩
theorem lay_any (v : Value) (len : Nat) (zs : List Int) (lv : Value) (n : Nat) (ls : List (List Int)) (w : World) (hri : RI .u8 w v len zs) (hrl : RL .u8 w lv n ls) (hn : (n : Int) * 65539 + len ≤ 200000000000000) :
    Calls Try.prog 33 #[v, lv] w fun e w' => ∃ v', e = .returned v' ∧ w'.ownsRow w.heap.size 5 1 v' (len + (pk ls).length) (il .u8 (zs ++ pk ls)) ∧ Below w.heap.size w w' := by
  obtain ⟨a, cap, rfl, _⟩ := hrl.form
  by_cases h0 : 0 < n
  · obtain ⟨b, off, rfl, _⟩ := hrl.at_ h0
    exact lay_some v len zs b off n cap ls w hri hrl h0 hn
  · obtain rfl : n = 0 := by omega
    obtain rfl : ls = [] := List.length_eq_zero_iff.1 hrl.length
    refine (lay_none v len zs a cap w hri (by omega)).mono fun e w' h => ?_
    simpa [pk_nil] using h
end Go.Proofs.Ytmcfnlfaclkbhaa
