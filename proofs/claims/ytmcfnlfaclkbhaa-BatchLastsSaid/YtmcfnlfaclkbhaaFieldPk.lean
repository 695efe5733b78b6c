/-
  WHAT THE REFERENCE'S Pack OF LAYER 4 (field) ANSWERS (for the layers behind it, too). Bytes must lie where the slices say; sizes as the theorems say.
-/
import Derived.Test.YtmcfnlfaclkbhaaFieldRef
import Derived.Test.YtmcfnlfaclkbhaaBelow
import Derived.BigQuiet
import Derived.Deep.QuietTactic
namespace Go.Proofs.Ytmcfnlfaclkbhaa
open Go.RowKit
theorem drew_below (w : World) (m : Nat) : Below w.heap.size w (w.drewN m) := ⟨rfl, rfl, rfl, Nat.le_refl _, fun _ _ => rfl⟩
theorem pk_take (ls : List (List Int)) (i : Nat) (h : i < ls.length) : pk (ls.take (i + 1)) = pk (ls.take i) ++ fo (ls.getD i []) := by
  rw [List.take_succ_eq_append_getElem h, pk_append, pk_one]; simp [List.getD, h]
set_option maxRecDepth 8000 in
set_option maxHeartbeats 1000000 in
theorem rpack_some (b off n cap : Nat) (ls : List (List Int)) (w : World) (hri : RL .u8 w (.slice (some ⟨b, off, none⟩) n cap) n ls) (h0 : 0 < n) (hn : n ≤ 200) :
    Calls Try.prog 29 #[.slice (some ⟨b, off, none⟩) n cap] w fun e w' => ∃ v', e = .returned v' ∧ w'.ownsRow w.heap.size 5 1 v' (pk ls).length (il .u8 (pk ls)) ∧ Below w.heap.size w w' := by
  obtain ⟨b', off', hbo, hat⟩ := hri.at_ h0
  simp only [Option.some.injEq, Addr.mk.injEq, and_true] at hbo
  obtain ⟨rfl, rfl⟩ := hbo
  have HAT := Lib.hid hat
  have HL := Lib.hid hri.length
  have HN := Lib.hid hn
  have hn2 : (n : Int) ≤ 200 := by omega
  clear hat hri hn
  go_enter Try.func29, Try.ntmps29
  go_wp2
  go_loopw [3, 4] (fun x iv wr => ∃ i : Nat, iv = .int .i64 i ∧ i ≤ n ∧ Hid (wr.ownsRow w.heap.size 5 1 x (pk (ls.take i)).length (il .u8 (pk (ls.take i)))) ∧ Hid (Below w.heap.size w wr)) (fun _ iv _ => n - (intOf iv).toNat)
  case atStart => exact ⟨0, rfl, by omega, Lib.hid (World.ownsRow_nil _ _ _ _), Lib.hid (Below.refl _ _)⟩
  case round =>
    obtain ⟨i, rfl, hi, HO, HB⟩ := hrel
    by_cases hlt : (i : Int) < (n : Int)
    · obtain ⟨x1, c1, hc, hr⟩ := HAT.out i (by omega)
      have HPT := Lib.hid (pk_take ls i (by rw [HL.out]; omega))
      generalize ls.getD i [] = l at hc hr HPT
      have HR := Lib.hid hr
      have hcell := cell_keep HB.out hc
      have HLE := Lib.hid (show (pk (ls.take i)).length ≤ 13107800 from by have := pk_len (ls.take i); have := HN.out; simp at *; omega)
      have hlr : (l.length : Int) ≤ 9223372036854775807 := by have := hr.le; omega
      clear hc hr
      by_cases hle : (l.length : Int) ≤ 65536
      · have HPF := Lib.hid (fo_small l (by omega))
        obtain ⟨m, hm⟩ : ∃ m, (pk (ls.take i)).length = m := ⟨_, rfl⟩
        have HM := Lib.hid hm
        rw [hm] at HO
        go_wp2_with (first
          | (go_at_call 35; (with_reducible refine (rput_any l.length (by omega) _ _ _ _ (RI.own HO.out) (by have := HLE.out; have := HM.out; omega)).mono ?_); rintro e w2 ⟨v2, rfl, ho2, hb2⟩; have HO2 := Lib.hid (own_mono ho2 HB.out.size); have HB2 := Lib.hid (HB.out.trans (hb2.mono HB.out.size)); have hcell2 := cell_keep hb2 hcell; have HR2 := Lib.hid ((HR.out.keep HB.out).keep hb2); clear ho2 hb2)
          | (at_builtin; go_loud (refine wpl_appn rfl (.tmp 25) (.tmp 29) 24 rfl 5 .u8 1 Try.underlying24 Try.info_u8 w.heap.size _ _ _ rfl HO2 _ l.length l rfl HR2 (by have := HLE.out; have := HM.out; have := vb_three l.length (by omega); omega) (by have := HLE.out; have := HM.out; have := vb_three l.length (by omega); omega) w.heap.size w HB2 (Nat.le_refl _) HB2.out.size ?_); intro v3 w3 HO3 HB3))
        go_roundw
        case rel =>
          refine ⟨i + 1, by go_num, by omega, ?_, HB3⟩
          have h5 := HO3.out
          rw [List.append_assoc, ← fb, ← HPF.out, ← HPT.out,
            show m + (vb l.length).length + l.length = (pk (ls.take (i + 1))).length from by rw [HPT.out, HPF.out, List.length_append, fb, List.length_append, HM.out]; omega] at h5
          exact h5
        case measure => simp [intOf]; omega
      · have HPF := Lib.hid (fo_big l (by omega))
        go_wp2
        go_roundw
        case rel => exact ⟨i + 1, by go_num, by omega, by rw [HPT.out, HPF.out, List.append_nil]; exact HO, HB⟩
        case measure => simp [intOf]; omega
    · go_wp2
      go_ret
      have h5 := HO.out
      rw [List.take_of_length_le (by rw [HL.out]; omega)] at h5
      exact ⟨_, rfl, h5, HB.out⟩
set_option maxRecDepth 8000 in
theorem rpack_none (a : Option Addr) (cap : Nat) (w : World) :
    Calls Try.prog 29 #[.slice a 0 cap] w fun e w' => e = .returned (.slice none 0 0) ∧ w = w' := by
  go_enter Try.func29, Try.ntmps29
  go_wp2
  refine wp_loop_rounds 1 ?_
  rw [rounds_succ]
  go_wp2
  go_ret
  exact ⟨rfl, rfl⟩
theorem rpack_any (v : Value) (n : Nat) (ls : List (List Int)) (w : World) (hri : RL .u8 w v n ls) (hn : n ≤ 200) :
    Calls Try.prog 29 #[v] w fun e w' => ∃ v', e = .returned v' ∧ w'.ownsRow w.heap.size 5 1 v' (pk ls).length (il .u8 (pk ls)) ∧ Below w.heap.size w w' := by
  obtain ⟨a, cap, rfl, _⟩ := hri.form
  by_cases h0 : 0 < n
  · obtain ⟨b, off, rfl, _⟩ := hri.at_ h0
    exact rpack_some b off n cap ls w hri h0 hn
  · obtain rfl : n = 0 := by omega
    obtain rfl : ls = [] := List.length_eq_zero_iff.1 hri.length
    exact (rpack_none a cap w).mono fun _ _ ⟨he, hw⟩ => ⟨_, he, by subst hw; exact World.ownsRow_nil _ _ _ _, by subst hw; exact Below.refl _ _⟩
end Go.Proofs.Ytmcfnlfaclkbhaa
