/-
  slices.Concat OF SLICES OF BYTES, and slices.Grow of nil: the library's own texts, walked. No condition but bounds on lengths.
-/
import Derived.Test.YtmcfnlfaclkbhaaFieldLay
import Derived.Lib.AppendZeros
import Derived.Lib.SliceRun
import Derived.Deep.WholeRow
namespace Go.Proofs.Ytmcfnlfaclkbhaa
open Go.RowKit
/-- an empty row with room -/
theorem own_room {w : World} {base g c : Nat} {cur : Array Value} {e : TypeId} (hg : w.heap[g]? = some (.cells cur e (0, 0))) (hb : base ≤ g) (hc : cur.size = c) (hm : c ≤ maxLen) : w.ownsRow base e 1 (.slice (some ⟨g, 0, none⟩) 0 c) 0 [] :=
  ⟨rfl, .inr ⟨g, c, cur, rfl, hb, hg, Nat.zero_le _, hm, by omega, by simp⟩⟩
set_option maxRecDepth 8000 in
set_option maxHeartbeats 1000000 in
theorem grow_nil (n : Nat) (hn : (n : Int) ≤ 200000000000000) (w : World) :
    Calls Try.prog 32 #[.slice none 0 0, .int .i64 n] w fun e w' => ∃ v', e = .returned v' ∧ w'.ownsRow w.heap.size 5 1 v' 0 (il .u8 []) ∧ Below w.heap.size w w' := by
  obtain ⟨i, hi, hz0, hz1, hz2⟩ := info_parts Try.info_u8
  by_cases h0 : n = 0
  · subst h0
    go_enter Try.func32, Try.ntmps32
    go_wp2
    go_ret
    exact ⟨_, rfl, World.ownsRow_nil _ _ _ _, Below.refl _ _⟩
  · have h1 : ¬ (n : Int) < 0 := by omega
    have h2 : 0 < (n : Int) := by omega
    have h3 : wrap64 (n : Int) = n := by unfold wrap64; omega
    have hr : ∀ ty, (Builtin.append_ #[24, 3] ty #[.slice none 0 0, .int .i64 n]).run Try.prog w = _ := fun ty => Lib.run_append_nil_zeros (P := Try.prog) w 24 3 ty 5 i (.int .u8 0) .i64 .i64 Try.underlying24 Try.underlying3 hi hz0 n (by omega) (by omega) (by omega) (by rw [hz2]; omega)
    go_enter Try.func32, Try.ntmps32
    go_wp2_with (at_builtin; refine Lib.wpList_append_run _ rfl _ _ _ _ rfl _ _ rfl rfl _ _ (hr _) ?_)
    go_ret
    refine ⟨_, rfl, own_room (heap_alloc_last _ _) (Nat.le_refl _) ?_ ?_, ((Below.refl _ w).alloc (Nat.le_refl _) _).drew⟩
    · have := grownCap_ge w n 0 5
      simp [size_zeroCells]
      omega
    · exact grownCap_le_maxLen w n 0 5 (by unfold maxLen; omega)
theorem fl_take (ls : List (List Int)) (i : Nat) (h : i < ls.length) : (ls.take (i + 1)).flatten = (ls.take i).flatten ++ ls.getD i [] := by
  rw [List.take_succ_eq_append_getElem h, List.flatten_append]; simp [List.getD, h]
theorem fl_le (ls : List (List Int)) (i : Nat) : (ls.take i).flatten.length ≤ ls.flatten.length := by
  have h := congrArg (fun l => (List.flatten l).length) (List.take_append_drop i ls)
  simp only [List.flatten_append, List.length_append] at h
  omega
set_option maxRecDepth 8000 in
set_option maxHeartbeats 1000000 in
theorem concat_some (b off n cap : Nat) (ls : List (List Int)) (w : World) (hri : RL .u8 w (.slice (some ⟨b, off, none⟩) n cap) n ls) (h0 : 0 < n) (m : Nat) (hm : ls.flatten.length = m) (hm2 : (m : Int) ≤ 200000000000000) :
    Calls Try.prog 23 #[.slice (some ⟨b, off, none⟩) n cap] w fun e w' => ∃ v', e = .returned v' ∧ w'.ownsRow w.heap.size 5 1 v' m (il .u8 ls.flatten) ∧ Below w.heap.size w w' := by
  obtain ⟨b', off', hbo, hat⟩ := hri.at_ h0
  simp only [Option.some.injEq, Addr.mk.injEq, and_true] at hbo
  obtain ⟨rfl, rfl⟩ := hbo
  have HAT := Lib.hid hat
  have HL := Lib.hid hri.length
  have HM := Lib.hid hm
  have hn2 : (n : Int) ≤ 9223372036854775807 := by have := hri.le; omega
  clear hat hri hm
  go_enter Try.func23, Try.ntmps23
  go_wp2
  go_loopw [3, 11] (fun x iv wr => ∃ i : Nat, iv = .int .i64 i ∧ i ≤ n ∧ x = .int .i64 ((ls.take i).flatten.length : Int) ∧ w = wr) (fun _ iv _ => n - (intOf iv).toNat)
  case atStart => exact ⟨0, rfl, by omega, by simp, rfl⟩
  case round =>
    obtain ⟨i, rfl, hi, rfl, rfl⟩ := hrel
    by_cases hlt : (i : Int) < (n : Int)
    · obtain ⟨x1, c1, hc, hr⟩ := HAT.out i (by omega)
      have hft := fl_take ls i (by rw [HL.out]; omega)
      have hle := fl_le ls (i + 1)
      rw [HM.out, hft, List.length_append] at hle
      have HFT := Lib.hid hft
      generalize ls.getD i [] = l at hc hr HFT hle hft
      obtain ⟨k, hk⟩ : ∃ k, (ls.take i).flatten.length = k := ⟨_, rfl⟩
      have HK := Lib.hid (show (ls.take (i + 1)).flatten.length = k + l.length from by rw [hft, List.length_append, hk])
      rw [hk] at hle ⊢
      have hw : wrap64 ((k : Int) + (l.length : Int)) = (k : Int) + (l.length : Int) := by unfold wrap64; omega
      have hneg : ¬ ((k : Int) + (l.length : Int) < 0) := by omega
      clear hft hr hk
      go_wp2
      go_roundw
      case rel => exact ⟨i + 1, by go_num, by omega, by rw [HK.out]; simp, trivial⟩
      case measure => simp [intOf]; omega
    · have htk : (ls.take i).flatten.length = m := by rw [List.take_of_length_le (by rw [HL.out]; omega)]; exact HM.out
      rw [htk]
      clear htk
      go_wp2_with (first
        | (go_at_call 32; (with_reducible refine (grow_nil m hm2 _).mono ?_); rintro e w1 ⟨v1, rfl, ho1, hb1⟩; have HO1 := Lib.hid ho1; have HB1 := Lib.hid hb1; clear ho1 hb1))
      go_loopw [6, 27] (fun x iv wr => ∃ i : Nat, iv = .int .i64 i ∧ i ≤ n ∧ Hid (wr.ownsRow w.heap.size 5 1 x (ls.take i).flatten.length (il .u8 (ls.take i).flatten)) ∧ Hid (Below w.heap.size w wr)) (fun _ iv _ => n - (intOf iv).toNat)
      case atStart => exact ⟨0, rfl, by omega, HO1, HB1⟩
      case round =>
        obtain ⟨j, rfl, hj, HO, HB⟩ := hrel
        by_cases hlt2 : (j : Int) < (n : Int)
        · obtain ⟨x1, c1, hc, hr⟩ := HAT.out j (by omega)
          have hft := fl_take ls j (by rw [HL.out]; omega)
          have hle := fl_le ls (j + 1)
          rw [HM.out, hft, List.length_append] at hle
          have HFT := Lib.hid hft
          generalize ls.getD j [] = l at hc hr HFT hle hft
          have HR := Lib.hid hr
          have hcell := cell_keep HB.out hc
          obtain ⟨k, hk⟩ : ∃ k, (ls.take j).flatten.length = k := ⟨_, rfl⟩
          have HK := Lib.hid (show (ls.take (j + 1)).flatten.length = k + l.length from by rw [hft, List.length_append, hk])
          rw [hk] at hle HO
          clear hft hr hk hc
          go_wp2_with (first
            | (at_builtin; (refine wpl_appn rfl (.tmp 31) (.tmp 32) 24 rfl 5 .u8 1 Try.underlying24 Try.info_u8 w.heap.size _ k _ rfl HO _ l.length l rfl (Lib.hid (HR.out.keep HB.out)) (by omega) (by omega) w.heap.size w HB (Nat.le_refl _) HB.out.size ?_); intro v3 w3 HO3 HB3))
          go_roundw
          case rel =>
            refine ⟨j + 1, by go_num, by omega, ?_, HB3⟩
            have h5 := HO3.out
            rw [← HFT.out, ← HK.out] at h5
            exact Lib.hid h5
          case measure => simp [intOf]; omega
        · go_wp2
          go_ret
          have h5 := HO.out
          rw [List.take_of_length_le (by rw [HL.out]; omega), HM.out] at h5
          exact ⟨_, rfl, h5, HB.out⟩
end Go.Proofs.Ytmcfnlfaclkbhaa
