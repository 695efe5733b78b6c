/-
  WHETHER TWO LISTS OF BYTES ARE THE SAME: Same of the reference of layer 4 (field). Bytes must lie where the slices say.
-/
import Derived.Test.YthickhfbllddjaaDoorSlices
import Derived.Test.YthickhfbllddjaaDoorIsB
import Derived.BigQuiet
import Derived.Deep.QuietTactic
namespace Go.Proofs.YthickhfbllddjaaDoor
open Go.RowKit
set_option maxRecDepth 8000 in
set_option maxHeartbeats 1000000 in
theorem same_some (b off n cap : Nat) (la : List (List Int)) (b2 off2 cap2 : Nat) (lb : List (List Int)) (w : World) (ha : RL .u8 w (.slice (some ⟨b, off, none⟩) n cap) n la) (hb : RL .u8 w (.slice (some ⟨b2, off2, none⟩) n cap2) n lb)
    (hba : ∀ l ∈ la, isB l) (hbb : ∀ l ∈ lb, isB l) (h0 : 0 < n) :
    Calls Tryd.prog 9 #[.slice (some ⟨b, off, none⟩) n cap, .slice (some ⟨b2, off2, none⟩) n cap2] w fun e w' => e = .returned (.bool (decide (la = lb))) ∧ Below w.heap.size w w' := by
  obtain ⟨b', off', hbo, hat⟩ := ha.at_ h0
  simp only [Option.some.injEq, Addr.mk.injEq, and_true] at hbo
  obtain ⟨rfl, rfl⟩ := hbo
  obtain ⟨b', off', hbo, hat2⟩ := hb.at_ h0
  simp only [Option.some.injEq, Addr.mk.injEq, and_true] at hbo
  obtain ⟨rfl, rfl⟩ := hbo
  have HA := Lib.hid hat
  have HB := Lib.hid hat2
  have HLA := Lib.hid ha.length
  have HLB := Lib.hid hb.length
  have hn : (n : Int) ≤ 9223372036854775807 := by have := ha.le; omega
  have HBA := Lib.hid hba
  have HBB := Lib.hid hbb
  clear hat hat2 ha hb hba hbb
  go_enter Tryd.func9, Tryd.ntmps9
  go_wp2
  go_loopw [5] (fun iv wr => ∃ i : Nat, iv = .int .i64 i ∧ i ≤ n ∧ Hid (la.take i = lb.take i) ∧ Hid (Below w.heap.size w wr)) (fun iv _ => n - (intOf iv).toNat)
  case atStart => exact ⟨0, rfl, by omega, Lib.hid (by simp), Lib.hid (Below.refl _ _)⟩
  case round =>
    obtain ⟨i, rfl, hi, HE, HW⟩ := hrel
    by_cases hlt : (i : Int) < (n : Int)
    · obtain ⟨x1, k1, hc1, hr1⟩ := HA.out i (by omega)
      obtain ⟨x2, k2, hc2, hr2⟩ := HB.out i (by omega)
      have HT := Lib.hid (show la.take (i + 1) = la.take i ++ [la.getD i []] from by rw [List.take_succ_eq_append_getElem (by rw [HLA.out]; omega)]; simp [List.getD, HLA.out, show i < n by omega])
      have HT2 := Lib.hid (show lb.take (i + 1) = lb.take i ++ [lb.getD i []] from by rw [List.take_succ_eq_append_getElem (by rw [HLB.out]; omega)]; simp [List.getD, HLB.out, show i < n by omega])
      have HI1 := Lib.hid (show isB (la.getD i []) from HBA.out _ (by simp [List.getD, HLA.out, show i < n by omega]))
      have HI2 := Lib.hid (show isB (lb.getD i []) from HBB.out _ (by simp [List.getD, HLB.out, show i < n by omega]))
      have HNE := Lib.hid (show ¬ la.getD i [] = lb.getD i [] → ¬ la = lb from fun h1 h2 => h1 (by rw [h2]))
      generalize la.getD i [] = l1 at hc1 hr1 HT HI1 HNE
      generalize lb.getD i [] = l2 at hc2 hr2 HT2 HI2 HNE
      have HR1 := Lib.hid (hr1.keep HW.out)
      have HR2 := Lib.hid (hr2.keep HW.out)
      have hcell1 := cell_keep HW.out hc1
      have hcell2 := cell_keep HW.out hc2
      obtain ⟨s1, hs1⟩ : ∃ s, strOfNums l1 = s := ⟨_, rfl⟩
      obtain ⟨s2, hs2⟩ : ∃ s, strOfNums l2 = s := ⟨_, rfl⟩
      have hv1 : ∀ m, (convert 38 9 (.slice x1 l1.length k1)).run Tryd.prog (wr.drewN m) = .ok (.string s1) (wr.drewN m) := fun m => by
        rw [← hs1]; exact conv_of Tryd.underlying38 Tryd.underlying5 Tryd.underlying9 (HR1.out.keep (drew_below wr m))
      have hv2 : ∀ m, (convert 38 9 (.slice x2 l2.length k2)).run Tryd.prog (wr.drewN m) = .ok (.string s2) (wr.drewN m) := fun m => by
        rw [← hs2]; exact conv_of Tryd.underlying38 Tryd.underlying5 Tryd.underlying9 (HR2.out.keep (drew_below wr m))
      have HS := Lib.hid (fun h : s1 = s2 => strOfNums_inj HI1.out HI2.out (by rw [hs1, hs2]; exact h))
      have HSN := Lib.hid (fun h : l1 = l2 => (show s1 = s2 from by rw [← hs1, ← hs2, h]))
      clear hs1 hs2
      clear hc1 hc2 hr1 hr2
      by_cases he : s1 = s2
      · subst he
        have HTT := Lib.hid (show la.take (i + 1) = lb.take (i + 1) from by rw [HT.out, HT2.out, HE.out, HS.out rfl])
        go_wp2_with fail
        go_quiet (fail)
        go_wp2
        go_roundw
        case rel => exact ⟨i + 1, by go_num, by omega, HTT, Lib.hid (HW.out.trans ((drew_below wr nq).mono HW.out.size))⟩
        case measure => simp [intOf]; omega
      · have hse := str_ne he
        have HX := Lib.hid (show ¬ la = lb from HNE.out fun h => he (HSN.out h))
        clear he
        go_wp2_with fail
        go_quiet (fail)
        go_wp2
        go_ret
        exact ⟨by show Ending.returned (Value.bool false) = _; rw [decide_eq_false HX.out], HW.out.trans ((drew_below wr nq).mono HW.out.size)⟩
    · go_wp2
      go_ret
      have h5 := HE.out
      rw [List.take_of_length_le (by rw [HLA.out]; omega), List.take_of_length_le (by rw [HLB.out]; omega)] at h5
      exact ⟨by show Ending.returned (Value.bool true) = _; rw [decide_eq_true h5], HW.out⟩
set_option maxRecDepth 8000 in
theorem same_none (a a2 : Option Addr) (cap cap2 : Nat) (w : World) :
    Calls Tryd.prog 9 #[.slice a 0 cap, .slice a2 0 cap2] w fun e w' => e = .returned (.bool true) ∧ w = w' := by
  go_enter Tryd.func9, Tryd.ntmps9
  go_wp2
  refine wp_loop_rounds 1 ?_
  rw [rounds_succ]
  go_wp2
  go_ret
  exact ⟨rfl, rfl⟩
set_option maxRecDepth 8000 in
theorem same_unlike (a a2 : Option Addr) (n m cap cap2 : Nat) (h : ¬ (n : Int) = m) (w : World) :
    Calls Tryd.prog 9 #[.slice a n cap, .slice a2 m cap2] w fun e w' => e = .returned (.bool false) ∧ w = w' := by
  go_enter Tryd.func9, Tryd.ntmps9
  go_wp2
  go_ret
  exact ⟨rfl, rfl⟩
theorem same_any (va vb : Value) (n m : Nat) (la lb : List (List Int)) (w : World) (ha : RL .u8 w va n la) (hb : RL .u8 w vb m lb) (hba : ∀ l ∈ la, isB l) (hbb : ∀ l ∈ lb, isB l) :
    Calls Tryd.prog 9 #[va, vb] w fun e w' => e = .returned (.bool (decide (la = lb))) ∧ Below w.heap.size w w' := by
  obtain ⟨a, cap, rfl, _⟩ := ha.form
  obtain ⟨a2, cap2, rfl, _⟩ := hb.form
  by_cases h : n = m
  · subst h
    by_cases h0 : 0 < n
    · obtain ⟨b, off, rfl, _⟩ := ha.at_ h0
      obtain ⟨b2, off2, rfl, _⟩ := hb.at_ h0
      exact same_some b off n cap la b2 off2 cap2 lb w ha hb hba hbb h0
    · obtain rfl : n = 0 := by omega
      obtain rfl : la = [] := List.length_eq_zero_iff.1 ha.length
      obtain rfl : lb = [] := List.length_eq_zero_iff.1 hb.length
      exact (same_none a a2 cap cap2 w).mono fun _ _ ⟨he, hw⟩ => ⟨he, by subst hw; exact Below.refl _ _⟩
  · have hne : ¬ la = lb := fun h2 => h (by rw [← ha.length, ← hb.length, h2])
    exact (same_unlike a a2 n m cap cap2 (by omega) w).mono fun _ _ ⟨he, hw⟩ => ⟨by rw [he, decide_eq_false hne], by subst hw; exact Below.refl _ _⟩
end Go.Proofs.YthickhfbllddjaaDoor
