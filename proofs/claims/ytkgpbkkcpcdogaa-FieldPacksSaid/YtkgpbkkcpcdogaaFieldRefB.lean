/-
  WHAT THE FUNCTIONS OF THE REFERENCE OF LAYER 4 (field) ANSWER: Pack, Unpack, Same. Bytes must lie where the slices say; sizes as the theorems say.
-/
import Derived.Test.YtkgpbkkcpcdogaaFieldRef
import Derived.BigQuiet
import Derived.Deep.QuietTactic
namespace Go.Proofs.Ytkgpbkkcpcdogaa
open Go.RowKit
theorem own_mono {w : World} {base base' : Nat} {e : TypeId} {size : Nat} {v : Value} {n : Nat} {xs : List Value} (h : w.ownsRow base e size v n xs) (hb : base' ≤ base) : w.ownsRow base' e size v n xs := by
  refine ⟨h.1, ?_⟩
  rcases h.2 with h2 | ⟨g, cap, cur, hv, hg, h3⟩
  · exact .inl h2
  · exact .inr ⟨g, cap, cur, hv, Nat.le_trans hb hg, h3⟩
theorem drew_below (w : World) (m : Nat) : Below w.heap.size w (w.drewN m) := ⟨rfl, rfl, rfl, Nat.le_refl _, fun _ _ => rfl⟩
theorem own_form {w : World} {base : Nat} {e : TypeId} {size : Nat} {v : Value} {n : Nat} {xs : List Value} (h : w.ownsRow base e size v n xs) : ∃ a c, v = .slice a n c := by
  rcases h.2 with ⟨rfl, rfl⟩ | ⟨g, cap, cur, hv, _⟩
  · exact ⟨none, 0, rfl⟩
  · exact ⟨_, cap, hv⟩
theorem pk_take (ls : List (List Int)) (i : Nat) (h : i < ls.length) : pk (ls.take (i + 1)) = pk (ls.take i) ++ fo (ls.getD i []) := by
  rw [List.take_succ_eq_append_getElem h, pk_append, pk_one]; simp [List.getD, h]
set_option maxRecDepth 8000 in
set_option maxHeartbeats 1000000 in
theorem rpack_some (b off n cap : Nat) (ls : List (List Int)) (w : World) (hri : RL .u8 w (.slice (some ⟨b, off, none⟩) n cap) n ls) (h0 : 0 < n) (hn : n ≤ 200) :
    Calls Try.prog 9 #[.slice (some ⟨b, off, none⟩) n cap] w fun e w' => ∃ v', e = .returned v' ∧ w'.ownsRow w.heap.size 5 1 v' (pk ls).length (il .u8 (pk ls)) ∧ Below w.heap.size w w' := by
  obtain ⟨b', off', hbo, hat⟩ := hri.at_ h0
  simp only [Option.some.injEq, Addr.mk.injEq, and_true] at hbo
  obtain ⟨rfl, rfl⟩ := hbo
  have HAT := Lib.hid hat
  have HL := Lib.hid hri.length
  have HN := Lib.hid hn
  have hn2 : (n : Int) ≤ 200 := by omega
  clear hat hri hn
  go_enter Try.func9, Try.ntmps9
  go_wp2
  go_loopw [3, 4] (fun x iv wr => ∃ i : Nat, iv = .int .i64 i ∧ i ≤ n ∧ Hid (wr.ownsRow w.heap.size 5 1 x (pk (ls.take i)).length (il .u8 (pk (ls.take i)))) ∧ Hid (Below w.heap.size w wr)) (fun _ iv _ => n - (intOf iv).toNat)
  case atStart => exact ⟨0, rfl, by omega, Lib.hid (World.ownsRow_nil _ _ _ _), Lib.hid (Below.refl _ _)⟩
  case round =>
    obtain ⟨i, rfl, hi, HO, HB⟩ := hrel
    by_cases hlt : (i : Int) < (n : Int)
    · obtain ⟨x1, c1, hc, hr⟩ := HAT.out i (by omega)
      have HPT := Lib.hid (pk_take ls i (by rw [HL.out]; omega))
      generalize ls.getD i [] = l at hc hr HPT
      have HR := Lib.hid hr
      have hcell := cell_keep HB.out hc
      have HLE := Lib.hid (show (pk (ls.take i)).length ≤ 13107800 from by have := pk_len (ls.take i); have := HN.out; simp at *; omega)
      have hlr : (l.length : Int) ≤ 9223372036854775807 := by have := hr.le; omega
      clear hc hr
      by_cases hle : (l.length : Int) ≤ 65536
      · have HPF := Lib.hid (fo_small l (by omega))
        obtain ⟨m, hm⟩ : ∃ m, (pk (ls.take i)).length = m := ⟨_, rfl⟩
        have HM := Lib.hid hm
        rw [hm] at HO
        go_wp2_with (first
          | (go_at_call 17; (with_reducible refine (rput_any l.length (by omega) _ _ _ _ (RI.own HO.out) (by have := HLE.out; have := HM.out; omega)).mono ?_); rintro e w2 ⟨v2, rfl, ho2, hb2⟩; have HO2 := Lib.hid (own_mono ho2 HB.out.size); have HB2 := Lib.hid (HB.out.trans (hb2.mono HB.out.size)); have hcell2 := cell_keep hb2 hcell; have HR2 := Lib.hid ((HR.out.keep HB.out).keep hb2); clear ho2 hb2)
          | (at_builtin; go_loud (refine wpl_appn rfl (.tmp 25) (.tmp 29) 22 rfl 5 .u8 1 Try.underlying22 Try.info_u8 w.heap.size _ _ _ rfl HO2 _ l.length l rfl HR2 (by have := HLE.out; have := HM.out; have := vb_three l.length (by omega); omega) (by have := HLE.out; have := HM.out; have := vb_three l.length (by omega); omega) w.heap.size w HB2 (Nat.le_refl _) HB2.out.size ?_); intro v3 w3 HO3 HB3))
        go_roundw
        case rel =>
          refine ⟨i + 1, by go_num, by omega, ?_, HB3⟩
          have h5 := HO3.out
          rw [List.append_assoc, ← fb, ← HPF.out, ← HPT.out,
            show m + (vb l.length).length + l.length = (pk (ls.take (i + 1))).length from by rw [HPT.out, HPF.out, List.length_append, fb, List.length_append, HM.out]; omega] at h5
          exact h5
        case measure => simp [intOf]; omega
      · have HPF := Lib.hid (fo_big l (by omega))
        go_wp2
        go_roundw
        case rel => exact ⟨i + 1, by go_num, by omega, by rw [HPT.out, HPF.out, List.append_nil]; exact HO, HB⟩
        case measure => simp [intOf]; omega
    · go_wp2
      go_ret
      have h5 := HO.out
      rw [List.take_of_length_le (by rw [HL.out]; omega)] at h5
      exact ⟨_, rfl, h5, HB.out⟩
set_option maxRecDepth 8000 in
theorem rpack_none (a : Option Addr) (cap : Nat) (w : World) :
    Calls Try.prog 9 #[.slice a 0 cap] w fun e w' => e = .returned (.slice none 0 0) ∧ w = w' := by
  go_enter Try.func9, Try.ntmps9
  go_wp2
  refine wp_loop_rounds 1 ?_
  rw [rounds_succ]
  go_wp2
  go_ret
  exact ⟨rfl, rfl⟩
theorem rpack_any (v : Value) (n : Nat) (ls : List (List Int)) (w : World) (hri : RL .u8 w v n ls) (hn : n ≤ 200) :
    Calls Try.prog 9 #[v] w fun e w' => ∃ v', e = .returned v' ∧ w'.ownsRow w.heap.size 5 1 v' (pk ls).length (il .u8 (pk ls)) ∧ Below w.heap.size w w' := by
  obtain ⟨a, cap, rfl, _⟩ := hri.form
  by_cases h0 : 0 < n
  · obtain ⟨b, off, rfl, _⟩ := hri.at_ h0
    exact rpack_some b off n cap ls w hri h0 hn
  · obtain rfl : n = 0 := by omega
    obtain rfl : ls = [] := List.length_eq_zero_iff.1 hri.length
    exact (rpack_none a cap w).mono fun _ _ ⟨he, hw⟩ => ⟨_, he, by subst hw; exact World.ownsRow_nil _ _ _ _, by subst hw; exact Below.refl _ _⟩
theorem Try.info_sl : (Try.prog.info? 22).map (fun i => (i.zero, i.size, i.bytes)) = some (some (.slice none 0 0), 1, 24) := by kernel_rfl
set_option maxRecDepth 8000 in
set_option maxHeartbeats 1000000 in
theorem runpack_any (v : Value) (len : Nat) (zs : List Int) (w : World) (hri : RI .u8 w v len zs) (hb : isB zs) (hlen : (len : Int) * 24 ≤ 140737488355328) (n : Nat) (ns : List (List Int)) (e3 : Int) (hns : ur zs = ns) (hn : ns.length = n) (he : (uf zs).2 = e3) :
    Calls Try.prog 12 #[v] w fun e w' => ∃ v', e = .returned (.tuple #[v', .int .i64 e3]) ∧ RL .u8 w' v' n ns ∧ Below w.heap.size w w' := by
  have hz := hri.length
  have HR := Lib.hid hri
  obtain ⟨a, cap, rfl, _, hlc, hc63, _, _⟩ := hri
  have HNS := Lib.hid hns
  have HN := Lib.hid hn
  have HE := Lib.hid he
  have HB := Lib.hid hb
  have HZ := Lib.hid hz
  clear hns hn he hb hz
  go_enter Try.func12, Try.ntmps12
  go_wp2
  go_loopw [4, 5] (fun x i wr => ∃ (at_ k : Nat) (pre : List (List Int)), i = .int .i64 at_ ∧ at_ ≤ len ∧ k ≤ at_ ∧ Hid (uf zs = (pre ++ (uf (zs.drop at_)).1, (uf (zs.drop at_)).2)) ∧ Hid (UL .u8 wr w.heap.size 22 x k pre) ∧ Hid (Below w.heap.size w wr)) (fun _ i _ => len - (intOf i).toNat)
  case atStart => exact ⟨0, 0, [], rfl, by omega, by omega, by rw [List.drop_zero, List.nil_append]; exact rfl, UL.none _ _ _ _, Below.refl _ _⟩
  case round =>
    obtain ⟨at_, k, pre, rfl, hat, hk, HV, HO, HW⟩ := hrel
    by_cases hlt : at_ < len
    · obtain ⟨⟨g1, g2, g3⟩, hg⟩ : ∃ g, gf (zs.drop at_) = g := ⟨_, rfl⟩
      have hne : ¬ cap = at_ := by omega
      have hb2 : isB (zs.drop at_) := HB.out.drop at_
      have hnil : zs.drop at_ ≠ [] := by
        intro h0; have := congrArg List.length h0; simp only [List.length_drop, HZ.out, List.length_nil] at this; omega
      have HG := Lib.hid hg
      have HB2 := Lib.hid hb2
      have HF := Lib.hid ((HR.out.keep HW.out).from' at_ (by omega) hne)
      by_cases hg3 : g3 = 0
      · subst hg3
        have hv := uf_ok _ hnil hb2 (by rw [hg])
        have hp := gf_pos _ hb2 (by rw [hg])
        have hle := gf_le (zs.drop at_) hb2
        rw [hg] at hv hp hle
        simp only [List.length_drop, HZ.out] at hle
        simp only at hp hv
        have HV2 := Lib.hid hv
        have hg2 : 0 < g2 ∧ at_ + g2 ≤ len := by omega
        clear hg hb2 hnil hv hle hp
        obtain ⟨hg2a, hg2b⟩ := hg2
        go_wp2_with (first
          | (go_at_call 15; (with_reducible refine (rgetf_any _ _ _ _ HF.out HB2.out (by omega) g1 g2 0 HG.out).mono ?_); rintro e w2 ⟨v2, rfl, ho2, hbw2⟩; obtain ⟨y2, c2, rfl⟩ := own_form ho2; have HO2 := Lib.hid ho2; have HU2 := Lib.hid (HO.out.keep hbw2); have HW2 := Lib.hid (HW.out.trans (hbw2.mono HW.out.size)); clear ho2 hbw2)
          | (at_builtin; go_loud (refine wpl_app1l rfl (.tmp 24) (.tmp 26) 23 rfl 22 .u8 24 Try.underlying23 Try.info_sl w.heap.size _ k pre rfl (HU2.out.keep ((Below.refl _ _).alloc (Nat.le_refl _) _)) ⟨w2.heap.size, 0, none⟩ (.slice y2 g1.length c2) g1 rfl (alloc_cell _ _ _) ((RI.own HO2.out).keep ((Below.refl _ _).alloc (Nat.le_refl _) _)) (fun _ g hgg => (own_apart HO2.out (by decide) g hgg).keep ((Below.refl _ _).alloc (Nat.le_refl _) _)) (by omega) (by omega) w.heap.size w (HW2.out.alloc HW2.out.size _) (Nat.le_refl _) (HW2.out.alloc HW2.out.size _).size ?_); intro v' w3 HO3 HB3))
        go_roundw
        case rel =>
          refine ⟨at_ + g2, k + 1, pre ++ [g1], by go_num, by omega, by omega, ?_, HO3, HB3⟩
          have h1 := HV.out; rw [HV2.out] at h1
          rw [List.drop_drop] at h1
          rw [List.append_assoc]
          exact h1
        case measure => simp [intOf]; omega
      · have hv := uf_bad _ hnil (by rw [hg]; exact hg3)
        rw [hg] at hv
        have HV2 := Lib.hid hv
        clear hg hb2 hnil hv
        go_wp2_with (first
          | (go_at_call 15; (with_reducible refine (rgetf_any _ _ _ _ HF.out HB2.out (by omega) g1 g2 g3 HG.out).mono ?_); rintro e w2 ⟨v2, rfl, ho2, hbw2⟩; have HW2 := Lib.hid (HW.out.trans (hbw2.mono HW.out.size)); clear ho2 hbw2))
        go_ret2
        have h1 := HV.out; rw [HV2.out] at h1
        have h2 : (uf zs).2 = g3 := by rw [h1]
        have h3 := HE.out; rw [h2] at h3; subst h3
        have h4 := HNS.out; rw [ur_err _ (by rw [h2]; exact hg3)] at h4; subst h4
        have h5 := HN.out; simp at h5; subst h5
        exact ⟨_, rfl, RL.nil _ _, HW2.out⟩
    · go_wp2
      go_ret2
      have h1 := HV.out
      rw [show zs.drop at_ = [] from List.drop_eq_nil_of_le (by rw [HZ.out]; omega), uf_nil, List.append_nil] at h1
      have h2 : (uf zs).2 = 0 := by rw [h1]
      have h3 := HE.out; rw [h2] at h3; subst h3
      have h4 := HNS.out; rw [ur_zero _ h2, h1] at h4
      simp only at h4; subst h4
      have h5 := HO.out.rl.length
      have h6 := HN.out; rw [h5] at h6; subst h6
      exact ⟨_, rfl, HO.out.rl, HW.out⟩
set_option maxRecDepth 8000 in
set_option maxHeartbeats 1000000 in
theorem same_some (b off n cap : Nat) (la : List (List Int)) (b2 off2 cap2 : Nat) (lb : List (List Int)) (w : World) (ha : RL .u8 w (.slice (some ⟨b, off, none⟩) n cap) n la) (hb : RL .u8 w (.slice (some ⟨b2, off2, none⟩) n cap2) n lb)
    (hba : ∀ l ∈ la, isB l) (hbb : ∀ l ∈ lb, isB l) (h0 : 0 < n) :
    Calls Try.prog 13 #[.slice (some ⟨b, off, none⟩) n cap, .slice (some ⟨b2, off2, none⟩) n cap2] w fun e w' => e = .returned (.bool (decide (la = lb))) ∧ Below w.heap.size w w' := by
  obtain ⟨b', off', hbo, hat⟩ := ha.at_ h0
  simp only [Option.some.injEq, Addr.mk.injEq, and_true] at hbo
  obtain ⟨rfl, rfl⟩ := hbo
  obtain ⟨b', off', hbo, hat2⟩ := hb.at_ h0
  simp only [Option.some.injEq, Addr.mk.injEq, and_true] at hbo
  obtain ⟨rfl, rfl⟩ := hbo
  have HA := Lib.hid hat
  have HB := Lib.hid hat2
  have HLA := Lib.hid ha.length
  have HLB := Lib.hid hb.length
  have hn : (n : Int) ≤ 9223372036854775807 := by have := ha.le; omega
  have HBA := Lib.hid hba
  have HBB := Lib.hid hbb
  clear hat hat2 ha hb hba hbb
  go_enter Try.func13, Try.ntmps13
  go_wp2
  go_loopw [5] (fun iv wr => ∃ i : Nat, iv = .int .i64 i ∧ i ≤ n ∧ Hid (la.take i = lb.take i) ∧ Hid (Below w.heap.size w wr)) (fun iv _ => n - (intOf iv).toNat)
  case atStart => exact ⟨0, rfl, by omega, Lib.hid (by simp), Lib.hid (Below.refl _ _)⟩
  case round =>
    obtain ⟨i, rfl, hi, HE, HW⟩ := hrel
    by_cases hlt : (i : Int) < (n : Int)
    · obtain ⟨x1, k1, hc1, hr1⟩ := HA.out i (by omega)
      obtain ⟨x2, k2, hc2, hr2⟩ := HB.out i (by omega)
      have HT := Lib.hid (show la.take (i + 1) = la.take i ++ [la.getD i []] from by rw [List.take_succ_eq_append_getElem (by rw [HLA.out]; omega)]; simp [List.getD, HLA.out, show i < n by omega])
      have HT2 := Lib.hid (show lb.take (i + 1) = lb.take i ++ [lb.getD i []] from by rw [List.take_succ_eq_append_getElem (by rw [HLB.out]; omega)]; simp [List.getD, HLB.out, show i < n by omega])
      have HI1 := Lib.hid (show isB (la.getD i []) from HBA.out _ (by simp [List.getD, HLA.out, show i < n by omega]))
      have HI2 := Lib.hid (show isB (lb.getD i []) from HBB.out _ (by simp [List.getD, HLB.out, show i < n by omega]))
      have HNE := Lib.hid (show ¬ la.getD i [] = lb.getD i [] → ¬ la = lb from fun h1 h2 => h1 (by rw [h2]))
      generalize la.getD i [] = l1 at hc1 hr1 HT HI1 HNE
      generalize lb.getD i [] = l2 at hc2 hr2 HT2 HI2 HNE
      have HR1 := Lib.hid (hr1.keep HW.out)
      have HR2 := Lib.hid (hr2.keep HW.out)
      have hcell1 := cell_keep HW.out hc1
      have hcell2 := cell_keep HW.out hc2
      obtain ⟨s1, hs1⟩ : ∃ s, strOfNums l1 = s := ⟨_, rfl⟩
      obtain ⟨s2, hs2⟩ : ∃ s, strOfNums l2 = s := ⟨_, rfl⟩
      have hv1 : ∀ m, (convert 22 9 (.slice x1 l1.length k1)).run Try.prog (wr.drewN m) = .ok (.string s1) (wr.drewN m) := fun m => by
        rw [← hs1]; exact conv_of Try.underlying22 Try.underlying5 Try.underlying9 (HR1.out.keep (drew_below wr m))
      have hv2 : ∀ m, (convert 22 9 (.slice x2 l2.length k2)).run Try.prog (wr.drewN m) = .ok (.string s2) (wr.drewN m) := fun m => by
        rw [← hs2]; exact conv_of Try.underlying22 Try.underlying5 Try.underlying9 (HR2.out.keep (drew_below wr m))
      have HS := Lib.hid (fun h : s1 = s2 => strOfNums_inj HI1.out HI2.out (by rw [hs1, hs2]; exact h))
      have HSN := Lib.hid (fun h : l1 = l2 => (show s1 = s2 from by rw [← hs1, ← hs2, h]))
      clear hs1 hs2
      clear hc1 hc2 hr1 hr2
      by_cases he : s1 = s2
      · subst he
        have HTT := Lib.hid (show la.take (i + 1) = lb.take (i + 1) from by rw [HT.out, HT2.out, HE.out, HS.out rfl])
        go_wp2_with fail
        go_quiet (fail)
        go_wp2
        go_roundw
        case rel => exact ⟨i + 1, by go_num, by omega, HTT, Lib.hid (HW.out.trans ((drew_below wr nq).mono HW.out.size))⟩
        case measure => simp [intOf]; omega
      · have hse := str_ne he
        have HX := Lib.hid (show ¬ la = lb from HNE.out fun h => he (HSN.out h))
        clear he
        go_wp2_with fail
        go_quiet (fail)
        go_wp2
        go_ret
        exact ⟨by show Ending.returned (Value.bool false) = _; rw [decide_eq_false HX.out], HW.out.trans ((drew_below wr nq).mono HW.out.size)⟩
    · go_wp2
      go_ret
      have h5 := HE.out
      rw [List.take_of_length_le (by rw [HLA.out]; omega), List.take_of_length_le (by rw [HLB.out]; omega)] at h5
      exact ⟨by show Ending.returned (Value.bool true) = _; rw [decide_eq_true h5], HW.out⟩
set_option maxRecDepth 8000 in
theorem same_none (a a2 : Option Addr) (cap cap2 : Nat) (w : World) :
    Calls Try.prog 13 #[.slice a 0 cap, .slice a2 0 cap2] w fun e w' => e = .returned (.bool true) ∧ w = w' := by
  go_enter Try.func13, Try.ntmps13
  go_wp2
  refine wp_loop_rounds 1 ?_
  rw [rounds_succ]
  go_wp2
  go_ret
  exact ⟨rfl, rfl⟩
set_option maxRecDepth 8000 in
theorem same_unlike (a a2 : Option Addr) (n m cap cap2 : Nat) (h : ¬ (n : Int) = m) (w : World) :
    Calls Try.prog 13 #[.slice a n cap, .slice a2 m cap2] w fun e w' => e = .returned (.bool false) ∧ w = w' := by
  go_enter Try.func13, Try.ntmps13
  go_wp2
  go_ret
  exact ⟨rfl, rfl⟩
theorem same_any (va vb : Value) (n m : Nat) (la lb : List (List Int)) (w : World) (ha : RL .u8 w va n la) (hb : RL .u8 w vb m lb) (hba : ∀ l ∈ la, isB l) (hbb : ∀ l ∈ lb, isB l) :
    Calls Try.prog 13 #[va, vb] w fun e w' => e = .returned (.bool (decide (la = lb))) ∧ Below w.heap.size w w' := by
  obtain ⟨a, cap, rfl, _⟩ := ha.form
  obtain ⟨a2, cap2, rfl, _⟩ := hb.form
  by_cases h : n = m
  · subst h
    by_cases h0 : 0 < n
    · obtain ⟨b, off, rfl, _⟩ := ha.at_ h0
      obtain ⟨b2, off2, rfl, _⟩ := hb.at_ h0
      exact same_some b off n cap la b2 off2 cap2 lb w ha hb hba hbb h0
    · obtain rfl : n = 0 := by omega
      obtain rfl : la = [] := List.length_eq_zero_iff.1 ha.length
      obtain rfl : lb = [] := List.length_eq_zero_iff.1 hb.length
      exact (same_none a a2 cap cap2 w).mono fun _ _ ⟨he, hw⟩ => ⟨he, by subst hw; exact Below.refl _ _⟩
  · have hne : ¬ la = lb := fun h2 => h (by rw [← ha.length, ← hb.length, h2])
    exact (same_unlike a a2 n m cap cap2 (by omega) w).mono fun _ _ ⟨he, hw⟩ => ⟨by rw [he, decide_eq_false hne], by subst hw; exact Below.refl _ _⟩
theorem few_yes (v : Value) (n : Nat) (ls : List (List Int)) (w : World) (h : RL .u8 w v n ls) (hn : (n : Int) ≤ 200) :
    Calls Try.prog 6 #[v] w fun e w' => e = .returned (.bool true) ∧ w = w' := by
  obtain ⟨a, cap, rfl, _⟩ := h.form
  clear h
  go_enter Try.func6, Try.ntmps6
  go_wp2
  go_ret
  exact ⟨by simp, rfl⟩
theorem few_no (v : Value) (n : Nat) (ls : List (List Int)) (w : World) (h : RL .u8 w v n ls) (hn : ¬ (n : Int) ≤ 200) :
    Calls Try.prog 6 #[v] w fun e w' => e = .returned (.bool false) ∧ w = w' := by
  obtain ⟨a, cap, rfl, _⟩ := h.form
  clear h
  go_enter Try.func6, Try.ntmps6
  go_wp2
  go_ret
  exact ⟨by simp, rfl⟩
end Go.Proofs.Ytkgpbkkcpcdogaa
