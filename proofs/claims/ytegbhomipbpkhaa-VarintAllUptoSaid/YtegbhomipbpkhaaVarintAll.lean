/-
  WHAT All OF LAYER 2 (varint) AND OF ITS REFERENCE ANSWER, for every bytes whose numbers find room (8 bytes each, 2^47 together).
-/
import Derived.Test.YtegbhomipbpkhaaVarintGet
namespace Go.Proofs.Ytegbhomipbpkhaa
open Go.RowKit
theorem Try.info_u64 : (Try.prog.info? 23).map (fun i => (i.zero, i.size, i.bytes)) = some (some (.int .u64 0), 1, 8) := by kernel_rfl
/-- what All tells -/
def ar (l : List Int) : List Int := if (av l).2 = 0 then (av l).1 else []

theorem ar_zero (l : List Int) (h : (av l).2 = 0) : ar l = (av l).1 := by unfold ar; rw [if_pos h]
theorem ar_err (l : List Int) (h : (av l).2 ≠ 0) : ar l = [] := by unfold ar; rw [if_neg h]
set_option maxRecDepth 8000 in
set_option maxHeartbeats 800000 in
theorem all_any (v : Value) (len : Nat) (zs : List Int) (w : World) (hri : RI .u8 w v len zs) (hb : ∀ x ∈ zs, 0 ≤ x ∧ x ≤ 255) (hlen : len * 8 ≤ 140737488355328) (n : Nat) (ns : List Int) (e3 : Int) (hns : ar zs = ns) (hn : ns.length = n) (he : (av zs).2 = e3) :
    Calls Try.prog 12 #[v] w fun e w' => ∃ v', e = .returned (.tuple #[v', .int .i64 e3]) ∧ RI .u64 w' v' n ns ∧ Below w.heap.size w w' := by
  have hz := hri.length
  have HR := Lib.hid hri
  obtain ⟨a, cap, rfl, _, hlc, hc63, _, _⟩ := hri
  have HNS := Lib.hid hns
  have HN := Lib.hid hn
  have HE := Lib.hid he
  have HB := Lib.hid hb
  have HZ := Lib.hid hz
  clear hns hn he hb hz
  have hl2 : (len : Int) * 8 ≤ 140737488355328 := by omega
  clear hlen
  go_enter Try.func12, Try.ntmps12
  go_wp2
  go_loopw [4, 5] (fun x i wr => ∃ (at_ k : Nat) (pre : List Int), i = .int .i64 at_ ∧ at_ ≤ len ∧ k ≤ at_ ∧ Hid (av zs = (pre ++ (av (zs.drop at_)).1, (av (zs.drop at_)).2)) ∧ Hid (wr.ownsRow w.heap.size 23 1 x k (il .u64 pre)) ∧ Hid (Below w.heap.size w wr)) (fun _ i _ => len - (intOf i).toNat)
  case atStart => exact ⟨0, 0, [], rfl, by omega, by omega, by rw [List.drop_zero, List.nil_append]; exact rfl, World.ownsRow_nil _ _ _ _, Below.refl _ _⟩
  case round =>
    obtain ⟨at_, k, pre, rfl, hat, hk, HV, HO, HW⟩ := hrel
    by_cases hlt : at_ < len
    · obtain ⟨⟨g1, g2, g3⟩, hg⟩ : ∃ g, gv 0 0 (zs.drop at_) = g := ⟨_, rfl⟩
      have hne : ¬ cap = at_ := by omega
      have hb2 : ∀ x ∈ zs.drop at_, 0 ≤ x ∧ x ≤ 255 := fun x hx => HB.out x (List.mem_of_mem_drop hx)
      have hnil : zs.drop at_ ≠ [] := by
        intro h0; have := congrArg List.length h0; simp only [List.length_drop, HZ.out, List.length_nil] at this; omega
      have HG := Lib.hid hg
      have HB2 := Lib.hid hb2
      have HF := Lib.hid ((HR.out.keep HW.out).from' at_ (by omega) hne)
      by_cases hg3 : g3 = 0
      · subst hg3
        have hv := av_ok _ hnil hb2 (by rw [hg])
        have hp := gv_pos _ (by rw [hg]) hb2
        have hle := gv_len (zs.drop at_) 0 0
        rw [hg] at hv hp hle
        simp only [List.length_drop, HZ.out] at hle
        simp only at hp hv
        have HV2 := Lib.hid hv
        have hg2 : 0 < g2 ∧ at_ + g2 ≤ len := by omega
        clear hg hb2 hnil hv hle hp
        obtain ⟨hg2a, hg2b⟩ := hg2
        go_wp2_with (first
          | (go_at_call 9; (with_reducible refine (get_any HF.out HB2.out HG.out).mono ?_); rintro e w' ⟨rfl, rfl⟩)
          | (at_builtin; refine wpl_app1 rfl (.tmp 24) (.tmp 26) 32 rfl 23 .u64 8 Try.underlying32 Try.info_u64 w.heap.size _ k pre rfl (HO.out.alloc _) ⟨wr.heap.size, 0, none⟩ g1 rfl (by simp) (by omega) (by omega) w.heap.size w (HW.out.alloc HW.out.size _) (Nat.le_refl _) (by have := HW.out.size; simp; omega) ?_; intro v' w3 HO3 HB3))
        go_roundw
        case rel =>
          refine ⟨at_ + g2, k + 1, pre ++ [g1], by go_num, by omega, by omega, ?_, HO3, HB3⟩
          have h1 := HV.out; rw [HV2.out] at h1
          rw [List.drop_drop] at h1
          rw [List.append_assoc]
          exact h1
        case measure => simp [intOf]; omega
      · have hv := av_bad _ hnil (by rw [hg]; exact hg3)
        rw [hg] at hv
        have HV2 := Lib.hid hv
        clear hg hb2 hnil hv
        go_wp2_with (first
          | (go_at_call 9; (with_reducible refine (get_any HF.out HB2.out HG.out).mono ?_); rintro e w' ⟨rfl, rfl⟩))
        go_ret2
        have h1 := HV.out; rw [HV2.out] at h1
        have h2 : (av zs).2 = g3 := by rw [h1]
        have h3 := HE.out; rw [h2] at h3; subst h3
        have h4 := HNS.out; rw [ar_err _ (by rw [h2]; exact hg3)] at h4; subst h4
        have h5 := HN.out; simp at h5; subst h5
        exact ⟨_, rfl, RI.nil _ _, HW.out⟩
    · go_wp2
      go_ret2
      have h1 := HV.out
      rw [show zs.drop at_ = [] from List.drop_eq_nil_of_le (by rw [HZ.out]; omega), av_nil, List.append_nil] at h1
      have h2 : (av zs).2 = 0 := by rw [h1]
      have h3 := HE.out; rw [h2] at h3; subst h3
      have h4 := HNS.out; rw [ar_zero _ h2, h1] at h4
      simp only at h4; subst h4
      have h5 := (RI.own HO.out).length
      have h6 := HN.out; rw [h5] at h6; subst h6
      exact ⟨_, rfl, RI.own HO.out, HW.out⟩
set_option maxRecDepth 8000 in
set_option maxHeartbeats 800000 in
theorem rall_any (v : Value) (len : Nat) (zs : List Int) (w : World) (hri : RI .u8 w v len zs) (hb : ∀ x ∈ zs, 0 ≤ x ∧ x ≤ 255) (hlen : len * 8 ≤ 140737488355328) (n : Nat) (ns : List Int) (e3 : Int) (hns : ar zs = ns) (hn : ns.length = n) (he : (av zs).2 = e3) :
    Calls Try.prog 13 #[v] w fun e w' => ∃ v', e = .returned (.tuple #[v', .int .i64 e3]) ∧ RI .u64 w' v' n ns ∧ Below w.heap.size w w' := by
  have hz := hri.length
  have HR := Lib.hid hri
  obtain ⟨a, cap, rfl, _, hlc, hc63, _, _⟩ := hri
  have HNS := Lib.hid hns
  have HN := Lib.hid hn
  have HE := Lib.hid he
  have HB := Lib.hid hb
  have HZ := Lib.hid hz
  clear hns hn he hb hz
  have hl2 : (len : Int) * 8 ≤ 140737488355328 := by omega
  clear hlen
  go_enter Try.func13, Try.ntmps13
  go_wp2
  go_loopw [4, 5] (fun x i wr => ∃ (at_ k : Nat) (pre : List Int), i = .int .i64 at_ ∧ at_ ≤ len ∧ k ≤ at_ ∧ Hid (av zs = (pre ++ (av (zs.drop at_)).1, (av (zs.drop at_)).2)) ∧ Hid (wr.ownsRow w.heap.size 23 1 x k (il .u64 pre)) ∧ Hid (Below w.heap.size w wr)) (fun _ i _ => len - (intOf i).toNat)
  case atStart => exact ⟨0, 0, [], rfl, by omega, by omega, by rw [List.drop_zero, List.nil_append]; exact rfl, World.ownsRow_nil _ _ _ _, Below.refl _ _⟩
  case round =>
    obtain ⟨at_, k, pre, rfl, hat, hk, HV, HO, HW⟩ := hrel
    by_cases hlt : at_ < len
    · obtain ⟨⟨g1, g2, g3⟩, hg⟩ : ∃ g, gv 0 0 (zs.drop at_) = g := ⟨_, rfl⟩
      have hne : ¬ cap = at_ := by omega
      have hb2 : ∀ x ∈ zs.drop at_, 0 ≤ x ∧ x ≤ 255 := fun x hx => HB.out x (List.mem_of_mem_drop hx)
      have hnil : zs.drop at_ ≠ [] := by
        intro h0; have := congrArg List.length h0; simp only [List.length_drop, HZ.out, List.length_nil] at this; omega
      have HG := Lib.hid hg
      have HB2 := Lib.hid hb2
      have HF := Lib.hid ((HR.out.keep HW.out).from' at_ (by omega) hne)
      by_cases hg3 : g3 = 0
      · subst hg3
        have hv := av_ok _ hnil hb2 (by rw [hg])
        have hp := gv_pos _ (by rw [hg]) hb2
        have hle := gv_len (zs.drop at_) 0 0
        rw [hg] at hv hp hle
        simp only [List.length_drop, HZ.out] at hle
        simp only at hp hv
        have HV2 := Lib.hid hv
        have hg2 : 0 < g2 ∧ at_ + g2 ≤ len := by omega
        clear hg hb2 hnil hv hle hp
        obtain ⟨hg2a, hg2b⟩ := hg2
        go_wp2_with (first
          | (go_at_call 11; (with_reducible refine (rget_any HF.out HB2.out HG.out).mono ?_); rintro e w' ⟨rfl, rfl⟩)
          | (at_builtin; refine wpl_app1 rfl (.tmp 24) (.tmp 26) 32 rfl 23 .u64 8 Try.underlying32 Try.info_u64 w.heap.size _ k pre rfl (HO.out.alloc _) ⟨wr.heap.size, 0, none⟩ g1 rfl (by simp) (by omega) (by omega) w.heap.size w (HW.out.alloc HW.out.size _) (Nat.le_refl _) (by have := HW.out.size; simp; omega) ?_; intro v' w3 HO3 HB3))
        go_roundw
        case rel =>
          refine ⟨at_ + g2, k + 1, pre ++ [g1], by go_num, by omega, by omega, ?_, HO3, HB3⟩
          have h1 := HV.out; rw [HV2.out] at h1
          rw [List.drop_drop] at h1
          rw [List.append_assoc]
          exact h1
        case measure => simp [intOf]; omega
      · have hv := av_bad _ hnil (by rw [hg]; exact hg3)
        rw [hg] at hv
        have HV2 := Lib.hid hv
        clear hg hb2 hnil hv
        go_wp2_with (first
          | (go_at_call 11; (with_reducible refine (rget_any HF.out HB2.out HG.out).mono ?_); rintro e w' ⟨rfl, rfl⟩))
        go_ret2
        have h1 := HV.out; rw [HV2.out] at h1
        have h2 : (av zs).2 = g3 := by rw [h1]
        have h3 := HE.out; rw [h2] at h3; subst h3
        have h4 := HNS.out; rw [ar_err _ (by rw [h2]; exact hg3)] at h4; subst h4
        have h5 := HN.out; simp at h5; subst h5
        exact ⟨_, rfl, RI.nil _ _, HW.out⟩
    · go_wp2
      go_ret2
      have h1 := HV.out
      rw [show zs.drop at_ = [] from List.drop_eq_nil_of_le (by rw [HZ.out]; omega), av_nil, List.append_nil] at h1
      have h2 : (av zs).2 = 0 := by rw [h1]
      have h3 := HE.out; rw [h2] at h3; subst h3
      have h4 := HNS.out; rw [ar_zero _ h2, h1] at h4
      simp only at h4; subst h4
      have h5 := (RI.own HO.out).length
      have h6 := HN.out; rw [h5] at h6; subst h6
      exact ⟨_, rfl, RI.own HO.out, HW.out⟩
end Go.Proofs.Ytegbhomipbpkhaa
