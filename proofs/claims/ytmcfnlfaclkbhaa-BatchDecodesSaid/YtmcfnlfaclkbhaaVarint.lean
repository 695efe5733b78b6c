/-
  WHAT THE FUNCTIONS OF LAYER 2 (varint) AND OF ITS REFERENCE ANSWER, each for every input that its types allow; bytes must lie where the slice says. No condition beyond.
-/
import Derived.Test.YtmcfnlfaclkbhaaVarintMath
namespace Go.Proofs.Ytmcfnlfaclkbhaa
open Go.RowKit
theorem Try.info_u8 : (Try.prog.info? 5).map (fun i => (i.zero, i.size, i.bytes)) = some (some (.int .u8 0), 1, 1) := by kernel_rfl
theorem Try.elem_u8 : (Try.prog.info? 5).map (·.size) = some 1 := by kernel_rfl

set_option maxRecDepth 8000 in
set_option maxHeartbeats 400000 in
theorem size_any (n : Nat) (h : n < 18446744073709551616) (w : World) : Calls Try.prog 53 #[.int .u64 n] w fun e w' => e = .returned (.int .i64 (vb n).length) ∧ w = w' := by
  have hl := vb_len n h
  have hn : (n : Int) ≤ 18446744073709551615 := by omega
  clear h
  have HL := Lib.hid hl
  clear hl
  go_enter Try.func53, Try.ntmps53
  go_wp2
  go_loop [0, 3] (fun x s => ∃ (m k : Nat), m ≤ n ∧ x = .int .u64 m ∧ s = .int .i64 k ∧ k + (vb m).length = (vb n).length + 1 ∧ k ≤ 10) (fun x _ => (intOf x).toNat)
  case atStart => exact ⟨n, 1, Nat.le_refl _, rfl, rfl, by have := HL.out; omega, by omega⟩
  case round =>
    obtain ⟨m, k, hm, rfl, rfl, hk, hk10⟩ := hrel
    have HK := Lib.hid hk; clear hk
    have hm2 : (m : Int) ≤ 18446744073709551615 := by omega
    by_cases hlt : m < 128
    · go_wp2
      go_ret
      refine ⟨ret_int ?_, rfl⟩
      have := HK.out; rw [vb_small m hlt] at this; simp at this; omega
    · go_wp2
      go_round
      case rel =>
        have h1 := HK.out; have h2 := HL.out; have h3 := vb_pos (m / 128); rw [vb_big m (by omega)] at h1; simp only [List.length_cons] at h1
        exact ⟨m / 128, k + 1, by omega, by go_num, by go_num, by omega, by omega⟩
      case measure => simp [intOf]; omega
theorem size_at (n q : Nat) (h : n < 18446744073709551616) (hq : (vb n).length = q) (w : World) : Calls Try.prog 53 #[.int .u64 n] w fun e w' => e = .returned (.int .i64 q) ∧ w = w' :=
  (size_any n h w).mono fun _ _ ⟨he, hw⟩ => ⟨by rw [he, hq], hw⟩

set_option maxRecDepth 8000 in
set_option maxHeartbeats 800000 in
theorem put_any (n : Nat) (h : n < 18446744073709551616) (v : Value) (len : Nat) (zs : List Int) (w : World) (hri : RI .u8 w v len zs) (hlen : len ≤ 140737488355318) :
    Calls Try.prog 40 #[v, .int .u64 n] w fun e w' => ∃ v', e = .returned v' ∧
      w'.ownsRow w.heap.size 5 1 v' (len + (vb n).length) (il .u8 (zs ++ vb n)) ∧ Below w.heap.size w w' := by
  obtain ⟨q, hq⟩ : ∃ q, (vb n).length = q := ⟨_, rfl⟩
  have hq10 : q ≤ 10 := by rw [← hq]; exact vb_len n h
  have hn : (n : Int) ≤ 18446744073709551615 := by omega
  have hz := hri.length
  obtain ⟨cs, hcs⟩ : ∃ cs, cs = il .u8 zs := ⟨_, rfl⟩
  have HZ := Lib.hid hz
  have HN := Lib.hid h
  have HR := Lib.hid hri
  obtain ⟨a, cap, rfl, _⟩ := hri
  rw [hq]
  have HQ := Lib.hid hq
  have HCS := Lib.hid hcs
  clear hz h hq hcs
  have hl2 : (len : Int) ≤ 140737488355318 := by omega
  clear hlen
  go_enter Try.func40, Try.ntmps40
  go_wp2_with (first
    | (go_at_call 53; (with_reducible refine (size_at n q HN.out HQ.out _).mono ?_); rintro e w' ⟨rfl, rfl⟩)
    | (at_make; refine wpl_make rfl (.tmp 7) (.tmp 12) 24 rfl 5 .u8 1 Try.underlying24 Try.info_u8 .i64 .i64 _ _ len (len + q) rfl rfl rfl (by omega) (by omega) (by omega) (by omega) w.heap.size w (Below.refl _ _) (Nat.le_refl _) ?_; intro w1 HG HB)
    | (with_reducible refine wpList_copy_splice rfl (.tmp 14) (.tmp 15) 24 24 rfl 5 Try.underlying24 Try.elem_u8 _ _ _ _ _ _ rfl rfl w.heap.size 0 _ _ HG.out cs ?c1 ?c2 ?c3 ?c4 w.heap.size w HB.out (Nat.le_refl _) ?_))
  case c1 => rw [HCS.out, il_length, HZ.out]; exact (Nat.min_self _).symm
  case c2 =>
    intro h0
    rw [HCS.out] at h0 ⊢
    rw [il_length, HZ.out] at h0
    obtain ⟨ad, e1, e2⟩ := (HR.out.keep HB.out).cells h0
    exact ⟨ad, e1, e2⟩
  case c3 => rw [HCS.out, il_length, HZ.out]; simp
  case c4 => rw [HCS.out]; exact il_one _ _
  intro w2 HG2 hB2
  have HO := Lib.hid (show w2.ownsRow w.heap.size 5 1 (.slice (some ⟨w.heap.size, 0, none⟩) len (len + q)) len (il .u8 zs) from by
    have := HG2.out; rw [HCS.out] at this; exact own_spliced this (Nat.le_refl _) HZ.out (by omega) (by unfold maxLen; omega))
  have HB2 := Lib.hid hB2
  clear hB2 HB HG HG2
  go_wp2
  go_loopw [1, 5] (fun x v wr => ∃ (m k : Nat) (ys : List Int), x = .int .u64 m ∧ (m : Int) ≤ 18446744073709551615 ∧ k ≤ 9 ∧ Hid (ys.length = k ∧ ys ++ vb m = vb n) ∧ Hid (wr.ownsRow w.heap.size 5 1 v (len + k) (il .u8 (zs ++ ys))) ∧ Hid (Below w.heap.size w wr)) (fun x _ _ => (intOf x).toNat)
  case atStart => exact ⟨n, 0, [], rfl, hn, by omega, ⟨rfl, rfl⟩, by rw [List.append_nil]; exact HO, HB2⟩
  case round =>
    obtain ⟨m, k, ys, rfl, hm, hk9, HY, HO, HB⟩ := hrel
    by_cases hlt : m < 128
    · go_wp2_with (first
        | (at_builtin; refine wpl_app1 rfl (.tmp 28) (.tmp 31) 24 rfl 5 .u8 1 Try.underlying24 Try.info_u8 w.heap.size _ (len + k) (zs ++ ys) rfl (HO.out.alloc _) ⟨wr.heap.size, 0, none⟩ (m : Int) rfl (by simp) (by omega) (by omega) w.heap.size w (HB.out.alloc HB.out.size _) (Nat.le_refl _) (by have := HB.out.size; simp; omega) ?_; intro v' w3 HO3 HB3))
      go_ret
      have h1 := HY.out.2; rw [vb_small m hlt] at h1
      have h2 := HQ.out; rw [← h1] at h2; simp at h2
      have h3 := HY.out.1
      refine ⟨_, rfl, ?_, HB3.out⟩
      have := HO3.out
      rw [List.append_assoc, h1] at this
      rw [show len + q = len + k + 1 from by omega]
      exact this
    · go_wp2_with (first
        | (at_builtin; refine wpl_app1 rfl (.tmp 19) (.tmp 24) 24 rfl 5 .u8 1 Try.underlying24 Try.info_u8 w.heap.size _ (len + k) (zs ++ ys) rfl (HO.out.alloc _) ⟨wr.heap.size, 0, none⟩ ((m % 128 + 128 : Nat) : Int) rfl (by simp) (by omega) (by omega) w.heap.size w (HB.out.alloc HB.out.size _) (Nat.le_refl _) (by have := HB.out.size; simp; omega) ?_; intro v' w3 HO3 HB3))
      go_roundw
      case rel =>
        have h1 := HY.out.2; rw [vb_big m (by omega)] at h1
        have h2 := HQ.out; rw [← h1] at h2; simp at h2
        have h3 := HY.out.1
        have h4 := vb_pos (m / 128)
        refine ⟨m / 128, k + 1, ys ++ [((m % 128 + 128 : Nat) : Int)], by go_num, by omega, by omega, ⟨by simp; omega, by rw [List.append_assoc]; exact h1⟩, ?_, HB3⟩
        have := HO3.out
        rw [List.append_assoc] at this
        exact this
      case measure => simp [intOf]; omega

set_option maxRecDepth 8000 in
set_option maxHeartbeats 800000 in
theorem rput_any (n : Nat) (h : n < 18446744073709551616) (v : Value) (len : Nat) (zs : List Int) (w : World) (hri : RI .u8 w v len zs) (hlen : len ≤ 140737488355318) :
    Calls Try.prog 35 #[v, .int .u64 n] w fun e w' => ∃ v', e = .returned v' ∧
      w'.ownsRow w.heap.size 5 1 v' (len + (vb n).length) (il .u8 (zs ++ vb n)) ∧ Below w.heap.size w w' := by
  obtain ⟨q, hq⟩ : ∃ q, (vb n).length = q := ⟨_, rfl⟩
  have hq10 : q ≤ 10 := by rw [← hq]; exact vb_len n h
  have hn : (n : Int) ≤ 18446744073709551615 := by omega
  have HR := Lib.hid hri
  obtain ⟨a, cap, rfl, _⟩ := hri
  rw [hq]
  have HQ := Lib.hid hq
  clear h hq
  have hl2 : (len : Int) ≤ 140737488355318 := by omega
  clear hlen
  go_enter Try.func35, Try.ntmps35
  go_wp2_with (first
    | (at_builtin; refine wpl_appn rfl (.tmp 6) (.tmp 7) 24 rfl 5 .u8 1 Try.underlying24 Try.info_u8 w.heap.size _ 0 [] rfl (World.ownsRow_lit w #[] 0 (Nat.le_refl _) (by unfold maxLen; omega) rfl) _ len zs rfl (HR.out.keep ((Below.refl _ _).alloc (Nat.le_refl _) _)) (by omega) (by omega) w.heap.size w ((Below.refl _ _).alloc (Nat.le_refl _) _) (Nat.le_refl _) (by simp) ?_; intro v1 w1 HO HB))
  rw [Nat.zero_add] at HO
  go_loopw [1, 5] (fun x v wr => ∃ (m k : Nat) (ys : List Int), x = .int .u64 m ∧ (m : Int) ≤ 18446744073709551615 ∧ k ≤ 9 ∧ Hid (ys.length = k ∧ ys ++ vb m = vb n) ∧ Hid (wr.ownsRow w.heap.size 5 1 v (len + k) (il .u8 (zs ++ ys))) ∧ Hid (Below w.heap.size w wr)) (fun x _ _ => (intOf x).toNat)
  case atStart => exact ⟨n, 0, [], rfl, hn, by omega, ⟨rfl, rfl⟩, by rw [List.append_nil]; exact HO, HB⟩
  case round =>
    obtain ⟨m, k, ys, rfl, hm, hk9, HY, HO, HB⟩ := hrel
    by_cases hlt : m < 128
    · go_wp2_with (first
        | (at_builtin; refine wpl_app1 rfl (.tmp 21) (.tmp 24) 24 rfl 5 .u8 1 Try.underlying24 Try.info_u8 w.heap.size _ (len + k) (zs ++ ys) rfl (HO.out.alloc _) ⟨wr.heap.size, 0, none⟩ (m : Int) rfl (by simp) (by omega) (by omega) w.heap.size w (HB.out.alloc HB.out.size _) (Nat.le_refl _) (by have := HB.out.size; simp; omega) ?_; intro v' w3 HO3 HB3))
      go_ret
      have h1 := HY.out.2; rw [vb_small m hlt] at h1
      have h2 := HQ.out; rw [← h1] at h2; simp at h2
      have h3 := HY.out.1
      refine ⟨_, rfl, ?_, HB3.out⟩
      have := HO3.out
      rw [List.append_assoc, h1] at this
      rw [show len + q = len + k + 1 from by omega]
      exact this
    · go_wp2_with (first
        | (at_builtin; refine wpl_app1 rfl (.tmp 12) (.tmp 17) 24 rfl 5 .u8 1 Try.underlying24 Try.info_u8 w.heap.size _ (len + k) (zs ++ ys) rfl (HO.out.alloc _) ⟨wr.heap.size, 0, none⟩ ((m % 128 + 128 : Nat) : Int) rfl (by simp; omega) (by omega) (by omega) w.heap.size w (HB.out.alloc HB.out.size _) (Nat.le_refl _) (by have := HB.out.size; simp; omega) ?_; intro v' w3 HO3 HB3))
      go_roundw
      case rel =>
        have h1 := HY.out.2; rw [vb_big m (by omega)] at h1
        have h2 := HQ.out; rw [← h1] at h2; simp at h2
        have h3 := HY.out.1
        have h4 := vb_pos (m / 128)
        refine ⟨m / 128, k + 1, ys ++ [((m % 128 + 128 : Nat) : Int)], by go_num, by omega, by omega, ⟨by simp; omega, by rw [List.append_assoc]; exact h1⟩, ?_, HB3⟩
        have := HO3.out
        rw [List.append_assoc] at this
        exact this
      case measure => simp [intOf]; omega
end Go.Proofs.Ytmcfnlfaclkbhaa
