/-
  WHAT Get OF LAYER 2 (varint) AND OF ITS REFERENCE ANSWER, for every input; bytes must lie where the slice says. No condition beyond.
-/
import Derived.Test.YtmcfnlfaclkbhaaVarint
import Derived.WalkMore
namespace Go.Proofs.Ytmcfnlfaclkbhaa
open Go.RowKit
theorem drop_getD (zs : List Int) (k : Nat) (h : k < zs.length) : zs.drop k = zs.getD k 0 :: zs.drop (k + 1) := by
  rw [List.drop_eq_getElem_cons h]; simp [List.getD, h]
set_option maxRecDepth 8000 in
set_option maxHeartbeats 800000 in
theorem get_some (b off len cap : Nat) (zs : List Int) (w : World) (g1 g3 : Int) (g2 : Nat) (hz : zs.length = len) (hb : ∀ x ∈ zs, 0 ≤ x ∧ x ≤ 255) (hl : (len : Int) ≤ 9223372036854775807)
    (hc : ∀ j, j < len → w.cell? ⟨b, off + j, none⟩ = some (.int .u8 (zs.getD j 0))) (hg : gv 0 0 zs = (g1, g2, g3)) :
    Calls Try.prog 61 #[.slice (some ⟨b, off, none⟩) len cap] w fun e w' => e = .returned (.tuple #[.int .u64 g1, .int .i64 g2, .int .i64 g3]) ∧ w = w' := by
  have HC := Lib.hid hc
  have HZ := Lib.hid hz
  have HB := Lib.hid hb
  have HG := Lib.hid hg
  clear hc hz hb hg
  go_enter Try.func61, Try.ntmps61
  go_wp2; go_step3; go_wp2; go_step3; go_wp2
  go_loop [5, 10] (fun n i => ∃ (k : Nat) (acc : Int), i = .int .i64 k ∧ n = .int .u64 acc ∧ k ≤ len ∧ k ≤ 9 ∧ 0 ≤ acc ∧ Hid (acc < 2 ^ (7 * k)) ∧ Hid (gv k acc (zs.drop k) = (g1, g2, g3))) (fun _ i => len - (intOf i).toNat)
  case atStart => exact ⟨0, 0, rfl, rfl, by omega, by omega, by omega, Lib.hid (by decide), HG⟩
  case round =>
    obtain ⟨k, acc, rfl, rfl, hk, hk9, h0, HA, HG⟩ := hrel
    by_cases hlt : k < len
    · obtain ⟨x, hx⟩ : ∃ x, zs.getD k 0 = x := ⟨_, rfl⟩
      have hcell : w.cell? ⟨b, off + k, none⟩ = some (.int .u8 x) := by rw [← hx]; exact HC.out k hlt
      have hxb : 0 ≤ x ∧ x ≤ 255 := by
        rw [← hx]; exact (bytes_of_mem HB.out) k
      have HD := Lib.hid (show gv k acc (x :: zs.drop (k + 1)) = (g1, g2, g3) from by rw [← hx, ← drop_getD zs k (by rw [HZ.out]; exact hlt)]; exact HG.out)
      clear hx HG
      rcases (by omega : (k = 9 ∧ 1 < x) ∨ (k = 9 ∧ x = 0) ∨ (k = 9 ∧ x = 1) ∨ (0 < (k : Int) ∧ ¬ (k : Int) = 9 ∧ x = 0) ∨ (0 < (k : Int) ∧ ¬ (k : Int) = 9 ∧ x < 128 ∧ ¬ x = 0) ∨ (0 < (k : Int) ∧ ¬ (k : Int) = 9 ∧ 128 ≤ x ∧ ¬ x = 0) ∨ (k = 0 ∧ x < 128) ∨ (k = 0 ∧ 128 ≤ x)) with ⟨hk1, hx1⟩ | ⟨hk1, hx1⟩ | ⟨hk1, hx1⟩ | ⟨hk1, hk2, hx1⟩ | ⟨hk1, hk2, hx1, hx2⟩ | ⟨hk1, hk2, hx1, hx2⟩ | ⟨hk1, hx1⟩ | ⟨hk1, hx1⟩
      · subst hk1
        go_wp2
        try rw [Exit.noGoto_ret]
        go_ret3
        refine ⟨?_, rfl⟩
        have := HD.out
        rw [gv_cons, if_pos (by omega)] at this
        simp only [Prod.mk.injEq] at this
        obtain ⟨rfl, rfl, rfl⟩ := this
        rfl
      · subst hk1 hx1
        go_wp2
        try rw [Exit.noGoto_ret]
        go_ret3
        refine ⟨?_, rfl⟩
        have := HD.out
        rw [gv_cons, if_neg (by omega), if_pos (by omega)] at this
        simp only [Prod.mk.injEq] at this
        obtain ⟨rfl, rfl, rfl⟩ := this
        rfl
      · subst hk1 hx1
        have hw : IntKind.u64.wrap (acc + 9223372036854775808) = acc + 1 * 2 ^ (7 * 9) := by
          have := acc_step 9 acc 1 (by omega) h0 HA.out (by omega) (by omega) (by omega)
          rw [Int.one_mul, pow7_9] at *
          exact IntWalk.u64_in _ (by omega)
        have HW := Lib.hid hw; clear hw
        go_wp2
        try rw [Exit.noGoto_ret]
        go_ret3
        refine ⟨?_, rfl⟩
        have := HD.out
        rw [gv_cons, if_neg (by omega), if_neg (by omega), if_neg (by omega)] at this
        simp only [Prod.mk.injEq] at this
        obtain ⟨rfl, rfl, rfl⟩ := this
        rw [← HW.out]
        rfl
      · subst hx1
        go_wp2
        try rw [Exit.noGoto_ret]
        go_ret3
        refine ⟨?_, rfl⟩
        have := HD.out
        rw [gv_cons, if_neg (by omega), if_pos (by omega)] at this
        simp only [Prod.mk.injEq] at this
        obtain ⟨rfl, rfl, rfl⟩ := this
        rfl
      · have hw : IntKind.u64.wrap (acc + IntKind.u64.wrap (x * 2 ^ (7 * k))) = acc + x * 2 ^ (7 * k) := by
          have := acc_step k acc x hk9 h0 HA.out (by omega) (by omega) (by omega)
          rw [IntWalk.u64_in (x * 2 ^ (7 * k)) (by omega), IntWalk.u64_in _ (by omega)]
        have HW := Lib.hid hw; clear hw
        go_wp2
        try rw [Exit.noGoto_ret]
        go_ret3
        refine ⟨?_, rfl⟩
        have := HD.out
        rw [gv_cons, if_neg (by omega), if_neg (by omega), if_neg (by omega)] at this
        simp only [Prod.mk.injEq] at this
        obtain ⟨rfl, rfl, rfl⟩ := this
        rw [← HW.out]
        rfl
      · have h1 := acc_step k acc (x - 128) hk9 h0 HA.out (by omega) (by omega) (by omega)
        have hw : IntKind.u64.wrap (acc + IntKind.u64.wrap ((x - 128) * 2 ^ (7 * k))) = acc + (x - 128) * 2 ^ (7 * k) := by
          rw [IntWalk.u64_in ((x - 128) * 2 ^ (7 * k)) (by omega), IntWalk.u64_in _ (by omega)]
        have HW := Lib.hid hw; clear hw
        have H1 := Lib.hid h1; clear h1
        go_wp2
        go_round
        case rel =>
          have h1 := H1.out
          refine ⟨k + 1, acc + (x - 128) * 2 ^ (7 * k), by go_num, by rw [HW.out], by omega, by omega, by omega, h1.2.2, ?_⟩
          have := HD.out
          rw [gv_cons, if_neg (by omega), if_neg (by omega), if_pos (by omega)] at this
          exact this
        case measure => simp [intOf]; omega
      · subst hk1
        rw [Nat.add_zero] at hcell
        have h1 := acc_step 0 acc x hk9 h0 HA.out (by omega) (by omega) (by omega)
        rw [show (2 : Int) ^ (7 * 0) = 1 from rfl, Int.mul_one] at h1
        have hw : IntKind.u64.wrap (acc + x) = acc + x := IntWalk.u64_in _ (by omega)
        have HW := Lib.hid hw; clear hw
        have H1 := Lib.hid h1; clear h1
        go_wp2
        try rw [Exit.noGoto_ret]
        go_ret3
        refine ⟨?_, rfl⟩
        have := HD.out
        rw [gv_cons, if_neg (by omega), if_neg (by omega), if_neg (by omega), show (2 : Int) ^ (7 * 0) = 1 from rfl, Int.mul_one] at this
        simp only [Prod.mk.injEq] at this
        obtain ⟨rfl, rfl, rfl⟩ := this
        rw [HW.out]
        rfl
      · subst hk1
        rw [Nat.add_zero] at hcell
        have h1 := acc_step 0 acc (x - 128) hk9 h0 HA.out (by omega) (by omega) (by omega)
        rw [show (2 : Int) ^ (7 * 0) = 1 from rfl, Int.mul_one] at h1
        have hw : IntKind.u64.wrap (acc + (x - 128)) = acc + (x - 128) := IntWalk.u64_in _ (by omega)
        have HW := Lib.hid hw; clear hw
        have H1 := Lib.hid h1; clear h1
        go_wp2
        go_round
        case rel =>
          have h1 := H1.out
          refine ⟨1, acc + (x - 128), by go_num, by rw [HW.out], by omega, by omega, by omega, h1.2.2, ?_⟩
          have := HD.out
          rw [gv_cons, if_neg (by omega), if_neg (by omega), if_pos (by omega), show (2 : Int) ^ (7 * 0) = 1 from rfl, Int.mul_one] at this
          exact this
        case measure => simp [intOf]; omega
    · go_wp2
      try rw [Exit.noGoto_ret]
      go_ret3
      refine ⟨?_, rfl⟩
      have := HG.out
      rw [show zs.drop k = [] from List.drop_eq_nil_of_le (by rw [HZ.out]; omega)] at this
      simp only [gv, Prod.mk.injEq] at this
      obtain ⟨rfl, rfl, rfl⟩ := this
      rfl

theorem pw_step (k : Nat) (h : k < 9) (p : Int) (hp : p = 2 ^ (7 * k)) : IntKind.u64.wrap (p * 128) = 2 ^ (7 * (k + 1)) := by
  subst hp
  rw [pow7, Int.mul_comm]
  have h1 := pow_pos' (7 * k)
  have h2 : (2 : Int) ^ (7 * k) ≤ 2 ^ (7 * 8) := pow_le' _ _ (by omega)
  have h3 : (2 : Int) ^ (7 * 8) = 72057594037927936 := by decide
  exact IntWalk.u64_in _ (by omega)
theorem acc_ref (k : Nat) (acc x p : Int) (hp : p = 2 ^ (7 * k)) (hk : k ≤ 9) (h0 : 0 ≤ acc) (h1 : acc < 2 ^ (7 * k)) (hx0 : 0 ≤ x) (hx : x ≤ 255) (h9 : k = 9 → x ≤ 1) :
    IntKind.u64.wrap (acc + IntKind.u64.wrap (x % 128 * p)) = acc + x % 128 * 2 ^ (7 * k) ∧ 0 ≤ acc + x % 128 * 2 ^ (7 * k) ∧ acc + x % 128 * 2 ^ (7 * k) < 2 ^ (7 * (k + 1)) := by
  subst hp
  have := acc_step k acc (x % 128) hk h0 h1 (by omega) (by omega) (by omega)
  rw [IntWalk.u64_in (x % 128 * 2 ^ (7 * k)) (by omega), IntWalk.u64_in _ (by omega)]
  omega
set_option maxRecDepth 8000 in
set_option maxHeartbeats 800000 in
theorem rget_some (b off len cap : Nat) (zs : List Int) (w : World) (g1 g3 : Int) (g2 : Nat) (hz : zs.length = len) (hb : ∀ x ∈ zs, 0 ≤ x ∧ x ≤ 255) (hl : (len : Int) ≤ 9223372036854775807)
    (hc : ∀ j, j < len → w.cell? ⟨b, off + j, none⟩ = some (.int .u8 (zs.getD j 0))) (hg : gv 0 0 zs = (g1, g2, g3)) :
    Calls Try.prog 36 #[.slice (some ⟨b, off, none⟩) len cap] w fun e w' => e = .returned (.tuple #[.int .u64 g1, .int .i64 g2, .int .i64 g3]) ∧ w = w' := by
  have HC := Lib.hid hc
  have HZ := Lib.hid hz
  have HB := Lib.hid hb
  have HG := Lib.hid hg
  clear hc hz hb hg
  go_enter Try.func36, Try.ntmps36
  go_wp2
  go_loop [5, 6, 7] (fun n q i => ∃ (k : Nat) (acc p : Int), i = .int .i64 k ∧ n = .int .u64 acc ∧ q = .int .u64 p ∧ k ≤ len ∧ k ≤ 9 ∧ 0 ≤ acc ∧ Hid (p = 2 ^ (7 * k)) ∧ Hid (acc < 2 ^ (7 * k)) ∧ Hid (gv k acc (zs.drop k) = (g1, g2, g3))) (fun _ _ i => len - (intOf i).toNat)
  case atStart => exact ⟨0, 0, 1, rfl, rfl, rfl, by omega, by omega, by omega, Lib.hid (by decide), Lib.hid (by decide), HG⟩
  case round =>
    obtain ⟨k, acc, p, rfl, rfl, rfl, hk, hk9, h0, HP, HA, HG⟩ := hrel
    by_cases hlt : k < len
    · obtain ⟨x, hx⟩ : ∃ x, zs.getD k 0 = x := ⟨_, rfl⟩
      have hcell : w.cell? ⟨b, off + k, none⟩ = some (.int .u8 x) := by rw [← hx]; exact HC.out k hlt
      have hxb : 0 ≤ x ∧ x ≤ 255 := by
        rw [← hx]; exact (bytes_of_mem HB.out) k
      have HD := Lib.hid (show gv k acc (x :: zs.drop (k + 1)) = (g1, g2, g3) from by rw [← hx, ← drop_getD zs k (by rw [HZ.out]; exact hlt)]; exact HG.out)
      clear hx HG
      have HW := Lib.hid (fun h9 : (k = 9 → x ≤ 1) => acc_ref k acc x p HP.out hk9 h0 HA.out hxb.1 hxb.2 h9)
      rcases (by omega : (k = 9 ∧ 1 < x) ∨ (k = 9 ∧ x = 0) ∨ (k = 9 ∧ x ≤ 1 ∧ x < 128 ∧ ¬ x = 0) ∨ (0 < (k : Int) ∧ ¬ (k : Int) = 9 ∧ x = 0) ∨ (0 < (k : Int) ∧ ¬ (k : Int) = 9 ∧ x < 128 ∧ ¬ x = 0) ∨ (0 < (k : Int) ∧ ¬ (k : Int) = 9 ∧ 128 ≤ x ∧ ¬ x = 0) ∨ (k = 0 ∧ x < 128 ∧ ¬ x = 0) ∨ (k = 0 ∧ x = 0) ∨ (k = 0 ∧ 128 ≤ x)) with ⟨hk1, hx1⟩ | ⟨hk1, hx1⟩ | ⟨hk1, hx0, hx1, hx2⟩ | ⟨hk1, hk2, hx1⟩ | ⟨hk1, hk2, hx1, hx2⟩ | ⟨hk1, hk2, hx1, hx2⟩ | ⟨hk1, hx1, hx2⟩ | ⟨hk1, hx2⟩ | ⟨hk1, hx1⟩
      · subst hk1
        go_wp2
        go_ret3
        refine ⟨?_, rfl⟩
        have := HD.out
        rw [gv_cons, if_pos (by omega)] at this
        simp only [Prod.mk.injEq] at this
        obtain ⟨rfl, rfl, rfl⟩ := this
        rfl
      · subst hk1 hx1
        go_wp2
        go_ret3
        refine ⟨?_, rfl⟩
        have := HD.out
        rw [gv_cons, if_neg (by omega), if_pos (by omega)] at this
        simp only [Prod.mk.injEq] at this
        obtain ⟨rfl, rfl, rfl⟩ := this
        rfl
      · subst hk1
        have HE := Lib.hid (show acc + x * 2 ^ (7 * 9) = IntKind.u64.wrap (acc + IntKind.u64.wrap (x % 128 * p)) from by
          have := (HW.out (by omega)).1; rw [this, show x % 128 = x from by omega])
        go_wp2
        go_ret3
        refine ⟨?_, rfl⟩
        have := HD.out
        rw [gv_cons, if_neg (by omega), if_neg (by omega), if_neg (by omega)] at this
        simp only [Prod.mk.injEq] at this
        obtain ⟨rfl, rfl, rfl⟩ := this
        rw [HE.out]
        rfl
      · subst hx1
        go_wp2
        go_ret3
        refine ⟨?_, rfl⟩
        have := HD.out
        rw [gv_cons, if_neg (by omega), if_pos (by omega)] at this
        simp only [Prod.mk.injEq] at this
        obtain ⟨rfl, rfl, rfl⟩ := this
        rfl
      · skip
        have HE := Lib.hid (show acc + x * 2 ^ (7 * k) = IntKind.u64.wrap (acc + IntKind.u64.wrap (x % 128 * p)) from by
          have := (HW.out (by omega)).1; rw [this, show x % 128 = x from by omega])
        go_wp2
        go_ret3
        refine ⟨?_, rfl⟩
        have := HD.out
        rw [gv_cons, if_neg (by omega), if_neg (by omega), if_neg (by omega)] at this
        simp only [Prod.mk.injEq] at this
        obtain ⟨rfl, rfl, rfl⟩ := this
        rw [HE.out]
        rfl
      · have h1 := HW.out (by omega)
        rw [show x % 128 = x - 128 from by omega] at h1
        have H1 := Lib.hid h1; clear h1
        have HQ := Lib.hid (pw_step k (by omega) p HP.out)
        have HX := Lib.hid (show x % 128 = x - 128 from by omega)
        go_wp2
        go_round
        case rel =>
          have h1 := H1.out
          refine ⟨k + 1, acc + (x - 128) * 2 ^ (7 * k), 2 ^ (7 * (k + 1)), by go_num, by rw [HX.out, h1.1], by rw [HQ.out], by omega, by omega, by omega, Lib.hid rfl, h1.2.2, ?_⟩
          have := HD.out
          rw [gv_cons, if_neg (by omega), if_neg (by omega), if_pos (by omega)] at this
          exact this
        case measure => simp [intOf]; omega
      · subst hk1
        rw [Nat.add_zero] at hcell
        have HE := Lib.hid (show acc + x * 2 ^ (7 * 0) = IntKind.u64.wrap (acc + IntKind.u64.wrap (x % 128 * p)) from by
          have := (HW.out (by omega)).1; rw [this, show x % 128 = x from by omega])
        go_wp2
        go_ret3
        refine ⟨?_, rfl⟩
        have := HD.out
        rw [gv_cons, if_neg (by omega), if_neg (by omega), if_neg (by omega)] at this
        simp only [Prod.mk.injEq] at this
        obtain ⟨rfl, rfl, rfl⟩ := this
        rw [HE.out]
        rfl
      · subst hk1 hx2
        rw [Nat.add_zero] at hcell
        have HE := Lib.hid (show acc + 0 * 2 ^ (7 * 0) = IntKind.u64.wrap acc from by
          have := HA.out; rw [show (2 : Int) ^ (7 * 0) = 1 from rfl] at *; rw [IntWalk.u64_in acc (by omega)]; omega)
        go_wp2
        go_ret3
        refine ⟨?_, rfl⟩
        have := HD.out
        rw [gv_cons, if_neg (by omega), if_neg (by omega), if_neg (by omega)] at this
        simp only [Prod.mk.injEq] at this
        obtain ⟨rfl, rfl, rfl⟩ := this
        rw [HE.out]
        rfl
      · subst hk1
        rw [Nat.add_zero] at hcell
        have h1 := HW.out (by omega)
        rw [show x % 128 = x - 128 from by omega] at h1
        have H1 := Lib.hid h1; clear h1
        have HQ := Lib.hid (pw_step 0 (by omega) p HP.out)
        have HX := Lib.hid (show x % 128 = x - 128 from by omega)
        go_wp2
        go_round
        case rel =>
          have h1 := H1.out
          refine ⟨1, acc + (x - 128) * 2 ^ (7 * 0), 2 ^ (7 * (0 + 1)), by go_num, by rw [HX.out, h1.1], by rw [HQ.out], by omega, by omega, by omega, Lib.hid rfl, h1.2.2, ?_⟩
          have := HD.out
          rw [gv_cons, if_neg (by omega), if_neg (by omega), if_pos (by omega)] at this
          exact this
        case measure => simp [intOf]; omega
    · go_wp2
      go_ret3
      refine ⟨?_, rfl⟩
      have := HG.out
      rw [show zs.drop k = [] from List.drop_eq_nil_of_le (by rw [HZ.out]; omega)] at this
      simp only [gv, Prod.mk.injEq] at this
      obtain ⟨rfl, rfl, rfl⟩ := this
      rfl

set_option maxRecDepth 8000 in
set_option maxHeartbeats 400000 in
theorem get_zero (a : Option Addr) (cap : Nat) (w : World) :
    Calls Try.prog 61 #[.slice a 0 cap] w fun e w' => e = .returned (.tuple #[.int .u64 0, .int .i64 0, .int .i64 1]) ∧ w = w' := by
  go_enter Try.func61, Try.ntmps61
  go_wp2; go_step3; go_wp2; go_step3; go_wp2
  refine wp_loop_rounds 1 ?_
  rw [rounds_succ]
  go_wp2
  try rw [Exit.noGoto_ret]
  go_ret3
  exact ⟨rfl, rfl⟩
set_option maxRecDepth 8000 in
set_option maxHeartbeats 400000 in
theorem rget_zero (a : Option Addr) (cap : Nat) (w : World) :
    Calls Try.prog 36 #[.slice a 0 cap] w fun e w' => e = .returned (.tuple #[.int .u64 0, .int .i64 0, .int .i64 1]) ∧ w = w' := by
  go_enter Try.func36, Try.ntmps36
  go_wp2
  refine wp_loop_rounds 1 ?_
  rw [rounds_succ]
  go_wp2
  go_ret3
  exact ⟨rfl, rfl⟩
theorem get_any {w : World} {v : Value} {len : Nat} {zs : List Int} {g1 g3 : Int} {g2 : Nat} (h : RI .u8 w v len zs) (hb : ∀ x ∈ zs, 0 ≤ x ∧ x ≤ 255) (hg : gv 0 0 zs = (g1, g2, g3)) :
    Calls Try.prog 61 #[v] w fun e w' => e = .returned (.tuple #[.int .u64 g1, .int .i64 g2, .int .i64 g3]) ∧ w = w' := by
  obtain ⟨a, cap, rfl, hl, h1, h2, _, hc⟩ := h
  by_cases h0 : 0 < len
  · obtain ⟨b, off, rfl, hcell⟩ := hc h0
    exact get_some b off len cap zs w g1 g3 g2 hl hb (by omega) hcell hg
  · obtain rfl : len = 0 := by omega
    obtain rfl : zs = [] := List.length_eq_zero_iff.1 hl
    simp only [gv, Prod.mk.injEq] at hg
    obtain ⟨rfl, rfl, rfl⟩ := hg
    exact get_zero a cap w
theorem rget_any {w : World} {v : Value} {len : Nat} {zs : List Int} {g1 g3 : Int} {g2 : Nat} (h : RI .u8 w v len zs) (hb : ∀ x ∈ zs, 0 ≤ x ∧ x ≤ 255) (hg : gv 0 0 zs = (g1, g2, g3)) :
    Calls Try.prog 36 #[v] w fun e w' => e = .returned (.tuple #[.int .u64 g1, .int .i64 g2, .int .i64 g3]) ∧ w = w' := by
  obtain ⟨a, cap, rfl, hl, h1, h2, _, hc⟩ := h
  by_cases h0 : 0 < len
  · obtain ⟨b, off, rfl, hcell⟩ := hc h0
    exact rget_some b off len cap zs w g1 g3 g2 hl hb (by omega) hcell hg
  · obtain rfl : len = 0 := by omega
    obtain rfl : zs = [] := List.length_eq_zero_iff.1 hl
    simp only [gv, Prod.mk.injEq] at hg
    obtain ⟨rfl, rfl, rfl⟩ := hg
    exact rget_zero a cap w
end Go.Proofs.Ytmcfnlfaclkbhaa
