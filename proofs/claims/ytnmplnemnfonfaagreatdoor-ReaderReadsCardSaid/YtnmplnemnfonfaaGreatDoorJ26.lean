/-
  TEXTS JOINED: RdAwake, RefGet, FragDecR, ScanAcc, ScanRestR, StampRoom, StampOpenR. Each one's own words stand at its head.
-/
import Derived.Test.YtnmplnemnfonfaaGreatDoorJ19
import Derived.Test.YtnmplnemnfonfaaGreatDoorJ25
import Derived.Test.YtnmplnemnfonfaaGreatDoorJ5
import Derived.Test.YtnmplnemnfonfaaGreatDoorJ13
import Derived.Test.YtnmplnemnfonfaaGreatDoorJ15
import Derived.Test.YtnmplnemnfonfaaGreatDoorJ11
import Derived.Test.YtnmplnemnfonfaaGreatDoorJ14
import Derived.Test.YtnmplnemnfonfaaGreatDoorJ12
import Derived.Test.YtnmplnemnfonfaaGreatDoorJ0
import Derived.Test.YtnmplnemnfonfaaGreatDoorJ16
namespace Go.Proofs.YtnmplnemnfonfaaGreatDoor
open Go.RowKit
theorem whole_stands {x : Int} (hx : U64 x) (h0 : x ≠ 0) {ls : List (List Int)} (hg : GoodF ls ls.length) (h5 : ∀ z ∈ ls, z.length ≤ 512) {fs : List Int} (hfs : wholeK x (bodyF (x % 4294967296) ls) (touchN 0 (endF ls)).2 16 = fs) (hl : fs.length = 16 * 64) {i : Nat} (hi : i < ls.length) :
    beginN (endF (ls.take i)) ≤ 832 ∧ ∃ e : Nat, rdAt (x % 4294967296) (flatB x 16 fs 16) (flatK x 16 fs 16) ((beginN (endF (ls.take i)) : Nat) : Int) = some (ls.getD i [], e) ∧ (i + 1 = ls.length → e = endF ls) := by
  obtain ⟨t1, t2, t3, _⟩ := told_whole hx h0 hg h5
  rw [hfs] at t1 t2 t3
  have hst := stands_end (ep := x % 4294967296) (K := flatK x 16 fs 16) (flatB_length x 16 fs hl 16)
  unfold Stands at hst
  rw [t1, t2, t3] at hst
  obtain ⟨q, e, h1, h2, h3, h4⟩ := hst i (ls.getD i []) ((beginN (endF (ls.take i)) : Nat) : Int) (by simp [List.getD, hi]) (by simp [placesF, hi])
  have h1 : beginN (endF (ls.take i)) = q := by omega
  rw [h1]
  exact ⟨h2, e, (rdAt_in h2).trans h3, h4⟩
theorem sc_take_one : beginN (endF (scTwo.take 1)) = 12 := by
  have e1 : endF [[97]] = 12 := by
    have h := endF_snoc [] [97]
    rw [List.nil_append, endF_nil] at h
    rw [h]
    exact (sc_end_one (x := ((0 : Nat) : Int)) (n := 1) (by decide) (by decide)).2
  show beginN (endF [[97]]) = 12
  rw [e1]
  decide
set_option maxRecDepth 8000 in
set_option maxHeartbeats 4000000 in
theorem rd_awake (w : World) (hT : Tab w) : Calls Tryz.prog 6 #[] w fun e w' => e = .returned (.bool true) ∧ Below w.heap.size w w' := by
  have HA := Lib.hid (awake_rl w)
  have HB := Lib.hid (kbelow3 w (.cells #[.int .u8 97] 5 (1, 2)) (.cells #[.int .u8 98, .int .u8 99] 5 (2, 3)) (.cells #[.slice (some ⟨w.heap.size, 0, none⟩) 1 1, .slice (some ⟨w.heap.size + 1, 0, none⟩) 2 2] 49))
  have hu3 : U64 3 := by unfold U64; omega
  obtain ⟨fs, hfs⟩ : ∃ fs, wholeK 3 (bodyF (3 % 4294967296) scTwo) (touchN 0 (endF scTwo)).2 16 = fs := ⟨_, rfl⟩
  have HS : Hid (∀ W v, RL .u8 W v 2 scTwo → Calls Tryz.prog 4 #[.int .u64 3, v] W fun e w' =>
      ∃ v, e = .returned (.tuple #[v, .bool true]) ∧ FS w' v 16 fs ∧ Below W.heap.size W w') := Lib.hid fun W v h =>
    (rsectors_any 3 hu3 v 2 scTwo (by omega) sc_two_isB W h).mono fun e w' h => by
      rw [← hfs]
      rcases h with ⟨_, v, h1, h2, h3⟩ | ⟨h1, _⟩
      · exact ⟨v, h1, h2, h3⟩
      · rw [sc_two.1] at h1; cases h1
  have hbf : isB fs := by
    have hb0 := bodyF_bytes (ep := 3 % 4294967296) scTwo sc_two_isB scTwo.length (Nat.le_refl _)
    rw [List.take_length] at hb0
    rw [← hfs]
    exact sc_whole_bytes 3 _ hb0 _ 16
  have HC : Hid (∀ W v, Below w.heap.size w W → FS W v 16 fs → Calls Tryz.prog 17 #[.int .u64 3, v, .int .i64 12] W fun e w' =>
      ∃ y c, e = .returned (.tuple #[.slice y 2 c, .int .i64 25, .bool true]) ∧ RI .u8 w' (.slice y 2 c) 2 [98, 99] ∧ Below W.heap.size W w') := Lib.hid fun W v hb h => by
    obtain ⟨_, e, h2, h3⟩ := whole_stands hu3 (by decide) ((fitsF_iff scTwo).1 sc_two.1) (fun z hz => by simp only [scTwo, List.mem_cons, List.not_mem_nil, or_false] at hz; rcases hz with rfl | rfl <;> simp) hfs h.length (i := 1) (by decide)
    rw [sc_take_one, show scTwo.getD 1 [] = [98, 99] from rfl] at h2
    obtain rfl : e = 25 := (h3 rfl).trans sc_two.2
    refine (from_any 3 hu3 v 16 fs hbf W h (hT.keep hb) 12).mono fun e w' hf => ?_
    rw [show rdAt (3 % 4294967296) (flatB 3 16 fs 16) (flatK 3 16 fs 16) 12 = some ([98, 99], 25) from h2] at hf
    obtain ⟨hb2, y, c, h4, h5⟩ := hf
    exact ⟨y, c, h4, RI.own h5, hb2⟩
  have c1 := Go.Joins.run_convert_bytes_const_at (P := Tryz.prog) w 49 5 #[.int .u8 97] 1 1 w.heap.size rfl Tryz.underlying49 Tryz.underlying5
  have c2 := Go.Joins.run_convert_bytes_const_at (P := Tryz.prog) (w.alloc (.cells #[.int .u8 97] 5 (1, 2))) 49 5 #[.int .u8 98, .int .u8 99] 2 2 (w.heap.size + 1) (by simp) Tryz.underlying49 Tryz.underlying5
  clear hu3 hbf hT hfs
  go_enter Tryz.func6, Tryz.ntmps6
  go_wp2_with (first
    | (go_at_call 4; (refine (HS.out _ _ HA.out).mono ?_); rintro e w1 ⟨v1, rfl, hs, hb⟩; have HS1 := Lib.hid hs; have HB1 := Lib.hid (bch HB.out hb); clear hs hb)
    | (go_at_call 17; (refine (HC.out _ _ HB1.out HS1.out).mono ?_); rintro e w2 ⟨y, c, rfl, hr, hb⟩; have HB2 := Lib.hid (bch HB1.out hb); have hs3 : (convert 49 9 (.slice y 2 c)).run Tryz.prog w2 = .ok (.string ⟨#[98, 99]⟩) w2 := conv_ri hr; clear hr hb))
  go_ret
  exact ⟨rfl, HB2.out⟩
end Go.Proofs.YtnmplnemnfonfaaGreatDoor
namespace Go.Proofs.YtnmplnemnfonfaaGreatDoor
open Go.RowKit
set_option maxHeartbeats 400000 in
theorem rgetw_some (b off len cap : Nat) (zs : List Int) (w : World) (hz : Bytes zs) (hlen : 0 < len) (hmax : len ≤ 9223372036854775807)
    (hc : ∀ j, j < len → w.cell? ⟨b, off + j, none⟩ = some (.int .u8 (zs.getD j 0))) :
    Calls Tryz.prog 80 #[.slice (some ⟨b, off, none⟩) len cap] w fun e w' => e = .returned (.int .u64 (getI zs (min len 8))) ∧ Drawn w w' := by
  obtain ⟨m, hm, hm1, hm2, hm3⟩ : ∃ m : Nat, min len 8 = m ∧ m ≤ len ∧ m ≤ 8 ∧ (m = len ∨ m = 8) := ⟨_, rfl, by omega, by omega, by omega⟩
  rw [hm]
  have HM := Lib.hid hm; clear hm
  go_enter Tryz.func80, Tryz.ntmps80
  go_wp2
  go_loopw [3, 4] (fun n i wr => ∃ k : Nat, k ≤ m ∧ i = .int .i64 k ∧ n = .int .u64 (getI zs k) ∧ Drawn w wr) (fun _ i _ => m - (intOf i).toNat)
  case atStart => exact ⟨0, by omega, rfl, rfl, ⟨0, rfl⟩⟩
  case round =>
    obtain ⟨k, hk, rfl, rfl, hw⟩ := hrel
    by_cases hlt : k < m
    · have hcell : wr.cell? ⟨b, off + k, none⟩ = some (.int .u8 (zs.getD k 0)) := (hw.cell _).trans (hc k (by omega))
      have hb : 0 ≤ zs[k]?.getD 0 ∧ zs[k]?.getD 0 ≤ 255 := hz k
      have HG := Lib.hid (getI_ref zs hz k (by omega))
      have h1 : (k : Int) < (len : Int) := by omega
      have h2 : (k : Int) < 8 := by omega
      go_wp2_with fail
      have he : IntKind.i64.wrap (8 * (k : Int)) = ((8 * k : Nat) : Int) := by rw [IntWalk.i64_in _ (by omega)]; omega
      have hu : IntKind.u64.wrap (zs[k]?.getD 0) = zs[k]?.getD 0 := IntWalk.u64_in _ (by omega)
      go_quiet ((go_at_call 100; exact quiet_eq (two_at _ (8 * k) (by omega) (by omega) _)))
      clear he hu
      go_wp2
      go_roundw
      case rel => exact ⟨k + 1, by omega, by go_num, by rw [← HG.out]; rfl, hw.then _⟩
      case measure => simp [intOf]; omega
    · rcases (by omega : (len : Int) ≤ k ∨ (k : Int) < len ∧ 8 ≤ (k : Int)) with h1 | ⟨h1, h2⟩
      all_goals
        go_wp2
        go_ret
        exact ⟨ret_int (by congr 1; omega), hw⟩
end Go.Proofs.YtnmplnemnfonfaaGreatDoor
namespace Go.Proofs.YtnmplnemnfonfaaGreatDoor
open Go.RowKit
set_option maxRecDepth 8000 in
set_option maxHeartbeats 8000000 in
theorem rfdec_any (v : Value) (len : Nat) (zs : List Int) (ep : Int) (w : World) (hri : RI .u8 w v len zs) (hbz : isB zs) : Calls Tryz.prog 57 #[v, .int .u32 ep] w (DecF zs ep w) := by
  have hz := hri.length
  obtain ⟨w0, hw0⟩ : ∃ q, w.alloc (.cells (fA 0 0 (.slice none 0 0)) 82) = q := ⟨_, rfl⟩
  have HA : Hid (FO w0 w.heap.size 0 0 (.slice none 0 0)) := Lib.hid (by rw [← hw0]; exact FO.alloc w)
  have HB : Hid (Below w.heap.size w w0) := Lib.hid (by rw [← hw0]; exact balloc w _)
  have HR := Lib.hid (hri.keep HB.out)
  obtain ⟨a, cap, rfl, hlc⟩ : ∃ a cap, v = .slice a len cap ∧ len ≤ cap := by obtain ⟨a, c, e, _, h, _⟩ := hri; exact ⟨a, c, e, h⟩
  by_cases h1 : zs.length < 11
  · have hR := Lib.hid (fragD_short (ep := ep) h1)
    have h1' : (len : Int) < 11 := by omega
    clear h1 hz hri hbz hlc
    go_enter Tryz.func57, Tryz.ntmps57
    go_wp2_with (first
      | (refine wpList_store_row rfl 82 _ _ rfl w.heap.size (fA 0 0 (.slice none 0 0)) rfl rfl _ _ HA.out (fr_info _ rfl) rfl (fr_one _ _ _ _ _) ?_))
    refine bodyPost_ret_by (results_row_tmp2 rfl _ _ w.heap.size _ rfl (HA.out.row 0 0 (.slice none 0 0)).load) rfl ?_
    exact decf_none hR.out (brow HB.out (Nat.le_refl _) (Nat.le_refl _) _)
  have h1' : ¬ (len : Int) < 11 := by omega
  have hcap : (11 : Int) ≤ (cap : Int) := by omega
  obtain ⟨h11, k, e, n, s, hh, hhl, hhb, hk, he, hn, hs, gk, ge, gn, gs, k0, k1, e0, e1, n1, s1⟩ := head_nums zs hbz (by omega)
  obtain ⟨x, off, rfl, hcell⟩ := HR.out.at_ (by omega)
  obtain ⟨b4, hb4⟩ : ∃ q, zs.getD 4 0 = q := ⟨_, rfl⟩
  obtain ⟨b5, hb5⟩ : ∃ q, zs.getD 5 0 = q := ⟨_, rfl⟩
  have hb4b : 0 ≤ b4 ∧ b4 ≤ 255 := by rw [← hb4]; exact hbz _ (getD_mem (by omega))
  have hb5b : 0 ≤ b5 ∧ b5 ≤ 255 := by rw [← hb5]; exact hbz _ (getD_mem (by omega))
  have hn45 : b4 + 256 * b5 = (n : Int) := by rw [← hn, num_two, hb4, hb5]
  have hc4 := hcell 4 (by omega)
  have hc5 := hcell 5 (by omega)
  have hc6 := hcell 6 (by omega)
  rw [hb4] at hc4
  rw [hb5] at hc5
  rw [show zs.getD 6 0 = k from by rw [← num_one]; exact hk] at hc6
  have HC4 := Lib.hid hc4
  have HC5 := Lib.hid hc5
  have HC6 := Lib.hid hc6
  have HCL := Lib.hid hcell
  have HK4 : Hid (IntKind.i64.wrap b4 = b4) := Lib.hid (by rw [IntKind.wrap_i64]; omega)
  have HK5 : Hid (IntKind.i64.wrap b5 = b5) := Lib.hid (by rw [IntKind.wrap_i64]; omega)
  have HK8 : Hid (IntKind.i64.wrap (256 * b5) = 256 * b5) := Lib.hid (by rw [IntKind.wrap_i64]; omega)
  have HK9 : Hid (IntKind.i64.wrap (b4 + 256 * b5) = (n : Int)) := Lib.hid (by rw [hn45, IntKind.wrap_i64]; omega)
  have HKK : Hid (IntKind.i64.wrap k = k) := Lib.hid (by rw [IntKind.wrap_i64]; omega)
  have HKE : Hid (IntKind.u32.wrap e = e) := Lib.hid (by simp [IntKind.wrap, IntKind.signed, IntKind.bits]; omega)
  obtain ⟨p7, c7, hsl⟩ := sliced_form (some ⟨x, off, none⟩) 7 4 cap 1
  have hr7 := HR.out.cut 7 4 cap (by omega) (by omega) (Nat.le_refl _)
  rw [hsl] at hr7
  obtain ⟨x7, off7, rfl, hcell7⟩ := hr7.at_ (by omega)
  have HSL := Lib.hid hsl
  have HR7 := Lib.hid hr7
  have HGT : Hid (∀ W, RI .u8 W (.slice (some ⟨x7, off7, none⟩) 4 c7) 4 ((zs.drop 7).take 4) → Calls Tryz.prog 80 #[.slice (some ⟨x7, off7, none⟩) 4 c7] W fun e' w' => e' = .returned (.int .u64 e) ∧ Below W.heap.size W w') := Lib.hid fun W hr => by
    obtain ⟨x8, off8, e8, hcell8⟩ := hr.at_ (by omega)
    obtain ⟨rfl, rfl⟩ : x7 = x8 ∧ off7 = off8 := by simpa using e8
    refine (rgetw_some x7 off7 4 c7 ((zs.drop 7).take 4) W (bytes_of_mem ((hbz.drop 7).take 4)) (by omega) (by omega) hcell8).mono fun _ _ ⟨h, hd⟩ => ⟨?_, hd.grown⟩
    rw [h, Nat.min_eq_left (by omega), getI_take _ _ _ (Nat.le_refl _)]
    exact ret_int he
  obtain ⟨sz, hsz⟩ : ∃ sz, 11 + n = sz := ⟨_, rfl⟩
  have hszI : (11 : Int) + (n : Int) = (sz : Int) := by omega
  have hszb : (sz : Int) ≤ 65546 := by omega
  have hnb : (n : Int) ≤ 65535 := by omega
  have HLC : Hid (len ≤ cap ∧ zs.length = len ∧ isB zs) := Lib.hid ⟨hlc, hz, hbz⟩
  have HSZ : Hid ((sz : Int) = ((11 + n : Nat) : Int) ∧ sz = 11 + n ∧ n ≤ 65535) := Lib.hid ⟨by omega, hsz.symm, n1⟩
  have HN0 : Hid (az zs 11 = true → fragD zs ep = (noFr, 0, 7)) := Lib.hid fun q => fragD_none h1 ((az_head zs 11 (by omega)).1 q)
  have HCS : Hid (az zs 11 = false → _) := Lib.hid fun q => fragD_cases zs ep k e n sz hbz h1 (fun h => by rw [(az_head zs 11 (by omega)).2 h] at q; exact absurd q (by decide)) hk he hn hsz
  have hl0 : (11 : Int) ≤ (len : Int) := by omega
  have hl4 : (4 : Int) < (len : Int) := by omega
  have hl5 : (5 : Int) < (len : Int) := by omega
  have hl6 : (6 : Int) < (len : Int) := by omega
  have HSS : Hid (∀ j, j < 11 → az zs (j + 1) = (az zs j && zs.getD j 0 == 0)) := Lib.hid fun j hj => az_succ zs j (by omega)
  clear h1 hz hri hbz hlc hh hhl hhb hk he hn hs gk ge gn gs hcell n1 s1 hcell7 hc4 hc5 hc6 hsl hr7 hsz hn45 hb4 hb5 hb4b hb5b
  go_enter Tryz.func57, Tryz.ntmps57
  go_wp2
  go_loop [7, 8] (fun y i => ∃ j : Nat, i = .int .i64 j ∧ j ≤ 11 ∧ y = .bool (!az zs j)) (fun _ i => 11 - (intOf i).toNat)
  case atStart => exact ⟨0, rfl, by omega, rfl⟩
  case round =>
    obtain ⟨j, rfl, hj, rfl⟩ := hrel
    by_cases hlt : j < 11
    · have hjl : (j : Int) < (len : Int) := by omega
      have hj11 : (j : Int) < 11 := by omega
      have HS1 := Lib.hid (HSS.out j hlt)
      obtain ⟨z, hz⟩ : ∃ z, zs.getD j 0 = z := ⟨_, rfl⟩
      have hcj := HCL.out j (by omega)
      rw [hz] at hcj HS1
      obtain ⟨y, hy⟩ : ∃ y, az zs j = y := ⟨_, rfl⟩
      rw [hy] at HS1 ⊢
      clear hz hy
      cases y with
      | true =>
        by_cases hz0 : z = 0
        · subst hz0
          go_wp2
          go_round
          case rel => exact ⟨j + 1, by go_num, by omega, by rw [HS1.out]; rfl⟩
          case measure => simp [intOf]; omega
        · have hz1 : (z != 0) = true := by simpa using hz0
          have hz2 : (z == 0) = false := by simpa using hz0
          go_wp2
          go_round
          case rel => exact ⟨j + 1, by go_num, by omega, by rw [HS1.out, hz2]; rfl⟩
          case measure => simp [intOf]; omega
      | false =>
        go_wp2
        go_round
        case rel => exact ⟨j + 1, by go_num, by omega, by rw [HS1.out]; rfl⟩
        case measure => simp [intOf]; omega
    · obtain rfl : j = 11 := by omega
      obtain ⟨y, hy⟩ : ∃ y, az zs 11 = y := ⟨_, rfl⟩
      rw [hy] at HN0 HCS ⊢
      clear hlt hj hy HSS HCL
      cases y with
      | true =>
        have hR := Lib.hid (HN0.out rfl)
        go_wp2_with (first
          | (refine wpList_store_row rfl 82 _ _ rfl w.heap.size (fA 0 0 (.slice none 0 0)) rfl rfl _ _ HA.out (fr_info _ rfl) rfl (fr_one _ _ _ _ _) ?_))
        refine bodyPost_ret_by (results_row_tmp2 rfl _ _ w.heap.size _ rfl (HA.out.row 0 0 (.slice none 0 0)).load) rfl ?_
        exact decf_none hR.out (brow HB.out (Nat.le_refl _) (Nat.le_refl _) _)
      | false =>
        have HC := Lib.hid (HCS.out rfl)
        clear HN0 HCS
        go_wp2_with fail
        refine wp_region_held_drew (S := (fun W' => Below w0.heap.size w0 W')) (by kernel_rfl) ((Below.refl _ _).drew) (fun hS => ?_)
        refine rgw 0 ⟨some 30, .move (.tmp 0), 49, _, _, none⟩ hS ?_
        refine rgw 1 ⟨some 31, .indexAddr 49 (.tmp 30) (.const (.int .i64 4)), 0, _, _, none⟩ hS ?_
        refine rgw 2 ⟨some 32, .load 5 (.tmp 31), 5, _, _, none⟩ hS ?_ (hy := by intro w hSw; (try dsimp only at hSw); have z := cell_keep hSw HC4.out; go_simp; try with_reducible rfl)
        refine rgw 3 ⟨some 33, .convert 5 3 (.tmp 32), 3, _, _, none⟩ hS ?_ (v := .int .i64 b4) (hy := by intro w hSw; (try dsimp only at hSw); have z := HK4.out; go_simp; (try exact z))
        refine rgw 4 ⟨some 34, .move (.tmp 0), 49, _, _, none⟩ hS ?_
        refine rgw 5 ⟨some 35, .indexAddr 49 (.tmp 34) (.const (.int .i64 5)), 0, _, _, none⟩ hS ?_
        refine rgw 6 ⟨some 36, .load 5 (.tmp 35), 5, _, _, none⟩ hS ?_ (hy := by intro w hSw; (try dsimp only at hSw); have z := cell_keep hSw HC5.out; go_simp; try with_reducible rfl)
        refine rgw 7 ⟨some 37, .convert 5 3 (.tmp 36), 3, _, _, none⟩ hS ?_ (v := .int .i64 b5) (hy := by intro w hSw; (try dsimp only at hSw); have z := HK5.out; go_simp; (try exact z))
        refine rgw 8 ⟨some 38, .binOp .mul 3 (.const (.int .i64 256)) (.tmp 37) 3, 3, _, _, none⟩ hS ?_ (v := .int .i64 (256 * b5)) (hy := by intro w hSw; (try dsimp only at hSw); have z := HK8.out; go_simp; (try exact z))
        refine rgw 9 ⟨some 39, .binOp .add 3 (.tmp 33) (.tmp 38) 3, 3, _, _, none⟩ hS ?_ (v := .int .i64 (n : Int)) (hy := by intro w hSw; (try dsimp only at hSw); have z := HK9.out; go_simp; (try exact z))
        refine rgw 10 ⟨some 9, .assign (.tmp 39), 3, _, _, none⟩ hS ?_
        refine wpAnyH_done (by kernel_rfl) ?_ _
        obtain ⟨w1, hw1⟩ : ∃ q, World.drew w0 = q := ⟨_, rfl⟩
        rw [hw1] at hS ⊢
        have HA1 := Lib.hid (HA.out.keep hS)
        have HB1 := Lib.hid (bch HB.out hS)
        have HR1 := Lib.hid (HR.out.keep hS)
        have HR7 := Lib.hid (HR7.out.keep hS)
        have HC6 := Lib.hid (cell_keep hS HC6.out)
        clear hS hw1 HC4 HC5 HK4 HK5 HK8 HK9
        go_wp2_with fail
        refine wp_region_held_drew (S := (fun W' => Below w1.heap.size w1 W')) (by kernel_rfl) ((Below.refl _ _).drew) (fun hS => ?_)
        refine rgw 0 ⟨some 40, .move (.tmp 0), 49, _, _, none⟩ hS ?_
        refine rgw 1 ⟨some 41, .indexAddr 49 (.tmp 40) (.const (.int .i64 6)), 0, _, _, none⟩ hS ?_
        refine rgw 2 ⟨some 42, .load 5 (.tmp 41), 5, _, _, none⟩ hS ?_ (hy := by intro w hSw; (try dsimp only at hSw); have z := cell_keep hSw HC6.out; go_simp; try with_reducible rfl)
        refine rgw 3 ⟨some 43, .convert 5 3 (.tmp 42), 3, _, _, none⟩ hS ?_ (v := .int .i64 k) (hy := by intro w hSw; (try dsimp only at hSw); have z := HKK.out; go_simp; (try exact z))
        refine rgw 4 ⟨some 44, .move (.tmp 0), 49, _, _, none⟩ hS ?_
        refine rgw 5 ⟨some 45, .slice 49 (.tmp 44) (some (.const (.int .i64 7))) (some (.const (.int .i64 11))) none, 49, _, _, none⟩ hS ?_ (v := .slice (some ⟨x7, off7, none⟩) 4 c7) (hy := by intro w hSw; (try dsimp only at hSw); exact (exec_cut_lh (.tmp 44) (.const (.int .i64 7)) (.const (.int .i64 11)) rfl _ len cap 7 4 rfl rfl rfl (by have := HLC.out; omega)).trans (by rw [HSL.out]))
        refine rg_both 6 9 ⟨some 46, .call { callee := .value (.func 80), args := #[.tmp 45], argTypes := #[49] }, 22, _, _, none⟩ ⟨some 10, .alloc 82, 0, _, _, none⟩ (by kernel_rfl) rfl rfl (fun K hK => ?_) (fun K hK => ?_)
        focus
          go_simp
          (go_at_call 80; (with_reducible refine (HGT.out _ (HR7.out.keep hS)).mono ?_); rintro r w3 ⟨rfl, hb3⟩; (try clear hN); have hN := hS.trans (hb3.mono hS.size))
          refine hK.out _ _ ?_ (fun hS1 => ?_)
          · (first | exact hN | exact hS)
          clear hK K hS; have hS := hS1; clear hS1
          (try simp only [rgp])
          refine rgw 7 ⟨some 47, .convert 22 80 (.tmp 46), 80, _, _, none⟩ hS ?_ (v := .int .u32 e) (hy := by intro w hSw; (try dsimp only at hSw); have z := HKE.out; go_simp; (try exact z))
          refine rgw 8 ⟨some 48, .build 82 #[(0, .tmp 43), (1, .tmp 47)], 82, _, _, none⟩ hS ?_ (v := .agg (fA k e (.slice none 0 0))) (hy := by intro w hSw; (try dsimp only at hSw); go_simp; try with_reducible rfl)
          refine rg_one 9 ⟨some 10, .alloc 82, 0, _, _, none⟩ (by kernel_rfl) rfl (fun K hK => ?_)
          go_simp
          obtain ⟨w5, hw5⟩ : ∃ q, (World.alloc w3 (.cells (fA 0 0 (.slice none 0 0)) 82)) = q := ⟨_, rfl⟩; have hb5 : Below (World.heap w3).size w3 w5 := (by rw [← hw5]; exact balloc _ _); have hg5 : FO w5 (World.heap w3).size 0 0 (.slice none 0 0) := (by rw [← hw5]; exact FO.alloc w3); have HG := Lib.hid hg5; clear hg5; rw [hw5]; have HGE : Hid (w1.heap.size ≤ (World.heap w3).size) := Lib.hid (hS.size); (try clear hN); have hN := hS.trans (hb5.mono hS.size)
          refine hK.out _ _ ?_ (fun hS1 => ?_)
          · (first | exact hN | exact hS)
          clear hK K hS; have hS := hS1; clear hS1
          (try simp only [rgp])
          refine rg_one 10 ⟨none, .store 82 (.tmp 10) (.tmp 48), 0, _, _, none⟩ (by kernel_rfl) rfl (fun K hK => ?_)
          rw [if_pos (by rfl)]; refine wp_store_row 82 (.tmp 10) (.tmp 48) rfl (World.heap w3).size (fA k e (.slice none 0 0)) rfl rfl _ _ HG.out (fr_info _ rfl) rfl (fr_one _ _ _ _ _) ?_; have hgo := HG.out.row k e (.slice none 0 0); have hbo := brow hS (b := (World.heap w3).size) HGE.out (Nat.le_refl _) (fA k e (.slice none 0 0)); obtain ⟨w6, hw6⟩ : ∃ q, World.setRow w5 (World.heap w3).size (fA k e (.slice none 0 0)) = q := ⟨_, rfl⟩; rw [hw6] at hgo hbo; rw [hw6]; obtain ⟨g, hgn⟩ : ∃ q, (World.heap w3).size = q := ⟨_, rfl⟩; have hge := Nat.le_trans HGE.out (Nat.le_of_eq hgn); rw [hgn] at hgo; rw [hgn]; have HG6 := Lib.hid hgo; have HGL := Lib.hid hge; clear hgo hge; (try clear hN); have hN := hbo; clear hbo
        rotate_left
        focus
          go_simp
          obtain ⟨w5, hw5⟩ : ∃ q, ((World.alloc w1 (.cells (fA 0 0 (.slice none 0 0)) 82))).drew = q := ⟨_, rfl⟩; have hb5 : Below w1.heap.size w1 w5 := (by rw [← hw5]; exact bdrew0 _ _); have hg5 : FO w5 w1.heap.size 0 0 (.slice none 0 0) := (by rw [← hw5]; exact FO.alloc w1); have HG := Lib.hid hg5; clear hg5; rw [hw5]; have HGE : Hid (w1.heap.size ≤ w1.heap.size) := Lib.hid (Nat.le_refl _); (try clear hN); have hN := hb5
          refine hK.out _ _ ?_ (fun hS1 => ?_)
          · (first | exact hN | exact hS)
          clear hK K hS; have hS := hS1; clear hS1
          (try simp only [rgp])
          refine rg_one 6 ⟨some 46, .call { callee := .value (.func 80), args := #[.tmp 45], argTypes := #[49] }, 22, _, _, none⟩ (by kernel_rfl) rfl (fun K hK => ?_)
          go_simp
          (go_at_call 80; (with_reducible refine (HGT.out _ (HR7.out.keep hS)).mono ?_); rintro r w3 ⟨rfl, hb3⟩; (try clear hN); have HG := Lib.hid (HG.out.keep hb3); have hN := hS.trans (hb3.mono hS.size))
          refine hK.out _ _ ?_ (fun hS1 => ?_)
          · (first | exact hN | exact hS)
          clear hK K hS; have hS := hS1; clear hS1
          (try simp only [rgp])
          refine rgw 7 ⟨some 47, .convert 22 80 (.tmp 46), 80, _, _, none⟩ hS ?_ (v := .int .u32 e) (hy := by intro w hSw; (try dsimp only at hSw); have z := HKE.out; go_simp; (try exact z))
          refine rgw 8 ⟨some 48, .build 82 #[(0, .tmp 43), (1, .tmp 47)], 82, _, _, none⟩ hS ?_ (v := .agg (fA k e (.slice none 0 0))) (hy := by intro w hSw; (try dsimp only at hSw); go_simp; try with_reducible rfl)
          refine rg_one 10 ⟨none, .store 82 (.tmp 10) (.tmp 48), 0, _, _, none⟩ (by kernel_rfl) rfl (fun K hK => ?_)
          rw [if_pos (by rfl)]; refine wp_store_row 82 (.tmp 10) (.tmp 48) rfl w1.heap.size (fA k e (.slice none 0 0)) rfl rfl _ _ HG.out (fr_info _ rfl) rfl (fr_one _ _ _ _ _) ?_; have hgo := HG.out.row k e (.slice none 0 0); have hbo := brow hS (b := w1.heap.size) HGE.out (Nat.le_refl _) (fA k e (.slice none 0 0)); obtain ⟨w6, hw6⟩ : ∃ q, World.setRow w3 w1.heap.size (fA k e (.slice none 0 0)) = q := ⟨_, rfl⟩; rw [hw6] at hgo hbo; rw [hw6]; obtain ⟨g, hgn⟩ : ∃ q, w1.heap.size = q := ⟨_, rfl⟩; have hge := Nat.le_trans HGE.out (Nat.le_of_eq hgn); rw [hgn] at hgo; rw [hgn]; have HG6 := Lib.hid hgo; have HGL := Lib.hid hge; clear hgo hge; (try clear hN); have hN := hbo; clear hbo
        rotate_left
        all_goals
          refine hK.out _ _ ?_ (fun hS1 => ?_)
          · (first | exact hN | exact hS)
          clear hK K hS; have hS := hS1; clear hS1
          (try simp only [Act.put])
          refine wpAnyH_done (by kernel_rfl) ?_ _
          have HB6 := Lib.hid (bch HB1.out hS)
          have HA6 := Lib.hid (HA1.out.keep hS)
          have HR6 := Lib.hid (HR1.out.keep hS)
          obtain ⟨c0, c1, c2⟩ := HG6.out.cells
          have HLT : Hid (w.heap.size < g) := Lib.hid (Nat.lt_of_lt_of_le HA1.out.lt HGL.out)
          have HBW := Lib.hid hS
          clear hS hN HG HGE
          rcases HC.out with ⟨q1, hq⟩ | ⟨q1, q2, hq⟩ | ⟨q1, q2, q3, hq⟩ | ⟨q1, q2, q3, q4, hq⟩ | ⟨q1, q2, q3, q4, q5, hq⟩ | ⟨q1, q2, q3, q4, q5, q6, hq⟩ | ⟨q1, q2, q3, q4, q5, q6, hq⟩
          · have hR := Lib.hid hq
            clear hq HC
            go_wp2_with (first
              | (refine wpList_store_row rfl 82 _ _ rfl w.heap.size (fA 0 0 (.slice none 0 0)) rfl rfl _ _ HA6.out (fr_info _ rfl) rfl (fr_one _ _ _ _ _) ?_))
            refine bodyPost_ret_by (results_row_tmp2 rfl _ _ w.heap.size _ rfl (HA6.out.row 0 0 (.slice none 0 0)).load) rfl ?_
            exact decf_none hR.out (brow HB6.out (Nat.le_refl _) (Nat.le_refl _) _)
          · have hR := Lib.hid hq
            clear hq HC
            go_wp2_with (first
              | (refine wpList_store_row rfl 82 _ _ rfl w.heap.size (fA 0 0 (.slice none 0 0)) rfl rfl _ _ HA6.out (fr_info _ rfl) rfl (fr_one _ _ _ _ _) ?_))
            refine bodyPost_ret_by (results_row_tmp2 rfl _ _ w.heap.size _ rfl (HA6.out.row 0 0 (.slice none 0 0)).load) rfl ?_
            exact decf_none hR.out (brow HB6.out (Nat.le_refl _) (Nat.le_refl _) _)
          · have hR := Lib.hid hq
            clear hq HC
            go_wp2_with (first
              | (refine wpList_store_row rfl 82 _ _ rfl w.heap.size (fA 0 0 (.slice none 0 0)) rfl rfl _ _ HA6.out (fr_info _ rfl) rfl (fr_one _ _ _ _ _) ?_))
            refine bodyPost_ret_by (results_row_tmp2 rfl _ _ w.heap.size _ rfl (HA6.out.row 0 0 (.slice none 0 0)).load) rfl ?_
            exact decf_none hR.out (brow HB6.out (Nat.le_refl _) (Nat.le_refl _) _)
          · have hR := Lib.hid hq
            have q5 : (e != ep) = true := by simpa using q4
            clear hq HC q4
            go_wp2_with (first
              | (refine wpList_store_row rfl 82 _ _ rfl w.heap.size (fA 0 0 (.slice none 0 0)) rfl rfl _ _ HA6.out (fr_info _ rfl) rfl (fr_one _ _ _ _ _) ?_))
            refine bodyPost_ret_by (results_row_tmp2 rfl _ _ w.heap.size _ rfl (HA6.out.row 0 0 (.slice none 0 0)).load) rfl ?_
            exact decf_none hR.out (brow HB6.out (Nat.le_refl _) (Nat.le_refl _) _)
          · have hR := Lib.hid hq
            subst q4
            have q6 : (len : Int) < (sz : Int) := by have := HLC.out.2.1; omega
            clear hq HC q5
            go_wp2_with (first
              | (refine wpList_store_row rfl 82 _ _ rfl w.heap.size (fA 0 0 (.slice none 0 0)) rfl rfl _ _ HA6.out (fr_info _ rfl) rfl (fr_one _ _ _ _ _) ?_))
            refine bodyPost_ret_by (results_row_tmp2 rfl _ _ w.heap.size _ rfl (HA6.out.row 0 0 (.slice none 0 0)).load) rfl ?_
            exact decf_none hR.out (brow HB6.out (Nat.le_refl _) (Nat.le_refl _) _)
          · have hR := Lib.hid hq
            subst q4
            have q7 : ¬ (len : Int) < (sz : Int) := by have := HLC.out.2.1; omega
            have HSZ : Hid ((sz : Int) = ((11 + n : Nat) : Int) ∧ sz = 11 + n ∧ n ≤ 197 ∧ sz ≤ len) := Lib.hid ⟨HSZ.out.1, HSZ.out.2.1, by omega, by have := HLC.out.2.1; omega⟩
            have HW6 : Hid (IntKind.i64.wrap (sz : Int) = (sz : Int)) := Lib.hid (by rw [IntKind.wrap_i64]; omega)
            have HBN : Hid (isB ((zs.drop 11).take n)) := Lib.hid ((HLC.out.2.2.drop 11).take n)
            have HBY : Hid (∀ v W, RI .u8 W v n ((zs.drop 11).take n) → Calls Tryz.prog 62 #[.agg (fA k e v)] W fun r w' => ∃ a c, r = .returned (.slice a sz c) ∧ RI .u8 w' (.slice a sz c) sz (fragB k e ((zs.drop 11).take n)) ∧ Below W.heap.size W w') := Lib.hid fun v W hr =>
              (rfbytes_any k e v n _ W (decide_eq_true ⟨q2, q3, HSZ.out.2.2.1⟩) ⟨e0, e1⟩ hr HBN.out).mono fun _ _ ⟨a, c, h, ho, hb⟩ => ⟨a, c, by rw [h, HSZ.out.2.1], by rw [HSZ.out.2.1]; exact RI.own ho, hb⟩
            obtain ⟨sB, hsB⟩ : ∃ q, strOfNums (fragB k e ((zs.drop 11).take n)) = q := ⟨_, rfl⟩
            have HSB := Lib.hid hsB
            obtain ⟨pz, cz, hslz⟩ : ∃ pz cz, sliced (some ⟨x, off, none⟩) 0 sz cap 1 = .slice pz sz cz := by have := sliced_form (some ⟨x, off, none⟩) 0 sz cap 1; rwa [Nat.zero_add] at this
            have HSLZ := Lib.hid hslz
            have hrz := HR1.out.cut 0 sz cap (by have := HSZ.out; omega) (by have := HSZ.out; have := HLC.out.1; omega) (Nat.le_refl _)
            rw [Nat.zero_add, hslz, List.drop_zero] at hrz
            have HRZ := Lib.hid hrz
            obtain ⟨sZ, hsZ⟩ : ∃ q, strOfNums (zs.take sz) = q := ⟨_, rfl⟩
            have HZZ : Hid (strOfNums (zs.take sz) = sZ) := Lib.hid hsZ
            have hne := str_ne (show ¬ sB = sZ from fun h => q6 (strOfNums_inj (fragB_bytes (by omega) e HBN.out) (HLC.out.2.2.take sz) (by rw [hsB, hsZ, h])))
            clear hq HC q5 q6 hsB hsZ hslz hrz
            go_wp2_with (first
              | (refine wpl_cut_lh rfl (.tmp 75) (.const (.int .i64 11)) (.tmp 77) rfl _ len 11 n _ rfl rfl (congrArg (Value.int .i64) HSZ.out.1) (HR6.out.keep (balloc _ _)) (by have := HSZ.out; omega) ?_; intro p3 c3 hr3; have HR3 := Lib.hid hr3; clear hr3)
              | (at_builtin; refine wpl_appn rfl (.tmp 74) (.tmp 78) 49 rfl 5 .u8 1 Tryz.underlying49 Tryz.info_u8 w6.heap.size _ 0 [] rfl (own_empty rfl (Nat.le_refl _)) _ n ((zs.drop 11).take n) rfl HR3 (by have := HSZ.out; omega) (by have := HSZ.out; omega) w6.heap.size w6 (Lib.hid (balloc _ _)) (Nat.le_refl _) (by simp) ?_; intro v7 w7 HO7 HB7; rw [Nat.zero_add, List.nil_append] at HO7; obtain ⟨p7, c7, rfl⟩ := own_form HO7.out; have HGK := HG6.out.keep HB7.out; have hf7 := HGK.frozen 2; have hz7 := HGK.cells.2.2; have HG8 := Lib.hid (HGK.set2 (.slice p7 n c7)); have HA8 := Lib.hid ((HA6.out.keep HB7.out).set_apart (b' := g) (Nat.ne_of_lt HLT.out) 2 (.slice p7 n c7)); have HO8 := Lib.hid (HGK.set_own 2 (.slice p7 n c7) HO7.out); have HB8 := Lib.hid (bset (bch HB6.out HB7.out) (b := g) (Nat.le_of_lt HLT.out) (Nat.le_refl _) 2 (.slice p7 n c7)); have HRZ8 := Lib.hid (HRZ.out.keep (bset (b := g) (bch HBW.out HB7.out) HGL.out (Nat.le_refl _) 2 (.slice p7 n c7))); clear HGK))
            obtain ⟨w8, hw8⟩ : ∃ q, w7.setCell ⟨g, 2, none⟩ (.slice p7 n c7) = q := ⟨_, rfl⟩
            rw [hw8] at HG8 HA8 HO8 HB8 HRZ8 ⊢
            clear hf7 hz7 hw8 HO7 HB7 HR3
            refine wp_region_held_drew (S := (fun W' => Below w8.heap.size w8 W')) (by kernel_rfl) ((Below.refl _ _).drew) (fun hS => ?_)
            refine rgw 0 ⟨some 81, .load 82 (.tmp 10), 82, _, _, none⟩ hS ?_ (v := .agg (fA k e (.slice p7 n c7))) (hy := by intro w hSw; (try dsimp only at hSw); exact exec_load_fr (.tmp 10) rfl rfl (HG8.out.keep hSw))
            refine rgw 3 ⟨some 84, .move (.tmp 0), 49, _, _, none⟩ hS ?_
            refine rgw 4 ⟨some 85, .move (.tmp 9), 3, _, _, none⟩ hS ?_
            refine rgw 5 ⟨some 86, .binOp .add 3 (.const (.int .i64 11)) (.tmp 85) 3, 3, _, _, none⟩ hS ?_ (v := .int .i64 (sz : Int)) (hy := by intro w hSw; (try dsimp only at hSw); have z := HW6.out; go_simp; (try exact z))
            refine rgw 6 ⟨some 87, .slice 49 (.tmp 84) none (some (.tmp 86)) none, 49, _, _, none⟩ hS ?_ (v := .slice pz sz cz) (hy := by intro w hSw; (try dsimp only at hSw); exact (exec_cut_h (.tmp 84) (.tmp 86) rfl _ len cap sz rfl rfl (by have := HSZ.out; have := HLC.out.1; omega)).trans (by rw [HSLZ.out]))
            refine rgw 7 ⟨some 88, .convert 49 9 (.tmp 87), 9, _, _, none⟩ hS ?_ (hy := by intro w hSw; (try dsimp only at hSw); have z := conv_ri (RI.keep hSw HRZ8.out); rw [HZZ.out] at z; go_simp; try with_reducible rfl)
            refine rg_one 1 ⟨some 82, .call { callee := .value (.func 62), args := #[.tmp 81], argTypes := #[82] }, 49, _, _, none⟩ (by kernel_rfl) rfl (fun K hK => ?_)
            go_simp
            (go_at_call 62; (with_reducible refine (HBY.out _ _ (RI.keep hS (RI.own HO8.out))).mono ?_); rintro r w9 ⟨a9, c9, rfl, hr9, hb9⟩; have HR9 := Lib.hid hr9; have hN := hS.trans (hb9.mono hS.size))
            refine hK.out _ _ ?_ (fun hS1 => ?_)
            · (first | exact hN | exact hS)
            clear hK K hS; have hS := hS1; clear hS1
            (try simp only [rgp])
            (apply rg_strong (S' := fun w' => (convert 49 9 (.slice a9 sz c9)).run Tryz.prog w' = .ok (.string sB) w' ∧ Below w8.heap.size w8 w') (fun _ h => h.2); have hS2 := hS; clear hS; (try clear hN); have hS := And.intro (show (convert 49 9 (.slice a9 sz c9)).run Tryz.prog w9 = .ok (.string sB) w9 from by have := conv_ri HR9.out; rwa [HSB.out] at this) hS2)
            refine rgw 2 ⟨some 83, .convert 49 9 (.tmp 82), 9, _, _, none⟩ hS ?_ (hy := by intro w hSw; (try dsimp only at hSw); have z := hSw.1; go_simp; try with_reducible rfl)
            refine rgw 8 ⟨some 89, .binOp .neq 9 (.tmp 83) (.tmp 88) 9, 4, _, _, none⟩ hS ?_ (v := .bool true) (hy := by intro w hSw; (try dsimp only at hSw); go_simp; try with_reducible rfl)
            refine wpAnyH_done (by kernel_rfl) ?_ _
            have HB9 := Lib.hid (bch HB8.out hS.2)
            have HA9 := Lib.hid (HA8.out.keep hS.2)
            have HG9 := Lib.hid (HG8.out.keep hS.2)
            have HO9 := Lib.hid (own_keep HO8.out hS.2)
            clear hS
            go_wp2_with (first
              | (refine wpList_store_row rfl 82 _ _ rfl w.heap.size (fA 0 0 (.slice none 0 0)) rfl rfl _ _ HA9.out (fr_info _ rfl) rfl (fr_one _ _ _ _ _) ?_))
            refine bodyPost_ret_by (results_row_tmp2 rfl _ _ w.heap.size _ rfl (HA9.out.row 0 0 (.slice none 0 0)).load) rfl ?_
            exact decf_none hR.out (brow HB9.out (Nat.le_refl _) (Nat.le_refl _) _)
          · have hR := Lib.hid hq
            subst q4
            have q7 : ¬ (len : Int) < (sz : Int) := by have := HLC.out.2.1; omega
            have HSZ : Hid ((sz : Int) = ((11 + n : Nat) : Int) ∧ sz = 11 + n ∧ n ≤ 197 ∧ sz ≤ len) := Lib.hid ⟨HSZ.out.1, HSZ.out.2.1, by omega, by have := HLC.out.2.1; omega⟩
            have HW6 : Hid (IntKind.i64.wrap (sz : Int) = (sz : Int)) := Lib.hid (by rw [IntKind.wrap_i64]; omega)
            have HBN : Hid (isB ((zs.drop 11).take n)) := Lib.hid ((HLC.out.2.2.drop 11).take n)
            have HBY : Hid (∀ v W, RI .u8 W v n ((zs.drop 11).take n) → Calls Tryz.prog 62 #[.agg (fA k e v)] W fun r w' => ∃ a c, r = .returned (.slice a sz c) ∧ RI .u8 w' (.slice a sz c) sz (fragB k e ((zs.drop 11).take n)) ∧ Below W.heap.size W w') := Lib.hid fun v W hr =>
              (rfbytes_any k e v n _ W (decide_eq_true ⟨q2, q3, HSZ.out.2.2.1⟩) ⟨e0, e1⟩ hr HBN.out).mono fun _ _ ⟨a, c, h, ho, hb⟩ => ⟨a, c, by rw [h, HSZ.out.2.1], by rw [HSZ.out.2.1]; exact RI.own ho, hb⟩
            obtain ⟨sB, hsB⟩ : ∃ q, strOfNums (fragB k e ((zs.drop 11).take n)) = q := ⟨_, rfl⟩
            have HSB := Lib.hid hsB
            obtain ⟨pz, cz, hslz⟩ : ∃ pz cz, sliced (some ⟨x, off, none⟩) 0 sz cap 1 = .slice pz sz cz := by have := sliced_form (some ⟨x, off, none⟩) 0 sz cap 1; rwa [Nat.zero_add] at this
            have HSLZ := Lib.hid hslz
            have hrz := HR1.out.cut 0 sz cap (by have := HSZ.out; omega) (by have := HSZ.out; have := HLC.out.1; omega) (Nat.le_refl _)
            rw [Nat.zero_add, hslz, List.drop_zero] at hrz
            have HRZ := Lib.hid hrz
            rw [← q6] at HRZ
            have HZZ : Hid (strOfNums (fragB k e ((zs.drop 11).take n)) = sB) := Lib.hid hsB
            clear hq HC q5 q6 hsB hslz hrz
            go_wp2_with (first
              | (refine wpl_cut_lh rfl (.tmp 75) (.const (.int .i64 11)) (.tmp 77) rfl _ len 11 n _ rfl rfl (congrArg (Value.int .i64) HSZ.out.1) (HR6.out.keep (balloc _ _)) (by have := HSZ.out; omega) ?_; intro p3 c3 hr3; have HR3 := Lib.hid hr3; clear hr3)
              | (at_builtin; refine wpl_appn rfl (.tmp 74) (.tmp 78) 49 rfl 5 .u8 1 Tryz.underlying49 Tryz.info_u8 w6.heap.size _ 0 [] rfl (own_empty rfl (Nat.le_refl _)) _ n ((zs.drop 11).take n) rfl HR3 (by have := HSZ.out; omega) (by have := HSZ.out; omega) w6.heap.size w6 (Lib.hid (balloc _ _)) (Nat.le_refl _) (by simp) ?_; intro v7 w7 HO7 HB7; rw [Nat.zero_add, List.nil_append] at HO7; obtain ⟨p7, c7, rfl⟩ := own_form HO7.out; have HGK := HG6.out.keep HB7.out; have hf7 := HGK.frozen 2; have hz7 := HGK.cells.2.2; have HG8 := Lib.hid (HGK.set2 (.slice p7 n c7)); have HA8 := Lib.hid ((HA6.out.keep HB7.out).set_apart (b' := g) (Nat.ne_of_lt HLT.out) 2 (.slice p7 n c7)); have HO8 := Lib.hid (HGK.set_own 2 (.slice p7 n c7) HO7.out); have HB8 := Lib.hid (bset (bch HB6.out HB7.out) (b := g) (Nat.le_of_lt HLT.out) (Nat.le_refl _) 2 (.slice p7 n c7)); have HRZ8 := Lib.hid (HRZ.out.keep (bset (b := g) (bch HBW.out HB7.out) HGL.out (Nat.le_refl _) 2 (.slice p7 n c7))); clear HGK))
            obtain ⟨w8, hw8⟩ : ∃ q, w7.setCell ⟨g, 2, none⟩ (.slice p7 n c7) = q := ⟨_, rfl⟩
            rw [hw8] at HG8 HA8 HO8 HB8 HRZ8 ⊢
            clear hf7 hz7 hw8 HO7 HB7 HR3
            refine wp_region_held_drew (S := (fun W' => Below w8.heap.size w8 W')) (by kernel_rfl) ((Below.refl _ _).drew) (fun hS => ?_)
            refine rgw 0 ⟨some 81, .load 82 (.tmp 10), 82, _, _, none⟩ hS ?_ (v := .agg (fA k e (.slice p7 n c7))) (hy := by intro w hSw; (try dsimp only at hSw); exact exec_load_fr (.tmp 10) rfl rfl (HG8.out.keep hSw))
            refine rgw 3 ⟨some 84, .move (.tmp 0), 49, _, _, none⟩ hS ?_
            refine rgw 4 ⟨some 85, .move (.tmp 9), 3, _, _, none⟩ hS ?_
            refine rgw 5 ⟨some 86, .binOp .add 3 (.const (.int .i64 11)) (.tmp 85) 3, 3, _, _, none⟩ hS ?_ (v := .int .i64 (sz : Int)) (hy := by intro w hSw; (try dsimp only at hSw); have z := HW6.out; go_simp; (try exact z))
            refine rgw 6 ⟨some 87, .slice 49 (.tmp 84) none (some (.tmp 86)) none, 49, _, _, none⟩ hS ?_ (v := .slice pz sz cz) (hy := by intro w hSw; (try dsimp only at hSw); exact (exec_cut_h (.tmp 84) (.tmp 86) rfl _ len cap sz rfl rfl (by have := HSZ.out; have := HLC.out.1; omega)).trans (by rw [HSLZ.out]))
            refine rgw 7 ⟨some 88, .convert 49 9 (.tmp 87), 9, _, _, none⟩ hS ?_ (hy := by intro w hSw; (try dsimp only at hSw); have z := conv_ri (RI.keep hSw HRZ8.out); rw [HZZ.out] at z; go_simp; try with_reducible rfl)
            refine rg_one 1 ⟨some 82, .call { callee := .value (.func 62), args := #[.tmp 81], argTypes := #[82] }, 49, _, _, none⟩ (by kernel_rfl) rfl (fun K hK => ?_)
            go_simp
            (go_at_call 62; (with_reducible refine (HBY.out _ _ (RI.keep hS (RI.own HO8.out))).mono ?_); rintro r w9 ⟨a9, c9, rfl, hr9, hb9⟩; have HR9 := Lib.hid hr9; have hN := hS.trans (hb9.mono hS.size))
            refine hK.out _ _ ?_ (fun hS1 => ?_)
            · (first | exact hN | exact hS)
            clear hK K hS; have hS := hS1; clear hS1
            (try simp only [rgp])
            (apply rg_strong (S' := fun w' => (convert 49 9 (.slice a9 sz c9)).run Tryz.prog w' = .ok (.string sB) w' ∧ Below w8.heap.size w8 w') (fun _ h => h.2); have hS2 := hS; clear hS; (try clear hN); have hS := And.intro (show (convert 49 9 (.slice a9 sz c9)).run Tryz.prog w9 = .ok (.string sB) w9 from by have := conv_ri HR9.out; rwa [HSB.out] at this) hS2)
            refine rgw 2 ⟨some 83, .convert 49 9 (.tmp 82), 9, _, _, none⟩ hS ?_ (hy := by intro w hSw; (try dsimp only at hSw); have z := hSw.1; go_simp; try with_reducible rfl)
            refine rgw 8 ⟨some 89, .binOp .neq 9 (.tmp 83) (.tmp 88) 9, 4, _, _, none⟩ hS ?_ (v := .bool false) (hy := by intro w hSw; (try dsimp only at hSw); go_simp; try with_reducible rfl)
            refine wpAnyH_done (by kernel_rfl) ?_ _
            have HB9 := Lib.hid (bch HB8.out hS.2)
            have HA9 := Lib.hid (HA8.out.keep hS.2)
            have HG9 := Lib.hid (HG8.out.keep hS.2)
            have HO9 := Lib.hid (own_keep HO8.out hS.2)
            clear hS
            go_wp2_with (first
              | (refine wpl_load_fr rfl (.tmp 10) rfl rfl HG9.out ?_)
              | (refine wpList_store_row rfl 82 _ _ rfl w.heap.size (fA k e (.slice p7 n c7)) rfl rfl _ _ HA9.out (fr_info _ rfl) rfl (fr_one _ _ _ _ _) ?_))
            refine bodyPost_ret_by (results_row_tmp2 rfl _ _ w.heap.size _ rfl (HA9.out.row k e (.slice p7 n c7)).load) rfl ?_
            exact decf_some hR.out (HA9.out.row_own _ (own_mono HO9.out HB6.out.size)) (brow HB9.out (Nat.le_refl _) (Nat.le_refl _) _)
end Go.Proofs.YtnmplnemnfonfaaGreatDoor
namespace Go.Proofs.YtnmplnemnfonfaaGreatDoor
open Go.RowKit
def AccF (F : FR × Nat) (w : World) (r : Ending) (w' : World) : Prop :=
  ∃ p c, r = .returned (.tuple #[.agg (fA F.1.kind F.1.epoch (.slice p F.1.data.length c)), .int .i64 (F.2 : Nat)]) ∧ w'.ownsRow w.heap.size 5 1 (.slice p F.1.data.length c) F.1.data.length (il .u8 F.1.data) ∧ Below w.heap.size w w'
set_option maxRecDepth 8000 in
set_option maxHeartbeats 4000000 in
theorem racc_any (x : Int) (hx : U64 x) (bv kv : Value) (B : List Int) (K : List Bool) (w : World) (hB : B.length = 832) (hBb : isB B) (hbv : RI .u8 w bv 832 B) (hk : BS w kv 16 K) (a : Nat) (ha : a = 832 ∨ a + 11 ≤ 832) :
    Calls Tryz.prog 31 #[.int .u64 x, bv, kv, .int .i64 a] w (AccF (scF (x % 4294967296) B K a) w) := by
  obtain ⟨ep, hep⟩ : ∃ e, x % 4294967296 = e := ⟨_, rfl⟩
  rw [hep]
  have hx2 : 0 ≤ x ∧ x ≤ 18446744073709551615 := hx
  have htm : x.tmod 4294967296 = ep := by rw [Int.tmod_eq_emod_of_nonneg hx2.1]; exact hep
  have hepb : 0 ≤ ep ∧ ep ≤ 4294967295 := by omega
  have hw32 : IntKind.u32.wrap ep = ep := by rw [wrap_u32']; omega
  have hwu : IntKind.u64.wrap ep = ep := IntWalk.u64_in _ (by omega)
  have ha8 : a ≤ 832 := by omega
  obtain ⟨wa, hwa⟩ : ∃ q, w.alloc (.cells (fA 0 0 (.slice none 0 0)) 82) = q := ⟨_, rfl⟩
  have HA : Hid (FO wa w.heap.size 0 0 (.slice none 0 0)) := Lib.hid (by rw [← hwa]; exact FO.alloc w)
  have hba : Below w.heap.size w wa := by rw [← hwa]; exact balloc w _
  have HBA := Lib.hid hba
  have HKA := Lib.hid (hk.kin (Kin.below hba))
  have HBV := Lib.hid (hbv.keep hba)
  have HCV : Hid (∀ (w' : World) (n : Nat), Below wa.heap.size wa w' → n ≤ 100000 → Calls Tryz.prog 56 #[kv, .int .i64 a, .int .i64 n] w' fun e w'' => e = .returned (.bool (covAt K (a : Int) (n : Int))) ∧ w'' = w') := Lib.hid fun w' n h hn => rcovered_any kv 16 K a n (by unfold I63; omega) (by unfold I63; omega) w' (HKA.out.kin (Kin.below h))
  obtain ⟨t, ht⟩ : ∃ t, a + 11 = t := ⟨_, rfl⟩
  have htI : (a : Int) + 11 = (t : Int) := by omega
  have htb : (t : Int) ≤ 1000 := by omega
  have HT := Lib.hid ht
  by_cases h8 : a = 832
  · have HR := Lib.hid (scF_far (ep := ep) (B := B) (K := K) h8)
    have h8i : (832 : Int) < (t : Int) := by omega
    rw [HR.out]
    clear hx hx2 htm hepb hw32 hwu ha8 hba ha h8 ht hB hBb hbv hk hep
    go_enter Tryz.func31, Tryz.ntmps31
    go_wp2_with (first
      | (rw [hwa])
      | (refine wpl_put_fr rfl (.tmp 8) (.tmp 24) rfl w.heap.size HA.out 0 0 none 0 0 rfl rfl ?_; intro wz HZ HGZ))
    refine bodyPost_ret_by (results_row_tmp rfl _ _ w.heap.size _ rfl HZ.out.load) rfl ?_
    exact ⟨none, 0, rfl, World.ownsRow_nil _ _ _ _, below_over HBA.out HGZ.out (Nat.le_refl _) HBA.out.size⟩
  have h8i : ¬ (832 : Int) < (t : Int) := by omega
  cases h11 : covAt K (a : Int) ((a + 11 : Nat) : Int) with
  | false =>
    have HR := Lib.hid (scF_head (ep := ep) (B := B) (K := K) h11)
    have HH : Hid (∀ w', Below wa.heap.size wa w' → Calls Tryz.prog 56 #[kv, .int .i64 a, .int .i64 t] w' fun e w'' => e = .returned (.bool false) ∧ w' = w'') := Lib.hid fun w' h => by
      have := HCV.out w' t h (by omega)
      rw [← ht, h11] at this
      rw [← ht]
      exact this.mono fun e w'' ⟨h1, h2⟩ => ⟨h1, h2.symm⟩
    rw [HR.out]
    clear hx hx2 htm hepb hw32 hwu ha8 hba ha h8 ht hB hBb hbv hk hep h11
    go_enter Tryz.func31, Tryz.ntmps31
    go_wp2_with (first
      | (rw [hwa])
      | (go_at_call 56; (with_reducible refine (HH.out _ (Below.refl _ _)).mono ?_); rintro e w1 ⟨rfl, rfl⟩)
      | (refine wpl_put_fr rfl (.tmp 8) (.tmp 24) rfl w.heap.size HA.out 0 0 none 0 0 rfl rfl ?_; intro wz HZ HGZ))
    refine bodyPost_ret_by (results_row_tmp rfl _ _ w.heap.size _ rfl HZ.out.load) rfl ?_
    exact ⟨none, 0, rfl, World.ownsRow_nil _ _ _ _, below_over HBA.out HGZ.out (Nat.le_refl _) HBA.out.size⟩
  | true =>
    have HH : Hid (∀ w', Below wa.heap.size wa w' → Calls Tryz.prog 56 #[kv, .int .i64 a, .int .i64 t] w' fun e w'' => e = .returned (.bool true) ∧ w' = w'') := Lib.hid fun w' h => by
      have := HCV.out w' t h (by omega)
      rw [← ht, h11] at this
      rw [← ht]
      exact this.mono fun e w'' ⟨h1, h2⟩ => ⟨h1, h2.symm⟩
    obtain ⟨l, hl⟩ : ∃ l, leftN a = l := ⟨_, rfl⟩
    have hla := left_le a ha8
    rw [hl] at hla
    have HLF : Hid (∀ w, Calls Tryz.prog 58 #[.int .i64 a] w fun e w' => e = .returned (.int .i64 (l : Int)) ∧ w = w') := Lib.hid fun w => by
      have := rleft_any (a : Int) (by unfold I63; omega) w
      rw [nr_nat a ha8, hl] at this
      exact this.mono fun e w'' ⟨h1, h2⟩ => ⟨h1, h2.symm⟩
    obtain ⟨v, hv⟩ : ∃ v, a + l = v := ⟨_, rfl⟩
    have hvI : (a : Int) + (l : Int) = (v : Int) := by omega
    have hv8 : (v : Int) ≤ 832 := by omega
    have HV := Lib.hid hv
    have hbs : isB (bSl B a) := (hBb.drop _).take _
    have HDC : Hid (∀ w p c, RI .u8 w (.slice p l c) l ((B.drop a).take l) → Calls Tryz.prog 57 #[.slice p l c, .int .u32 ep] w (DecF (bSl B a) ep w)) := Lib.hid fun w p c h => rfdec_any _ l _ ep w (by unfold bSl; rw [hl]; exact h) hbs
    obtain ⟨f, m, e, hD⟩ : ∃ f m e, scD ep B a = (f, m, e) := ⟨_, _, _, rfl⟩
    have HDF : Hid (∀ w w' r, DecF (bSl B a) ep w r w' → ∃ p n c, r = .returned (.tuple #[.agg (fA f.kind f.epoch (.slice p n c)), .int .i64 (m : Nat), .int .i64 e]) ∧ w'.ownsRow w.heap.size 5 1 (.slice p n c) n (il .u8 f.data) ∧ Below w.heap.size w w') := Lib.hid fun w w' r h => by
      obtain ⟨p, n, c, h1, h2, h3⟩ := h
      rw [show fragD (bSl B a) ep = (f, m, e) from hD] at h1 h2
      exact ⟨p, n, c, h1, h2, h3⟩
    have HHL : Hid (a + l ≤ 832) := Lib.hid hla
    by_cases he : e = 0
    · have h3 : (scD ep B a).2.2 = 0 := by rw [hD]; exact he
      have hp := scD_parts hB ha8 h3
      rw [hD] at hp
      obtain ⟨u, hu⟩ : ∃ u, a + m = u := ⟨_, rfl⟩
      have huI : (a : Int) + (m : Int) = (u : Int) := by omega
      have hub : (u : Int) ≤ 832 := by have := hp.2.2.1; dsimp only at this; omega
      cases h4 : covAt K (a : Int) ((a + m : Nat) : Int) with
      | true =>
        have HR := scF_yes h8 h11 h3 (by rw [hD]; exact h4)
        rw [hD] at HR
        dsimp only at HR
        have HH2 : Hid (∀ w', Below wa.heap.size wa w' → Calls Tryz.prog 56 #[kv, .int .i64 a, .int .i64 u] w' fun e w'' => e = .returned (.bool true) ∧ w' = w'') := Lib.hid fun w' h => by
          have := HCV.out w' u h (by omega)
          rw [← hu, h4] at this
          rw [← hu]
          exact this.mono fun e w'' ⟨h1, h2⟩ => ⟨h1, h2.symm⟩
        rw [HR]
        obtain ⟨fk, fe, fd⟩ := f
        dsimp only at HDF
        clear hx hx2 hepb ha8 hba ha h8 ht hB hBb hbv hk hep h11 HR hl hla hv hbs hD h3 hp h4 hu
        go_enter Tryz.func31, Tryz.ntmps31
        go_wp2_with (first
          | (rw [hwa])
          | (go_at_call 56; (with_reducible refine (HH2.out _ HW5.out).mono ?_); rintro r w1 ⟨rfl, rfl⟩)
          | (go_at_call 56; (with_reducible refine (HH.out _ (Below.refl _ _)).mono ?_); rintro r w1 ⟨rfl, rfl⟩)
          | (go_at_call 58; (with_reducible refine (HLF.out _).mono ?_); rintro r w2 ⟨rfl, rfl⟩)
          | (refine wpl_cut_lh rfl (.tmp 26) (.tmp 27) (.tmp 31) rfl bv 832 a l B rfl rfl (by rw [HV.out]; rfl) HBV.out HHL.out ?_; intro pc cc hcc; have HCC := Lib.hid hcc; clear hcc)
          | (go_at_call 57; (refine (HDC.out _ _ _ HCC.out).mono ?_); rintro r w4 hd; obtain ⟨p4, n4, c4, rfl, ho, hb⟩ := HDF.out _ _ _ hd; have HB4 := Lib.hid hb; have HO4 := Lib.hid (own_mono ho (show w.heap.size ≤ _ from HBA.out.size)); clear ho hb hd)
          | (refine wpl_put_fr rfl (.tmp 10) (.tmp 37) rfl w4.heap.size (FO.alloc w4) fk fe p4 n4 c4 rfl rfl ?_; intro w5 HF5 HG5; have hb5 : Below w4.heap.size w4 w5 := below_over (balloc w4 _) HG5.out (Nat.le_refl _) (balloc w4 _).size; have HO5 := Lib.hid (own_keep HO4.out hb5); have HW5 := Lib.hid (bch HB4.out hb5); have HB5 := Lib.hid (bch HBA.out HW5.out); have HA5 := Lib.hid (HA.out.keep HW5.out); clear hb5)
          | (refine wpl_load_fr (by rfl) (.tmp 10) rfl rfl HF5.out ?_)
          | (refine wpl_put_fr rfl (.tmp 8) (.tmp 52) rfl w.heap.size HA5.out fk fe p4 n4 c4 rfl rfl ?_; intro w6 HF6 HG6; have HO6 := Lib.hid (own_over HO5.out HG6.out (fun q hq e => HA5.out.ne_own HO5.out q hq (Option.some.inj e)))))
        refine bodyPost_ret_by (results_row_tmp rfl _ _ w.heap.size _ rfl HF6.out.load) rfl ?_
        have hn4 : fd.length = n4 := (il_length .u8 fd).symm.trans (HO6.out.1.trans (Nat.mul_one _))
        subst hn4
        exact ⟨p4, c4, rfl, HO6.out, below_over HB5.out HG6.out (Nat.le_refl _) HB5.out.size⟩
      | false =>
        have HR := scF_cov (ep := ep) (B := B) (K := K) (a := a) (by rw [hD]; exact h4)
        have HH2 : Hid (∀ w', Below wa.heap.size wa w' → Calls Tryz.prog 56 #[kv, .int .i64 a, .int .i64 u] w' fun e w'' => e = .returned (.bool false) ∧ w' = w'') := Lib.hid fun w' h => by
          have := HCV.out w' u h (by omega)
          rw [← hu, h4] at this
          rw [← hu]
          exact this.mono fun e w'' ⟨h1, h2⟩ => ⟨h1, h2.symm⟩
        rw [HR]
        obtain ⟨fk, fe, fd⟩ := f
        dsimp only at HDF
        clear hx hx2 hepb ha8 hba ha h8 ht hB hBb hbv hk hep h11 HR hl hla hv hbs hD h3 hp h4 hu
        go_enter Tryz.func31, Tryz.ntmps31
        go_wp2_with (first
          | (rw [hwa])
          | (go_at_call 56; (with_reducible refine (HH2.out _ HW5.out).mono ?_); rintro r w1 ⟨rfl, rfl⟩)
          | (go_at_call 56; (with_reducible refine (HH.out _ (Below.refl _ _)).mono ?_); rintro r w1 ⟨rfl, rfl⟩)
          | (go_at_call 58; (with_reducible refine (HLF.out _).mono ?_); rintro r w2 ⟨rfl, rfl⟩)
          | (refine wpl_cut_lh rfl (.tmp 26) (.tmp 27) (.tmp 31) rfl bv 832 a l B rfl rfl (by rw [HV.out]; rfl) HBV.out HHL.out ?_; intro pc cc hcc; have HCC := Lib.hid hcc; clear hcc)
          | (go_at_call 57; (refine (HDC.out _ _ _ HCC.out).mono ?_); rintro r w4 hd; obtain ⟨p4, n4, c4, rfl, ho, hb⟩ := HDF.out _ _ _ hd; have HB4 := Lib.hid hb; have HO4 := Lib.hid (own_mono ho (show w.heap.size ≤ _ from HBA.out.size)); clear ho hb hd)
          | (refine wpl_put_fr rfl (.tmp 10) (.tmp 37) rfl w4.heap.size (FO.alloc w4) fk fe p4 n4 c4 rfl rfl ?_; intro w5 HF5 HG5; have hb5 : Below w4.heap.size w4 w5 := below_over (balloc w4 _) HG5.out (Nat.le_refl _) (balloc w4 _).size; have HO5 := Lib.hid (own_keep HO4.out hb5); have HW5 := Lib.hid (bch HB4.out hb5); have HB5 := Lib.hid (bch HBA.out HW5.out); have HA5 := Lib.hid (HA.out.keep HW5.out); clear hb5)
          | (refine wpl_put_fr rfl (.tmp 8) (.tmp 51) rfl w.heap.size HA5.out 0 0 none 0 0 rfl rfl ?_; intro w6 HF6 HG6))
        refine bodyPost_ret_by (results_row_tmp rfl _ _ w.heap.size _ rfl HF6.out.load) rfl ?_
        exact ⟨none, 0, rfl, World.ownsRow_nil _ _ _ _, below_over HB5.out HG6.out (Nat.le_refl _) HB5.out.size⟩
    · have HR := scF_err (ep := ep) (B := B) (K := K) (a := a) (by rw [hD]; exact he)
      have he1 : (e != 0) = true := by simpa using he
      rw [HR]
      obtain ⟨fk, fe, fd⟩ := f
      dsimp only at HDF
      clear hx hx2 hepb ha8 hba ha h8 ht hB hBb hbv hk hep h11 HR hl hla hv hbs hD he
      go_enter Tryz.func31, Tryz.ntmps31
      go_wp2_with (first
        | (rw [hwa])
        | (go_at_call 56; (with_reducible refine (HH.out _ (Below.refl _ _)).mono ?_); rintro r w1 ⟨rfl, rfl⟩)
        | (go_at_call 58; (with_reducible refine (HLF.out _).mono ?_); rintro r w2 ⟨rfl, rfl⟩)
        | (refine wpl_cut_lh rfl (.tmp 26) (.tmp 27) (.tmp 31) rfl bv 832 a l B rfl rfl (by rw [HV.out]; rfl) HBV.out HHL.out ?_; intro pc cc hcc; have HCC := Lib.hid hcc; clear hcc)
        | (go_at_call 57; (refine (HDC.out _ _ _ HCC.out).mono ?_); rintro r w4 hd; obtain ⟨p4, n4, c4, rfl, ho, hb⟩ := HDF.out _ _ _ hd; have HB4 := Lib.hid hb; have HO4 := Lib.hid (own_mono ho (show w.heap.size ≤ _ from HBA.out.size)); clear ho hb hd)
        | (refine wpl_put_fr rfl (.tmp 10) (.tmp 37) rfl w4.heap.size (FO.alloc w4) fk fe p4 n4 c4 rfl rfl ?_; intro w5 HF5 HG5; have hb5 : Below w4.heap.size w4 w5 := below_over (balloc w4 _) HG5.out (Nat.le_refl _) (balloc w4 _).size; have HO5 := Lib.hid (own_keep HO4.out hb5); have HW5 := Lib.hid (bch HB4.out hb5); have HB5 := Lib.hid (bch HBA.out HW5.out); have HA5 := Lib.hid (HA.out.keep HW5.out); clear hb5)
        | (refine wpl_put_fr rfl (.tmp 8) (.tmp 51) rfl w.heap.size HA5.out 0 0 none 0 0 rfl rfl ?_; intro w6 HF6 HG6))
      refine bodyPost_ret_by (results_row_tmp rfl _ _ w.heap.size _ rfl HF6.out.load) rfl ?_
      exact ⟨none, 0, rfl, World.ownsRow_nil _ _ _ _, below_over HB5.out HG6.out (Nat.le_refl _) HB5.out.size⟩
end Go.Proofs.YtnmplnemnfonfaaGreatDoor
namespace Go.Proofs.YtnmplnemnfonfaaGreatDoor
open Go.RowKit
end Go.Proofs.YtnmplnemnfonfaaGreatDoor
namespace Go.Proofs.YtnmplnemnfonfaaGreatDoor
open Go.RowKit
set_option maxRecDepth 8000 in
set_option maxHeartbeats 1000000 in
theorem rroom_any (l : List Int) (hl : l.length = 64) (w : World) :
    Calls Tryz.prog 79 #[.agg (sv l)] w fun e w' => ∃ v, e = .returned v ∧ RI .u8 w' v 52 (l.drop 12) ∧ Below w.heap.size w w' := by
  obtain ⟨w0, hw0⟩ : ∃ w0, w.alloc (.cells (sv l) 92) = w0 := ⟨_, rfl⟩
  have hb0 := below_alloc w (.cells (sv l) 92)
  have hs0 := alloc_size w (.cells (sv l) 92)
  have hk0 := Blk.new w l hl
  rw [hw0] at hb0 hs0 hk0
  have HK0 := Lib.hid hk0
  have HB0 := Lib.hid hb0
  have HS0 := Lib.hid hs0
  have HL := Lib.hid hl
  have HW := Lib.hid hw0
  clear hk0 hb0 hs0 hl hw0
  go_enter Tryz.func79, Tryz.ntmps79
  go_wp2
  rw [HW.out]
  go_loopw [3, 4] (fun v iv wr => ∃ k : Nat, iv = .int .i64 ((12 + k : Nat) : Int) ∧ k ≤ 52 ∧ Hid (wr.ownsRow w0.heap.size 5 1 v k (il .u8 ((l.drop 12).take k))) ∧ Hid (Below w0.heap.size w0 wr)) (fun _ iv _ => 64 - (intOf iv).toNat)
  case atStart => exact ⟨0, rfl, by omega, Lib.hid (World.ownsRow_nil _ _ _ _), Lib.hid (Below.refl _ _)⟩
  case round =>
    obtain ⟨k, rfl, hk, HO, HB⟩ := hrel
    by_cases hlt : ((12 + k : Nat) : Int) < 64
    · have hk2 : k < 52 := by omega
      have hk3 : 12 + k < 64 := by omega
      obtain ⟨z, hz⟩ : ∃ z, l.getD (12 + k) 0 = z := ⟨_, rfl⟩
      have hcell := (HK0.out.keep HB.out).cell (12 + k) hk3
      rw [hz] at hcell
      have HT := Lib.hid (show (l.drop 12).take (k + 1) = (l.drop 12).take k ++ [z] from by
        rw [← hz, List.take_add_one, List.getElem?_drop, List.getElem?_eq_getElem (by rw [HL.out]; omega)]
        simp [List.getD, HL.out, hk3])
      clear hz
      go_wp2_with (first
        | (at_builtin; refine wpl_app1 rfl (.tmp 9) (.tmp 13) 49 rfl 5 .u8 1 Tryz.underlying49 Tryz.info_u8 w0.heap.size _ k ((l.drop 12).take k) rfl (HO.out.alloc _) ⟨wr.heap.size, 0, none⟩ z rfl (by simp) (by omega) (by omega) w0.heap.size w0 (HB.out.alloc HB.out.size _) (Nat.le_refl _) (by have := HB.out.size; simp; omega) ?_; intro v' w3 HO3 HB3))
      go_roundw
      case rel => exact ⟨k + 1, by go_num, by omega, Lib.hid (by rw [HT.out]; exact HO3.out), HB3⟩
      case measure => simp [intOf]; omega
    · have hk2 : k = 52 := by omega
      subst hk2
      go_wp2
      go_ret
      refine ⟨_, rfl, ?_, chain HB0.out HB.out⟩
      have h1 := RI.own HO.out
      rwa [List.take_of_length_le (by simp [HL.out])] at h1
end Go.Proofs.YtnmplnemnfonfaaGreatDoor
namespace Go.Proofs.YtnmplnemnfonfaaGreatDoor
open Go.RowKit
set_option maxRecDepth 8000 in
set_option maxHeartbeats 1000000 in
theorem ropen_any (l : List Int) (hl : l.length = 64) (x i : Int) (hx : U64 x) (hi : I63 i) (w : World) (y : Bool) (hy : decide (sealed x i (l.drop 12) = l) = y) :
    Calls Tryz.prog 55 #[.agg (sv l), .int .u64 x, .int .i64 i] w fun e w' => ∃ v, e = .returned (.tuple #[v, .bool y]) ∧ RI .u8 w' v (if y then 52 else 0) (if y then l.drop 12 else []) ∧ Below w.heap.size w w' := by
  obtain ⟨w0, hw0⟩ : ∃ w0, w.alloc (.cells (sv l) 92) = w0 := ⟨_, rfl⟩
  have hb0 := below_alloc w (.cells (sv l) 92)
  have hk0 := Blk.new w l hl
  rw [hw0] at hb0 hk0
  have HK0 := Lib.hid hk0
  have HB0 := Lib.hid hb0
  have HL := Lib.hid hl
  have HW := Lib.hid hw0
  have HX := Lib.hid hx
  have HI := Lib.hid hi
  have HQ := Lib.hid (run_eq_sec (sealed x i (l.drop 12)) l (sealed_length _ _ _) hl)
  rw [hy] at HQ
  clear hk0 hb0 hl hw0 hx hi hy
  go_enter Tryz.func55, Tryz.ntmps55
  go_wp2
  rw [HW.out]
  refine wp_region_held_drew (S := (fun w' => Blk w' w.heap.size l ∧ Below w0.heap.size w0 w')) (by kernel_rfl) ⟨HK0.out, (Below.refl _ _).drew⟩ (fun hS => ?_)
  refine rgw 0 ⟨some 8, .move (.tmp 1), 22, _, _, none⟩ hS ?_
  refine rgw 1 ⟨some 9, .move (.tmp 2), 3, _, _, none⟩ hS ?_
  refine rgw 2 ⟨some 10, .load 92 (.tmp 3), 92, _, _, none⟩ hS ?_ (hy := by intro w hSw; (try dsimp only at hSw); refine exec_load_sec (.tmp 3) ?_ ?_ hSw.1 <;> rfl)
  refine rgw 5 ⟨some 13, .load 92 (.tmp 3), 92, _, _, none⟩ hS ?_ (hy := by intro w hSw; (try dsimp only at hSw); refine exec_load_sec (.tmp 3) ?_ ?_ hSw.1 <;> rfl)
  refine rg_one 3 ⟨some 11, .call { callee := .value (.func 79), args := #[.tmp 10], argTypes := #[92] }, 49, _, _, none⟩ (by kernel_rfl) rfl (fun K hK => ?_)
  go_simp
  (go_at_call 79; (with_reducible refine (rroom_any l HL.out _).mono ?_); rintro e w2 ⟨v, rfl, hr, hb⟩)
  refine hK.out _ _ ?_ (fun hS1 => ?_)
  · (first | exact hS | exact ⟨hS.1.keep hb, hS.2.trans (hb.mono hS.2.size)⟩)
  clear hK K hS; have hS := hS1; clear hS1
  (try simp only [rgp])
  refine rg_one 4 ⟨some 12, .call { callee := .value (.func 63), args := #[.tmp 8, .tmp 9, .tmp 11], argTypes := #[22, 3, 49] }, 92, _, _, none⟩ (by kernel_rfl) rfl (fun K hK => ?_)
  go_simp
  (go_at_call 63; (with_reducible refine (rseal_any x i HX.out HI.out v 52 (l.drop 12) _ hr).mono ?_); rintro e w3 ⟨rfl, hb⟩)
  refine hK.out _ _ ?_ (fun hS1 => ?_)
  · (first | exact hS | exact ⟨hS.1.keep hb, hS.2.trans (hb.mono hS.2.size)⟩)
  clear hK K hS; have hS := hS1; clear hS1
  (try simp only [rgp])
  refine rgw 6 ⟨some 14, .binOp .neq 92 (.tmp 12) (.tmp 13) 92, 4, _, _, none⟩ hS ?_ (hy := by intro w hSw; (try dsimp only at hSw); have hq := HQ.out w; go_simp; try with_reducible rfl)
  refine wpAnyH_done (by kernel_rfl) ?_ _
  cases y with
  | false =>
    go_wp2
    go_ret2
    exact ⟨_, rfl, RI.nil _ _, chain HB0.out hS.2⟩
  | true =>
    have HS := Lib.hid hS
    go_wp2_with (first
      | (refine wpList_load_row rfl 92 _ rfl w.heap.size rfl _ (sv l) (0, 0) _ HS.out.1.1 Tryz.underlying92 rfl (sv_info _ HL.out) ?_)
      | (go_at_call 79; (with_reducible refine (rroom_any l HL.out _).mono ?_); rintro e w4 ⟨v4, rfl, hr4, hb4⟩; have HR4 := Lib.hid hr4; have HB4 := Lib.hid hb4; clear hr4 hb4))
    go_ret2
    exact ⟨_, rfl, HR4.out, chain (chain HB0.out HS.out.2) HB4.out⟩
end Go.Proofs.YtnmplnemnfonfaaGreatDoor
