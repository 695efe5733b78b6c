/-
  WHAT THE DOCUMENT'S ANSWERS OF LAYER 13 (frag) ANSWER: the reference's Decode (written by wip/gen/g21.py). No condition of ours.
-/
import Derived.Test.YthickhfbllddjaaDoorJ6
import Derived.Test.YthickhfbllddjaaDoorRefGet
namespace Go.Proofs.YthickhfbllddjaaDoor
open Go.RowKit
set_option maxRecDepth 8000 in
set_option maxHeartbeats 8000000 in
theorem rfdec_any (v : Value) (len : Nat) (zs : List Int) (ep : Int) (w : World) (hri : RI .u8 w v len zs) (hbz : isB zs) : Calls Tryd.prog 39 #[v, .int .u32 ep] w (DecF zs ep w) := by
  have hz := hri.length
  obtain ⟨w0, hw0⟩ : ∃ q, w.alloc (.cells (fA 0 0 (.slice none 0 0)) 64) = q := ⟨_, rfl⟩
  have HA : Hid (FO w0 w.heap.size 0 0 (.slice none 0 0)) := Lib.hid (by rw [← hw0]; exact FO.alloc w)
  have HB : Hid (Below w.heap.size w w0) := Lib.hid (by rw [← hw0]; exact balloc w _)
  have HR := Lib.hid (hri.keep HB.out)
  obtain ⟨a, cap, rfl, hlc⟩ : ∃ a cap, v = .slice a len cap ∧ len ≤ cap := by obtain ⟨a, c, e, _, h, _⟩ := hri; exact ⟨a, c, e, h⟩
  by_cases h1 : zs.length < 11
  · have hR := Lib.hid (fragD_short (ep := ep) h1)
    have h1' : (len : Int) < 11 := by omega
    clear h1 hz hri hbz hlc
    go_enter Tryd.func39, Tryd.ntmps39
    go_wp2_with (first
      | (refine wpList_store_row rfl 64 _ _ rfl w.heap.size (fA 0 0 (.slice none 0 0)) rfl rfl _ _ HA.out (fr_info _ rfl) rfl (fr_one _ _ _ _ _) ?_))
    refine bodyPost_ret_by (results_row_tmp2 rfl _ _ w.heap.size _ rfl (HA.out.row 0 0 (.slice none 0 0)).load) rfl ?_
    exact decf_none hR.out (brow HB.out (Nat.le_refl _) (Nat.le_refl _) _)
  have h1' : ¬ (len : Int) < 11 := by omega
  have hcap : (11 : Int) ≤ (cap : Int) := by omega
  obtain ⟨h11, k, e, n, s, hh, hhl, hhb, hk, he, hn, hs, gk, ge, gn, gs, k0, k1, e0, e1, n1, s1⟩ := head_nums zs hbz (by omega)
  obtain ⟨x, off, rfl, hcell⟩ := HR.out.at_ (by omega)
  obtain ⟨b4, hb4⟩ : ∃ q, zs.getD 4 0 = q := ⟨_, rfl⟩
  obtain ⟨b5, hb5⟩ : ∃ q, zs.getD 5 0 = q := ⟨_, rfl⟩
  have hb4b : 0 ≤ b4 ∧ b4 ≤ 255 := by rw [← hb4]; exact hbz _ (getD_mem (by omega))
  have hb5b : 0 ≤ b5 ∧ b5 ≤ 255 := by rw [← hb5]; exact hbz _ (getD_mem (by omega))
  have hn45 : b4 + 256 * b5 = (n : Int) := by rw [← hn, num_two, hb4, hb5]
  have hc4 := hcell 4 (by omega)
  have hc5 := hcell 5 (by omega)
  have hc6 := hcell 6 (by omega)
  rw [hb4] at hc4
  rw [hb5] at hc5
  rw [show zs.getD 6 0 = k from by rw [← num_one]; exact hk] at hc6
  have HC4 := Lib.hid hc4
  have HC5 := Lib.hid hc5
  have HC6 := Lib.hid hc6
  have HCL := Lib.hid hcell
  have HK4 : Hid (IntKind.i64.wrap b4 = b4) := Lib.hid (by rw [IntKind.wrap_i64]; omega)
  have HK5 : Hid (IntKind.i64.wrap b5 = b5) := Lib.hid (by rw [IntKind.wrap_i64]; omega)
  have HK8 : Hid (IntKind.i64.wrap (256 * b5) = 256 * b5) := Lib.hid (by rw [IntKind.wrap_i64]; omega)
  have HK9 : Hid (IntKind.i64.wrap (b4 + 256 * b5) = (n : Int)) := Lib.hid (by rw [hn45, IntKind.wrap_i64]; omega)
  have HKK : Hid (IntKind.i64.wrap k = k) := Lib.hid (by rw [IntKind.wrap_i64]; omega)
  have HKE : Hid (IntKind.u32.wrap e = e) := Lib.hid (by simp [IntKind.wrap, IntKind.signed, IntKind.bits]; omega)
  obtain ⟨p7, c7, hsl⟩ := sliced_form (some ⟨x, off, none⟩) 7 4 cap 1
  have hr7 := HR.out.cut 7 4 cap (by omega) (by omega) (Nat.le_refl _)
  rw [hsl] at hr7
  obtain ⟨x7, off7, rfl, hcell7⟩ := hr7.at_ (by omega)
  have HSL := Lib.hid hsl
  have HR7 := Lib.hid hr7
  have HGT : Hid (∀ W, RI .u8 W (.slice (some ⟨x7, off7, none⟩) 4 c7) 4 ((zs.drop 7).take 4) → Calls Tryd.prog 56 #[.slice (some ⟨x7, off7, none⟩) 4 c7] W fun e' w' => e' = .returned (.int .u64 e) ∧ Below W.heap.size W w') := Lib.hid fun W hr => by
    obtain ⟨x8, off8, e8, hcell8⟩ := hr.at_ (by omega)
    obtain ⟨rfl, rfl⟩ : x7 = x8 ∧ off7 = off8 := by simpa using e8
    refine (rgetw_some x7 off7 4 c7 ((zs.drop 7).take 4) W (bytes_of_mem ((hbz.drop 7).take 4)) (by omega) (by omega) hcell8).mono fun _ _ ⟨h, hd⟩ => ⟨?_, hd.grown⟩
    rw [h, Nat.min_eq_left (by omega), getI_take _ _ _ (Nat.le_refl _)]
    exact ret_int he
  obtain ⟨sz, hsz⟩ : ∃ sz, 11 + n = sz := ⟨_, rfl⟩
  have hszI : (11 : Int) + (n : Int) = (sz : Int) := by omega
  have hszb : (sz : Int) ≤ 65546 := by omega
  have hnb : (n : Int) ≤ 65535 := by omega
  have HLC : Hid (len ≤ cap ∧ zs.length = len ∧ isB zs) := Lib.hid ⟨hlc, hz, hbz⟩
  have HSZ : Hid ((sz : Int) = ((11 + n : Nat) : Int) ∧ sz = 11 + n ∧ n ≤ 65535) := Lib.hid ⟨by omega, hsz.symm, n1⟩
  have HN0 : Hid (az zs 11 = true → fragD zs ep = (noF, 0, 7)) := Lib.hid fun q => fragD_none h1 ((az_head zs 11 (by omega)).1 q)
  have HCS : Hid (az zs 11 = false → _) := Lib.hid fun q => fragD_cases zs ep k e n sz hbz h1 (fun h => by rw [(az_head zs 11 (by omega)).2 h] at q; exact absurd q (by decide)) hk he hn hsz
  have hl0 : (11 : Int) ≤ (len : Int) := by omega
  have hl4 : (4 : Int) < (len : Int) := by omega
  have hl5 : (5 : Int) < (len : Int) := by omega
  have hl6 : (6 : Int) < (len : Int) := by omega
  have HSS : Hid (∀ j, j < 11 → az zs (j + 1) = (az zs j && zs.getD j 0 == 0)) := Lib.hid fun j hj => az_succ zs j (by omega)
  clear h1 hz hri hbz hlc hh hhl hhb hk he hn hs gk ge gn gs hcell n1 s1 hcell7 hc4 hc5 hc6 hsl hr7 hsz hn45 hb4 hb5 hb4b hb5b
  go_enter Tryd.func39, Tryd.ntmps39
  go_wp2
  go_loop [7, 8] (fun y i => ∃ j : Nat, i = .int .i64 j ∧ j ≤ 11 ∧ y = .bool (!az zs j)) (fun _ i => 11 - (intOf i).toNat)
  case atStart => exact ⟨0, rfl, by omega, rfl⟩
  case round =>
    obtain ⟨j, rfl, hj, rfl⟩ := hrel
    by_cases hlt : j < 11
    · have hjl : (j : Int) < (len : Int) := by omega
      have hj11 : (j : Int) < 11 := by omega
      have HS1 := Lib.hid (HSS.out j hlt)
      obtain ⟨z, hz⟩ : ∃ z, zs.getD j 0 = z := ⟨_, rfl⟩
      have hcj := HCL.out j (by omega)
      rw [hz] at hcj HS1
      obtain ⟨y, hy⟩ : ∃ y, az zs j = y := ⟨_, rfl⟩
      rw [hy] at HS1 ⊢
      clear hz hy
      cases y with
      | true =>
        by_cases hz0 : z = 0
        · subst hz0
          go_wp2
          go_round
          case rel => exact ⟨j + 1, by go_num, by omega, by rw [HS1.out]; rfl⟩
          case measure => simp [intOf]; omega
        · have hz1 : (z != 0) = true := by simpa using hz0
          have hz2 : (z == 0) = false := by simpa using hz0
          go_wp2
          go_round
          case rel => exact ⟨j + 1, by go_num, by omega, by rw [HS1.out, hz2]; rfl⟩
          case measure => simp [intOf]; omega
      | false =>
        go_wp2
        go_round
        case rel => exact ⟨j + 1, by go_num, by omega, by rw [HS1.out]; rfl⟩
        case measure => simp [intOf]; omega
    · obtain rfl : j = 11 := by omega
      obtain ⟨y, hy⟩ : ∃ y, az zs 11 = y := ⟨_, rfl⟩
      rw [hy] at HN0 HCS ⊢
      clear hlt hj hy HSS HCL
      cases y with
      | true =>
        have hR := Lib.hid (HN0.out rfl)
        go_wp2_with (first
          | (refine wpList_store_row rfl 64 _ _ rfl w.heap.size (fA 0 0 (.slice none 0 0)) rfl rfl _ _ HA.out (fr_info _ rfl) rfl (fr_one _ _ _ _ _) ?_))
        refine bodyPost_ret_by (results_row_tmp2 rfl _ _ w.heap.size _ rfl (HA.out.row 0 0 (.slice none 0 0)).load) rfl ?_
        exact decf_none hR.out (brow HB.out (Nat.le_refl _) (Nat.le_refl _) _)
      | false =>
        have HC := Lib.hid (HCS.out rfl)
        clear HN0 HCS
        go_wp2_with fail
        refine wp_region_held_drew (S := (fun W' => Below w0.heap.size w0 W')) (by kernel_rfl) ((Below.refl _ _).drew) (fun hS => ?_)
        refine wpAnyH_take (i := 0) (oi := ({ dst := some 30, op := Op.move (Operand.tmp 0), type := 38, pos := "ref.go:34", after := #[], guard := none } : Oper)) (v := ?_) rfl (by kernel_rfl) (by kernel_rfl) (by kernel_rfl) (fun _ _ _ h => h) (Or.inl ⟨by rfl, ?_⟩) hS ?_
        rotate_left
        · (intro w hSw; (try dsimp only at hSw); go_simp; try with_reducible rfl)
        (try simp only [Act.put, List.setIfInBounds_toArray, List.set_cons_zero, List.set_cons_succ])
        refine wpAnyH_take (i := 1) (oi := ({ dst := some 31, op := Op.indexAddr 38 (Operand.tmp 30) (Operand.const (Value.int IntKind.i64 4)), type := 0, pos := "ref.go:34", after := #[{ on := 0, ground := Ground.data }], guard := none } : Oper)) (v := ?_) rfl (by kernel_rfl) (by kernel_rfl) (by kernel_rfl) (fun _ _ _ h => h) (Or.inl ⟨by rfl, ?_⟩) hS ?_
        rotate_left
        · (intro w hSw; (try dsimp only at hSw); go_simp; try with_reducible rfl)
        (try simp only [Act.put, List.setIfInBounds_toArray, List.set_cons_zero, List.set_cons_succ])
        refine wpAnyH_take (i := 2) (oi := ({ dst := some 32, op := Op.load 5 (Operand.tmp 31), type := 5, pos := "ref.go:34", after := #[{ on := 1, ground := Ground.data }], guard := none } : Oper)) (v := ?_) rfl (by kernel_rfl) (by kernel_rfl) (by kernel_rfl) (fun _ _ _ h => h) (Or.inl ⟨by rfl, ?_⟩) hS ?_
        rotate_left
        · (intro w hSw; (try dsimp only at hSw); have z := cell_keep hSw HC4.out; go_simp; try with_reducible rfl)
        (try simp only [Act.put, List.setIfInBounds_toArray, List.set_cons_zero, List.set_cons_succ])
        refine wpAnyH_take (i := 3) (oi := ({ dst := some 33, op := Op.convert 5 3 (Operand.tmp 32), type := 3, pos := "ref.go:34", after := #[{ on := 2, ground := Ground.data }], guard := none } : Oper)) (v := .int .i64 b4) rfl (by kernel_rfl) (by kernel_rfl) (by kernel_rfl) (fun _ _ _ h => h) (Or.inl ⟨by rfl, ?_⟩) hS ?_
        · (intro w hSw; (try dsimp only at hSw); have z := HK4.out; go_simp; (try exact z))
        (try simp only [Act.put, List.setIfInBounds_toArray, List.set_cons_zero, List.set_cons_succ])
        refine wpAnyH_take (i := 4) (oi := ({ dst := some 34, op := Op.move (Operand.tmp 0), type := 38, pos := "ref.go:34", after := #[], guard := none } : Oper)) (v := ?_) rfl (by kernel_rfl) (by kernel_rfl) (by kernel_rfl) (fun _ _ _ h => h) (Or.inl ⟨by rfl, ?_⟩) hS ?_
        rotate_left
        · (intro w hSw; (try dsimp only at hSw); go_simp; try with_reducible rfl)
        (try simp only [Act.put, List.setIfInBounds_toArray, List.set_cons_zero, List.set_cons_succ])
        refine wpAnyH_take (i := 5) (oi := ({ dst := some 35, op := Op.indexAddr 38 (Operand.tmp 34) (Operand.const (Value.int IntKind.i64 5)), type := 0, pos := "ref.go:34", after := #[{ on := 4, ground := Ground.data }], guard := none } : Oper)) (v := ?_) rfl (by kernel_rfl) (by kernel_rfl) (by kernel_rfl) (fun _ _ _ h => h) (Or.inl ⟨by rfl, ?_⟩) hS ?_
        rotate_left
        · (intro w hSw; (try dsimp only at hSw); go_simp; try with_reducible rfl)
        (try simp only [Act.put, List.setIfInBounds_toArray, List.set_cons_zero, List.set_cons_succ])
        refine wpAnyH_take (i := 6) (oi := ({ dst := some 36, op := Op.load 5 (Operand.tmp 35), type := 5, pos := "ref.go:34", after := #[{ on := 5, ground := Ground.data }], guard := none } : Oper)) (v := ?_) rfl (by kernel_rfl) (by kernel_rfl) (by kernel_rfl) (fun _ _ _ h => h) (Or.inl ⟨by rfl, ?_⟩) hS ?_
        rotate_left
        · (intro w hSw; (try dsimp only at hSw); have z := cell_keep hSw HC5.out; go_simp; try with_reducible rfl)
        (try simp only [Act.put, List.setIfInBounds_toArray, List.set_cons_zero, List.set_cons_succ])
        refine wpAnyH_take (i := 7) (oi := ({ dst := some 37, op := Op.convert 5 3 (Operand.tmp 36), type := 3, pos := "ref.go:34", after := #[{ on := 6, ground := Ground.data }], guard := none } : Oper)) (v := .int .i64 b5) rfl (by kernel_rfl) (by kernel_rfl) (by kernel_rfl) (fun _ _ _ h => h) (Or.inl ⟨by rfl, ?_⟩) hS ?_
        · (intro w hSw; (try dsimp only at hSw); have z := HK5.out; go_simp; (try exact z))
        (try simp only [Act.put, List.setIfInBounds_toArray, List.set_cons_zero, List.set_cons_succ])
        refine wpAnyH_take (i := 8) (oi := ({ dst := some 38, op := Op.binOp BinOp.mul 3 (Operand.const (Value.int IntKind.i64 256)) (Operand.tmp 37) 3, type := 3, pos := "ref.go:34", after := #[{ on := 7, ground := Ground.data }], guard := none } : Oper)) (v := .int .i64 (256 * b5)) rfl (by kernel_rfl) (by kernel_rfl) (by kernel_rfl) (fun _ _ _ h => h) (Or.inl ⟨by rfl, ?_⟩) hS ?_
        · (intro w hSw; (try dsimp only at hSw); have z := HK8.out; go_simp; (try exact z))
        (try simp only [Act.put, List.setIfInBounds_toArray, List.set_cons_zero, List.set_cons_succ])
        refine wpAnyH_take (i := 9) (oi := ({ dst := some 39, op := Op.binOp BinOp.add 3 (Operand.tmp 33) (Operand.tmp 38) 3, type := 3, pos := "ref.go:34", after := #[{ on := 3, ground := Ground.data }, { on := 8, ground := Ground.data }], guard := none } : Oper)) (v := .int .i64 (n : Int)) rfl (by kernel_rfl) (by kernel_rfl) (by kernel_rfl) (fun _ _ _ h => h) (Or.inl ⟨by rfl, ?_⟩) hS ?_
        · (intro w hSw; (try dsimp only at hSw); have z := HK9.out; go_simp; (try exact z))
        (try simp only [Act.put, List.setIfInBounds_toArray, List.set_cons_zero, List.set_cons_succ])
        refine wpAnyH_take (i := 10) (oi := ({ dst := some 9, op := Op.assign (Operand.tmp 39), type := 3, pos := "ref.go:34", after := #[{ on := 9, ground := Ground.data }, { on := 0, ground := Ground.phase }, { on := 1, ground := Ground.phase }, { on := 2, ground := Ground.phase }, { on := 3, ground := Ground.phase }, { on := 4, ground := Ground.phase }, { on := 5, ground := Ground.phase }, { on := 6, ground := Ground.phase }, { on := 7, ground := Ground.phase }, { on := 8, ground := Ground.phase }, { on := 9, ground := Ground.phase }], guard := none } : Oper)) (v := ?_) rfl (by kernel_rfl) (by kernel_rfl) (by kernel_rfl) (fun _ _ _ h => h) (Or.inl ⟨by rfl, ?_⟩) hS ?_
        rotate_left
        · (intro w hSw; (try dsimp only at hSw); go_simp; try with_reducible rfl)
        (try simp only [Act.put, List.setIfInBounds_toArray, List.set_cons_zero, List.set_cons_succ])
        refine wpAnyH_done (by kernel_rfl) ?_ _
        obtain ⟨w1, hw1⟩ : ∃ q, World.drew w0 = q := ⟨_, rfl⟩
        rw [hw1] at hS ⊢
        have HA1 := Lib.hid (HA.out.keep hS)
        have HB1 := Lib.hid (bch HB.out hS)
        have HR1 := Lib.hid (HR.out.keep hS)
        have HR7 := Lib.hid (HR7.out.keep hS)
        have HC6 := Lib.hid (cell_keep hS HC6.out)
        clear hS hw1 HC4 HC5 HK4 HK5 HK8 HK9
        go_wp2_with fail
        refine wp_region_held_drew (S := (fun W' => Below w1.heap.size w1 W')) (by kernel_rfl) ((Below.refl _ _).drew) (fun hS => ?_)
        refine wpAnyH_take (i := 0) (oi := ({ dst := some 40, op := Op.move (Operand.tmp 0), type := 38, pos := "ref.go:35", after := #[], guard := none } : Oper)) (v := ?_) rfl (by kernel_rfl) (by kernel_rfl) (by kernel_rfl) (fun _ _ _ h => h) (Or.inl ⟨by rfl, ?_⟩) hS ?_
        rotate_left
        · (intro w hSw; (try dsimp only at hSw); go_simp; try with_reducible rfl)
        (try simp only [Act.put, List.setIfInBounds_toArray, List.set_cons_zero, List.set_cons_succ])
        refine wpAnyH_take (i := 1) (oi := ({ dst := some 41, op := Op.indexAddr 38 (Operand.tmp 40) (Operand.const (Value.int IntKind.i64 6)), type := 0, pos := "ref.go:35", after := #[{ on := 0, ground := Ground.data }], guard := none } : Oper)) (v := ?_) rfl (by kernel_rfl) (by kernel_rfl) (by kernel_rfl) (fun _ _ _ h => h) (Or.inl ⟨by rfl, ?_⟩) hS ?_
        rotate_left
        · (intro w hSw; (try dsimp only at hSw); go_simp; try with_reducible rfl)
        (try simp only [Act.put, List.setIfInBounds_toArray, List.set_cons_zero, List.set_cons_succ])
        refine wpAnyH_take (i := 2) (oi := ({ dst := some 42, op := Op.load 5 (Operand.tmp 41), type := 5, pos := "ref.go:35", after := #[{ on := 1, ground := Ground.data }], guard := none } : Oper)) (v := ?_) rfl (by kernel_rfl) (by kernel_rfl) (by kernel_rfl) (fun _ _ _ h => h) (Or.inl ⟨by rfl, ?_⟩) hS ?_
        rotate_left
        · (intro w hSw; (try dsimp only at hSw); have z := cell_keep hSw HC6.out; go_simp; try with_reducible rfl)
        (try simp only [Act.put, List.setIfInBounds_toArray, List.set_cons_zero, List.set_cons_succ])
        refine wpAnyH_take (i := 3) (oi := ({ dst := some 43, op := Op.convert 5 3 (Operand.tmp 42), type := 3, pos := "ref.go:35", after := #[{ on := 2, ground := Ground.data }], guard := none } : Oper)) (v := .int .i64 k) rfl (by kernel_rfl) (by kernel_rfl) (by kernel_rfl) (fun _ _ _ h => h) (Or.inl ⟨by rfl, ?_⟩) hS ?_
        · (intro w hSw; (try dsimp only at hSw); have z := HKK.out; go_simp; (try exact z))
        (try simp only [Act.put, List.setIfInBounds_toArray, List.set_cons_zero, List.set_cons_succ])
        refine wpAnyH_take (i := 4) (oi := ({ dst := some 44, op := Op.move (Operand.tmp 0), type := 38, pos := "ref.go:35", after := #[], guard := none } : Oper)) (v := ?_) rfl (by kernel_rfl) (by kernel_rfl) (by kernel_rfl) (fun _ _ _ h => h) (Or.inl ⟨by rfl, ?_⟩) hS ?_
        rotate_left
        · (intro w hSw; (try dsimp only at hSw); go_simp; try with_reducible rfl)
        (try simp only [Act.put, List.setIfInBounds_toArray, List.set_cons_zero, List.set_cons_succ])
        refine wpAnyH_take (i := 5) (oi := ({ dst := some 45, op := Op.slice 38 (Operand.tmp 44) (some (Operand.const (Value.int IntKind.i64 7))) (some (Operand.const (Value.int IntKind.i64 11))) none, type := 38, pos := "ref.go:35", after := #[{ on := 4, ground := Ground.data }], guard := none } : Oper)) (v := .slice (some ⟨x7, off7, none⟩) 4 c7) rfl (by kernel_rfl) (by kernel_rfl) (by kernel_rfl) (fun _ _ _ h => h) (Or.inl ⟨by rfl, ?_⟩) hS ?_
        · (intro w hSw; (try dsimp only at hSw); exact (exec_cut_lh (.tmp 44) (.const (.int .i64 7)) (.const (.int .i64 11)) rfl _ len cap 7 4 rfl rfl rfl (by have := HLC.out; omega)).trans (by rw [HSL.out]))
        (try simp only [Act.put, List.setIfInBounds_toArray, List.set_cons_zero, List.set_cons_succ])
        refine rg_both 6 9 ({ dst := some 46, op := Op.call { callee := Callee.value (Operand.func 56), args := #[Operand.tmp 45], argTypes := #[38] }, type := 22, pos := "ref.go:35", after := #[{ on := 5, ground := Ground.data }], guard := none } : Oper) ({ dst := some 10, op := Op.alloc 64, type := 0, pos := "ref.go:35", after := #[], guard := none } : Oper) (by kernel_rfl) rfl rfl (fun K hK => ?_) (fun K hK => ?_)
        · skip
          go_simp
          (go_at_call 56; (with_reducible refine (HGT.out _ (HR7.out.keep hS)).mono ?_); rintro r w3 ⟨rfl, hb3⟩; (try clear hN); have hN := hS.trans (hb3.mono hS.size))
          refine hK.out _ _ ?_ (fun hS1 => ?_)
          · (first | exact hN | exact hS)
          clear hK K hS; have hS := hS1; clear hS1
          (try simp only [Act.put, List.setIfInBounds_toArray, List.set_cons_zero, List.set_cons_succ])
          refine wpAnyH_take (i := 7) (oi := ({ dst := some 47, op := Op.convert 22 53 (Operand.tmp 46), type := 53, pos := "ref.go:35", after := #[{ on := 6, ground := Ground.data }], guard := none } : Oper)) (v := .int .u32 e) rfl (by kernel_rfl) (by kernel_rfl) (by kernel_rfl) (fun _ _ _ h => h) (Or.inl ⟨by rfl, ?_⟩) hS ?_
          · (intro w hSw; (try dsimp only at hSw); have z := HKE.out; go_simp; (try exact z))
          (try simp only [Act.put, List.setIfInBounds_toArray, List.set_cons_zero, List.set_cons_succ])
          refine wpAnyH_take (i := 8) (oi := ({ dst := some 48, op := Op.build 64 #[(0, Operand.tmp 43), (1, Operand.tmp 47)], type := 64, pos := "ref.go:35", after := #[{ on := 3, ground := Ground.data }, { on := 7, ground := Ground.data }], guard := none } : Oper)) (v := .agg (fA k e (.slice none 0 0))) rfl (by kernel_rfl) (by kernel_rfl) (by kernel_rfl) (fun _ _ _ h => h) (Or.inl ⟨by rfl, ?_⟩) hS ?_
          · (intro w hSw; (try dsimp only at hSw); go_simp; try with_reducible rfl)
          (try simp only [Act.put, List.setIfInBounds_toArray, List.set_cons_zero, List.set_cons_succ])
          refine rg_one 9 ({ dst := some 10, op := Op.alloc 64, type := 0, pos := "ref.go:35", after := #[], guard := none } : Oper) (by kernel_rfl) rfl (fun K hK => ?_)
          go_simp
          obtain ⟨w5, hw5⟩ : ∃ q, (World.alloc w3 (.cells (fA 0 0 (.slice none 0 0)) 64)) = q := ⟨_, rfl⟩; have hb5 : Below (World.heap w3).size w3 w5 := (by rw [← hw5]; exact balloc _ _); have hg5 : FO w5 (World.heap w3).size 0 0 (.slice none 0 0) := (by rw [← hw5]; exact FO.alloc w3); have HG := Lib.hid hg5; clear hg5; rw [hw5]; have HGE : Hid (w1.heap.size ≤ (World.heap w3).size) := Lib.hid (hS.size); (try clear hN); have hN := hS.trans (hb5.mono hS.size)
          refine hK.out _ _ ?_ (fun hS1 => ?_)
          · (first | exact hN | exact hS)
          clear hK K hS; have hS := hS1; clear hS1
          (try simp only [Act.put, List.setIfInBounds_toArray, List.set_cons_zero, List.set_cons_succ])
          refine rg_one 10 ({ dst := none, op := Op.store 64 (Operand.tmp 10) (Operand.tmp 48), type := 0, pos := "ref.go:35", after := #[{ on := 9, ground := Ground.data }, { on := 8, ground := Ground.data }, { on := 6, ground := Ground.chain }, { on := 0, ground := Ground.phase }, { on := 1, ground := Ground.phase }, { on := 2, ground := Ground.phase }, { on := 3, ground := Ground.phase }, { on := 4, ground := Ground.phase }, { on := 5, ground := Ground.phase }, { on := 6, ground := Ground.phase }, { on := 7, ground := Ground.phase }, { on := 8, ground := Ground.phase }, { on := 9, ground := Ground.phase }], guard := none } : Oper) (by kernel_rfl) rfl (fun K hK => ?_)
          rw [if_pos (by rfl)]; refine wp_store_row 64 (.tmp 10) (.tmp 48) rfl (World.heap w3).size (fA k e (.slice none 0 0)) rfl rfl _ _ HG.out (fr_info _ rfl) rfl (fr_one _ _ _ _ _) ?_; have hgo := HG.out.row k e (.slice none 0 0); have hbo := brow hS (b := (World.heap w3).size) HGE.out (Nat.le_refl _) (fA k e (.slice none 0 0)); obtain ⟨w6, hw6⟩ : ∃ q, World.setRow w5 (World.heap w3).size (fA k e (.slice none 0 0)) = q := ⟨_, rfl⟩; rw [hw6] at hgo hbo; rw [hw6]; obtain ⟨g, hgn⟩ : ∃ q, (World.heap w3).size = q := ⟨_, rfl⟩; have hge := Nat.le_trans HGE.out (Nat.le_of_eq hgn); rw [hgn] at hgo; rw [hgn]; have HG6 := Lib.hid hgo; have HGL := Lib.hid hge; clear hgo hge; (try clear hN); have hN := hbo; clear hbo
          refine hK.out _ _ ?_ (fun hS1 => ?_)
          · (first | exact hN | exact hS)
          clear hK K hS; have hS := hS1; clear hS1
          (try simp only [Act.put])
          refine wpAnyH_done (by kernel_rfl) ?_ _
          have HB6 := Lib.hid (bch HB1.out hS)
          have HA6 := Lib.hid (HA1.out.keep hS)
          have HR6 := Lib.hid (HR1.out.keep hS)
          obtain ⟨c0, c1, c2⟩ := HG6.out.cells
          have HLT : Hid (w.heap.size < g) := Lib.hid (Nat.lt_of_lt_of_le HA1.out.lt HGL.out)
          have HBW := Lib.hid hS
          clear hS hN HG HGE
          rcases HC.out with ⟨q1, hq⟩ | ⟨q1, q2, hq⟩ | ⟨q1, q2, q3, hq⟩ | ⟨q1, q2, q3, q4, hq⟩ | ⟨q1, q2, q3, q4, q5, hq⟩ | ⟨q1, q2, q3, q4, q5, q6, hq⟩ | ⟨q1, q2, q3, q4, q5, q6, hq⟩
          · have hR := Lib.hid hq
            clear hq HC
            go_wp2_with (first
              | (refine wpList_store_row rfl 64 _ _ rfl w.heap.size (fA 0 0 (.slice none 0 0)) rfl rfl _ _ HA6.out (fr_info _ rfl) rfl (fr_one _ _ _ _ _) ?_))
            refine bodyPost_ret_by (results_row_tmp2 rfl _ _ w.heap.size _ rfl (HA6.out.row 0 0 (.slice none 0 0)).load) rfl ?_
            exact decf_none hR.out (brow HB6.out (Nat.le_refl _) (Nat.le_refl _) _)
          · have hR := Lib.hid hq
            clear hq HC
            go_wp2_with (first
              | (refine wpList_store_row rfl 64 _ _ rfl w.heap.size (fA 0 0 (.slice none 0 0)) rfl rfl _ _ HA6.out (fr_info _ rfl) rfl (fr_one _ _ _ _ _) ?_))
            refine bodyPost_ret_by (results_row_tmp2 rfl _ _ w.heap.size _ rfl (HA6.out.row 0 0 (.slice none 0 0)).load) rfl ?_
            exact decf_none hR.out (brow HB6.out (Nat.le_refl _) (Nat.le_refl _) _)
          · have hR := Lib.hid hq
            clear hq HC
            go_wp2_with (first
              | (refine wpList_store_row rfl 64 _ _ rfl w.heap.size (fA 0 0 (.slice none 0 0)) rfl rfl _ _ HA6.out (fr_info _ rfl) rfl (fr_one _ _ _ _ _) ?_))
            refine bodyPost_ret_by (results_row_tmp2 rfl _ _ w.heap.size _ rfl (HA6.out.row 0 0 (.slice none 0 0)).load) rfl ?_
            exact decf_none hR.out (brow HB6.out (Nat.le_refl _) (Nat.le_refl _) _)
          · have hR := Lib.hid hq
            have q5 : (e != ep) = true := by simpa using q4
            clear hq HC q4
            go_wp2_with (first
              | (refine wpList_store_row rfl 64 _ _ rfl w.heap.size (fA 0 0 (.slice none 0 0)) rfl rfl _ _ HA6.out (fr_info _ rfl) rfl (fr_one _ _ _ _ _) ?_))
            refine bodyPost_ret_by (results_row_tmp2 rfl _ _ w.heap.size _ rfl (HA6.out.row 0 0 (.slice none 0 0)).load) rfl ?_
            exact decf_none hR.out (brow HB6.out (Nat.le_refl _) (Nat.le_refl _) _)
          · have hR := Lib.hid hq
            subst q4
            have q6 : (len : Int) < (sz : Int) := by have := HLC.out.2.1; omega
            clear hq HC q5
            go_wp2_with (first
              | (refine wpList_store_row rfl 64 _ _ rfl w.heap.size (fA 0 0 (.slice none 0 0)) rfl rfl _ _ HA6.out (fr_info _ rfl) rfl (fr_one _ _ _ _ _) ?_))
            refine bodyPost_ret_by (results_row_tmp2 rfl _ _ w.heap.size _ rfl (HA6.out.row 0 0 (.slice none 0 0)).load) rfl ?_
            exact decf_none hR.out (brow HB6.out (Nat.le_refl _) (Nat.le_refl _) _)
          · have hR := Lib.hid hq
            subst q4
            have q7 : ¬ (len : Int) < (sz : Int) := by have := HLC.out.2.1; omega
            have HSZ : Hid ((sz : Int) = ((11 + n : Nat) : Int) ∧ sz = 11 + n ∧ n ≤ 197 ∧ sz ≤ len) := Lib.hid ⟨HSZ.out.1, HSZ.out.2.1, by omega, by have := HLC.out.2.1; omega⟩
            have HW6 : Hid (IntKind.i64.wrap (sz : Int) = (sz : Int)) := Lib.hid (by rw [IntKind.wrap_i64]; omega)
            have HBN : Hid (isB ((zs.drop 11).take n)) := Lib.hid ((HLC.out.2.2.drop 11).take n)
            have HBY : Hid (∀ v W, RI .u8 W v n ((zs.drop 11).take n) → Calls Tryd.prog 45 #[.agg (fA k e v)] W fun r w' => ∃ a c, r = .returned (.slice a sz c) ∧ RI .u8 w' (.slice a sz c) sz (fragB k e ((zs.drop 11).take n)) ∧ Below W.heap.size W w') := Lib.hid fun v W hr =>
              (rfbytes_any k e v n _ W (decide_eq_true ⟨q2, q3, HSZ.out.2.2.1⟩) ⟨e0, e1⟩ hr HBN.out).mono fun _ _ ⟨a, c, h, ho, hb⟩ => ⟨a, c, by rw [h, HSZ.out.2.1], by rw [HSZ.out.2.1]; exact RI.own ho, hb⟩
            obtain ⟨sB, hsB⟩ : ∃ q, strOfNums (fragB k e ((zs.drop 11).take n)) = q := ⟨_, rfl⟩
            have HSB := Lib.hid hsB
            obtain ⟨pz, cz, hslz⟩ : ∃ pz cz, sliced (some ⟨x, off, none⟩) 0 sz cap 1 = .slice pz sz cz := by have := sliced_form (some ⟨x, off, none⟩) 0 sz cap 1; rwa [Nat.zero_add] at this
            have HSLZ := Lib.hid hslz
            have hrz := HR1.out.cut 0 sz cap (by have := HSZ.out; omega) (by have := HSZ.out; have := HLC.out.1; omega) (Nat.le_refl _)
            rw [Nat.zero_add, hslz, List.drop_zero] at hrz
            have HRZ := Lib.hid hrz
            obtain ⟨sZ, hsZ⟩ : ∃ q, strOfNums (zs.take sz) = q := ⟨_, rfl⟩
            have HZZ : Hid (strOfNums (zs.take sz) = sZ) := Lib.hid hsZ
            have hne := str_ne (show ¬ sB = sZ from fun h => q6 (strOfNums_inj (fragB_bytes (by omega) e HBN.out) (HLC.out.2.2.take sz) (by rw [hsB, hsZ, h])))
            clear hq HC q5 q6 hsB hsZ hslz hrz
            go_wp2_with (first
              | (refine wpl_cut_lh rfl (.tmp 75) (.const (.int .i64 11)) (.tmp 77) rfl _ len 11 n _ rfl rfl (congrArg (Value.int .i64) HSZ.out.1) (HR6.out.keep (balloc _ _)) (by have := HSZ.out; omega) ?_; intro p3 c3 hr3; have HR3 := Lib.hid hr3; clear hr3)
              | (at_builtin; refine wpl_appn rfl (.tmp 74) (.tmp 78) 38 rfl 5 .u8 1 Tryd.underlying38 Tryd.info_u8 w6.heap.size _ 0 [] rfl (own_empty rfl (Nat.le_refl _)) _ n ((zs.drop 11).take n) rfl HR3 (by have := HSZ.out; omega) (by have := HSZ.out; omega) w6.heap.size w6 (Lib.hid (balloc _ _)) (Nat.le_refl _) (by simp) ?_; intro v7 w7 HO7 HB7; rw [Nat.zero_add, List.nil_append] at HO7; obtain ⟨p7, c7, rfl⟩ := own_form HO7.out; have HGK := HG6.out.keep HB7.out; have hf7 := HGK.frozen 2; have hz7 := HGK.cells.2.2; have HG8 := Lib.hid (HGK.set2 (.slice p7 n c7)); have HA8 := Lib.hid ((HA6.out.keep HB7.out).set_apart (b' := g) (Nat.ne_of_lt HLT.out) 2 (.slice p7 n c7)); have HO8 := Lib.hid (HGK.set_own 2 (.slice p7 n c7) HO7.out); have HB8 := Lib.hid (bset (bch HB6.out HB7.out) (b := g) (Nat.le_of_lt HLT.out) (Nat.le_refl _) 2 (.slice p7 n c7)); have HRZ8 := Lib.hid (HRZ.out.keep (bset (b := g) (bch HBW.out HB7.out) HGL.out (Nat.le_refl _) 2 (.slice p7 n c7))); clear HGK))
            obtain ⟨w8, hw8⟩ : ∃ q, w7.setCell ⟨g, 2, none⟩ (.slice p7 n c7) = q := ⟨_, rfl⟩
            rw [hw8] at HG8 HA8 HO8 HB8 HRZ8 ⊢
            clear hf7 hz7 hw8 HO7 HB7 HR3
            refine wp_region_held_drew (S := (fun W' => Below w8.heap.size w8 W')) (by kernel_rfl) ((Below.refl _ _).drew) (fun hS => ?_)
            refine wpAnyH_take (i := 0) (oi := ({ dst := some 81, op := Op.load 64 (Operand.tmp 10), type := 64, pos := "ref.go:43", after := #[], guard := none } : Oper)) (v := .agg (fA k e (.slice p7 n c7))) rfl (by kernel_rfl) (by kernel_rfl) (by kernel_rfl) (fun _ _ _ h => h) (Or.inl ⟨by rfl, ?_⟩) hS ?_
            · (intro w hSw; (try dsimp only at hSw); exact exec_load_fr (.tmp 10) rfl rfl (HG8.out.keep hSw))
            (try simp only [Act.put, List.setIfInBounds_toArray, List.set_cons_zero, List.set_cons_succ])
            refine wpAnyH_take (i := 3) (oi := ({ dst := some 84, op := Op.move (Operand.tmp 0), type := 38, pos := "ref.go:43", after := #[], guard := none } : Oper)) (v := ?_) rfl (by kernel_rfl) (by kernel_rfl) (by kernel_rfl) (fun _ _ _ h => h) (Or.inl ⟨by rfl, ?_⟩) hS ?_
            rotate_left
            · (intro w hSw; (try dsimp only at hSw); go_simp; try with_reducible rfl)
            (try simp only [Act.put, List.setIfInBounds_toArray, List.set_cons_zero, List.set_cons_succ])
            refine wpAnyH_take (i := 4) (oi := ({ dst := some 85, op := Op.move (Operand.tmp 9), type := 3, pos := "ref.go:43", after := #[], guard := none } : Oper)) (v := ?_) rfl (by kernel_rfl) (by kernel_rfl) (by kernel_rfl) (fun _ _ _ h => h) (Or.inl ⟨by rfl, ?_⟩) hS ?_
            rotate_left
            · (intro w hSw; (try dsimp only at hSw); go_simp; try with_reducible rfl)
            (try simp only [Act.put, List.setIfInBounds_toArray, List.set_cons_zero, List.set_cons_succ])
            refine wpAnyH_take (i := 5) (oi := ({ dst := some 86, op := Op.binOp BinOp.add 3 (Operand.const (Value.int IntKind.i64 11)) (Operand.tmp 85) 3, type := 3, pos := "ref.go:43", after := #[{ on := 4, ground := Ground.data }], guard := none } : Oper)) (v := .int .i64 (sz : Int)) rfl (by kernel_rfl) (by kernel_rfl) (by kernel_rfl) (fun _ _ _ h => h) (Or.inl ⟨by rfl, ?_⟩) hS ?_
            · (intro w hSw; (try dsimp only at hSw); have z := HW6.out; go_simp; (try exact z))
            (try simp only [Act.put, List.setIfInBounds_toArray, List.set_cons_zero, List.set_cons_succ])
            refine wpAnyH_take (i := 6) (oi := ({ dst := some 87, op := Op.slice 38 (Operand.tmp 84) none (some (Operand.tmp 86)) none, type := 38, pos := "ref.go:43", after := #[{ on := 3, ground := Ground.data }, { on := 5, ground := Ground.data }], guard := none } : Oper)) (v := .slice pz sz cz) rfl (by kernel_rfl) (by kernel_rfl) (by kernel_rfl) (fun _ _ _ h => h) (Or.inl ⟨by rfl, ?_⟩) hS ?_
            · (intro w hSw; (try dsimp only at hSw); exact (exec_cut_h (.tmp 84) (.tmp 86) rfl _ len cap sz rfl rfl (by have := HSZ.out; have := HLC.out.1; omega)).trans (by rw [HSLZ.out]))
            (try simp only [Act.put, List.setIfInBounds_toArray, List.set_cons_zero, List.set_cons_succ])
            refine wpAnyH_take (i := 7) (oi := ({ dst := some 88, op := Op.convert 38 9 (Operand.tmp 87), type := 9, pos := "ref.go:43", after := #[{ on := 6, ground := Ground.data }], guard := none } : Oper)) (v := ?_) rfl (by kernel_rfl) (by kernel_rfl) (by kernel_rfl) (fun _ _ _ h => h) (Or.inl ⟨by rfl, ?_⟩) hS ?_
            rotate_left
            · (intro w hSw; (try dsimp only at hSw); have z := conv_ri (RI.keep hSw HRZ8.out); rw [HZZ.out] at z; go_simp; try with_reducible rfl)
            (try simp only [Act.put, List.setIfInBounds_toArray, List.set_cons_zero, List.set_cons_succ])
            refine rg_one 1 ({ dst := some 82, op := Op.call { callee := Callee.value (Operand.func 45), args := #[Operand.tmp 81], argTypes := #[64] }, type := 38, pos := "ref.go:43", after := #[{ on := 0, ground := Ground.data }], guard := none } : Oper) (by kernel_rfl) rfl (fun K hK => ?_)
            go_simp
            (go_at_call 45; (with_reducible refine (HBY.out _ _ (RI.keep hS (RI.own HO8.out))).mono ?_); rintro r w9 ⟨a9, c9, rfl, hr9, hb9⟩; have HR9 := Lib.hid hr9; have hN := hS.trans (hb9.mono hS.size))
            refine hK.out _ _ ?_ (fun hS1 => ?_)
            · (first | exact hN | exact hS)
            clear hK K hS; have hS := hS1; clear hS1
            (try simp only [Act.put, List.setIfInBounds_toArray, List.set_cons_zero, List.set_cons_succ])
            (apply rg_strong (S' := fun w' => (convert 38 9 (.slice a9 sz c9)).run Tryd.prog w' = .ok (.string sB) w' ∧ Below w8.heap.size w8 w') (fun _ h => h.2); have hS2 := hS; clear hS; (try clear hN); have hS := And.intro (show (convert 38 9 (.slice a9 sz c9)).run Tryd.prog w9 = .ok (.string sB) w9 from by have := conv_ri HR9.out; rwa [HSB.out] at this) hS2)
            refine wpAnyH_take (i := 2) (oi := ({ dst := some 83, op := Op.convert 38 9 (Operand.tmp 82), type := 9, pos := "ref.go:43", after := #[{ on := 1, ground := Ground.data }], guard := none } : Oper)) (v := ?_) rfl (by kernel_rfl) (by kernel_rfl) (by kernel_rfl) (fun _ _ _ h => h) (Or.inl ⟨by rfl, ?_⟩) hS ?_
            rotate_left
            · (intro w hSw; (try dsimp only at hSw); have z := hSw.1; go_simp; try with_reducible rfl)
            (try simp only [Act.put, List.setIfInBounds_toArray, List.set_cons_zero, List.set_cons_succ])
            refine wpAnyH_take (i := 8) (oi := ({ dst := some 89, op := Op.binOp BinOp.neq 9 (Operand.tmp 83) (Operand.tmp 88) 9, type := 4, pos := "ref.go:43", after := #[{ on := 2, ground := Ground.data }, { on := 7, ground := Ground.data }], guard := none } : Oper)) (v := .bool true) rfl (by kernel_rfl) (by kernel_rfl) (by kernel_rfl) (fun _ _ _ h => h) (Or.inl ⟨by rfl, ?_⟩) hS ?_
            · (intro w hSw; (try dsimp only at hSw); go_simp; try with_reducible rfl)
            (try simp only [Act.put, List.setIfInBounds_toArray, List.set_cons_zero, List.set_cons_succ])
            refine wpAnyH_done (by kernel_rfl) ?_ _
            have HB9 := Lib.hid (bch HB8.out hS.2)
            have HA9 := Lib.hid (HA8.out.keep hS.2)
            have HG9 := Lib.hid (HG8.out.keep hS.2)
            have HO9 := Lib.hid (own_keep HO8.out hS.2)
            clear hS
            go_wp2_with (first
              | (refine wpList_store_row rfl 64 _ _ rfl w.heap.size (fA 0 0 (.slice none 0 0)) rfl rfl _ _ HA9.out (fr_info _ rfl) rfl (fr_one _ _ _ _ _) ?_))
            refine bodyPost_ret_by (results_row_tmp2 rfl _ _ w.heap.size _ rfl (HA9.out.row 0 0 (.slice none 0 0)).load) rfl ?_
            exact decf_none hR.out (brow HB9.out (Nat.le_refl _) (Nat.le_refl _) _)
          · have hR := Lib.hid hq
            subst q4
            have q7 : ¬ (len : Int) < (sz : Int) := by have := HLC.out.2.1; omega
            have HSZ : Hid ((sz : Int) = ((11 + n : Nat) : Int) ∧ sz = 11 + n ∧ n ≤ 197 ∧ sz ≤ len) := Lib.hid ⟨HSZ.out.1, HSZ.out.2.1, by omega, by have := HLC.out.2.1; omega⟩
            have HW6 : Hid (IntKind.i64.wrap (sz : Int) = (sz : Int)) := Lib.hid (by rw [IntKind.wrap_i64]; omega)
            have HBN : Hid (isB ((zs.drop 11).take n)) := Lib.hid ((HLC.out.2.2.drop 11).take n)
            have HBY : Hid (∀ v W, RI .u8 W v n ((zs.drop 11).take n) → Calls Tryd.prog 45 #[.agg (fA k e v)] W fun r w' => ∃ a c, r = .returned (.slice a sz c) ∧ RI .u8 w' (.slice a sz c) sz (fragB k e ((zs.drop 11).take n)) ∧ Below W.heap.size W w') := Lib.hid fun v W hr =>
              (rfbytes_any k e v n _ W (decide_eq_true ⟨q2, q3, HSZ.out.2.2.1⟩) ⟨e0, e1⟩ hr HBN.out).mono fun _ _ ⟨a, c, h, ho, hb⟩ => ⟨a, c, by rw [h, HSZ.out.2.1], by rw [HSZ.out.2.1]; exact RI.own ho, hb⟩
            obtain ⟨sB, hsB⟩ : ∃ q, strOfNums (fragB k e ((zs.drop 11).take n)) = q := ⟨_, rfl⟩
            have HSB := Lib.hid hsB
            obtain ⟨pz, cz, hslz⟩ : ∃ pz cz, sliced (some ⟨x, off, none⟩) 0 sz cap 1 = .slice pz sz cz := by have := sliced_form (some ⟨x, off, none⟩) 0 sz cap 1; rwa [Nat.zero_add] at this
            have HSLZ := Lib.hid hslz
            have hrz := HR1.out.cut 0 sz cap (by have := HSZ.out; omega) (by have := HSZ.out; have := HLC.out.1; omega) (Nat.le_refl _)
            rw [Nat.zero_add, hslz, List.drop_zero] at hrz
            have HRZ := Lib.hid hrz
            rw [← q6] at HRZ
            have HZZ : Hid (strOfNums (fragB k e ((zs.drop 11).take n)) = sB) := Lib.hid hsB
            clear hq HC q5 q6 hsB hslz hrz
            go_wp2_with (first
              | (refine wpl_cut_lh rfl (.tmp 75) (.const (.int .i64 11)) (.tmp 77) rfl _ len 11 n _ rfl rfl (congrArg (Value.int .i64) HSZ.out.1) (HR6.out.keep (balloc _ _)) (by have := HSZ.out; omega) ?_; intro p3 c3 hr3; have HR3 := Lib.hid hr3; clear hr3)
              | (at_builtin; refine wpl_appn rfl (.tmp 74) (.tmp 78) 38 rfl 5 .u8 1 Tryd.underlying38 Tryd.info_u8 w6.heap.size _ 0 [] rfl (own_empty rfl (Nat.le_refl _)) _ n ((zs.drop 11).take n) rfl HR3 (by have := HSZ.out; omega) (by have := HSZ.out; omega) w6.heap.size w6 (Lib.hid (balloc _ _)) (Nat.le_refl _) (by simp) ?_; intro v7 w7 HO7 HB7; rw [Nat.zero_add, List.nil_append] at HO7; obtain ⟨p7, c7, rfl⟩ := own_form HO7.out; have HGK := HG6.out.keep HB7.out; have hf7 := HGK.frozen 2; have hz7 := HGK.cells.2.2; have HG8 := Lib.hid (HGK.set2 (.slice p7 n c7)); have HA8 := Lib.hid ((HA6.out.keep HB7.out).set_apart (b' := g) (Nat.ne_of_lt HLT.out) 2 (.slice p7 n c7)); have HO8 := Lib.hid (HGK.set_own 2 (.slice p7 n c7) HO7.out); have HB8 := Lib.hid (bset (bch HB6.out HB7.out) (b := g) (Nat.le_of_lt HLT.out) (Nat.le_refl _) 2 (.slice p7 n c7)); have HRZ8 := Lib.hid (HRZ.out.keep (bset (b := g) (bch HBW.out HB7.out) HGL.out (Nat.le_refl _) 2 (.slice p7 n c7))); clear HGK))
            obtain ⟨w8, hw8⟩ : ∃ q, w7.setCell ⟨g, 2, none⟩ (.slice p7 n c7) = q := ⟨_, rfl⟩
            rw [hw8] at HG8 HA8 HO8 HB8 HRZ8 ⊢
            clear hf7 hz7 hw8 HO7 HB7 HR3
            refine wp_region_held_drew (S := (fun W' => Below w8.heap.size w8 W')) (by kernel_rfl) ((Below.refl _ _).drew) (fun hS => ?_)
            refine wpAnyH_take (i := 0) (oi := ({ dst := some 81, op := Op.load 64 (Operand.tmp 10), type := 64, pos := "ref.go:43", after := #[], guard := none } : Oper)) (v := .agg (fA k e (.slice p7 n c7))) rfl (by kernel_rfl) (by kernel_rfl) (by kernel_rfl) (fun _ _ _ h => h) (Or.inl ⟨by rfl, ?_⟩) hS ?_
            · (intro w hSw; (try dsimp only at hSw); exact exec_load_fr (.tmp 10) rfl rfl (HG8.out.keep hSw))
            (try simp only [Act.put, List.setIfInBounds_toArray, List.set_cons_zero, List.set_cons_succ])
            refine wpAnyH_take (i := 3) (oi := ({ dst := some 84, op := Op.move (Operand.tmp 0), type := 38, pos := "ref.go:43", after := #[], guard := none } : Oper)) (v := ?_) rfl (by kernel_rfl) (by kernel_rfl) (by kernel_rfl) (fun _ _ _ h => h) (Or.inl ⟨by rfl, ?_⟩) hS ?_
            rotate_left
            · (intro w hSw; (try dsimp only at hSw); go_simp; try with_reducible rfl)
            (try simp only [Act.put, List.setIfInBounds_toArray, List.set_cons_zero, List.set_cons_succ])
            refine wpAnyH_take (i := 4) (oi := ({ dst := some 85, op := Op.move (Operand.tmp 9), type := 3, pos := "ref.go:43", after := #[], guard := none } : Oper)) (v := ?_) rfl (by kernel_rfl) (by kernel_rfl) (by kernel_rfl) (fun _ _ _ h => h) (Or.inl ⟨by rfl, ?_⟩) hS ?_
            rotate_left
            · (intro w hSw; (try dsimp only at hSw); go_simp; try with_reducible rfl)
            (try simp only [Act.put, List.setIfInBounds_toArray, List.set_cons_zero, List.set_cons_succ])
            refine wpAnyH_take (i := 5) (oi := ({ dst := some 86, op := Op.binOp BinOp.add 3 (Operand.const (Value.int IntKind.i64 11)) (Operand.tmp 85) 3, type := 3, pos := "ref.go:43", after := #[{ on := 4, ground := Ground.data }], guard := none } : Oper)) (v := .int .i64 (sz : Int)) rfl (by kernel_rfl) (by kernel_rfl) (by kernel_rfl) (fun _ _ _ h => h) (Or.inl ⟨by rfl, ?_⟩) hS ?_
            · (intro w hSw; (try dsimp only at hSw); have z := HW6.out; go_simp; (try exact z))
            (try simp only [Act.put, List.setIfInBounds_toArray, List.set_cons_zero, List.set_cons_succ])
            refine wpAnyH_take (i := 6) (oi := ({ dst := some 87, op := Op.slice 38 (Operand.tmp 84) none (some (Operand.tmp 86)) none, type := 38, pos := "ref.go:43", after := #[{ on := 3, ground := Ground.data }, { on := 5, ground := Ground.data }], guard := none } : Oper)) (v := .slice pz sz cz) rfl (by kernel_rfl) (by kernel_rfl) (by kernel_rfl) (fun _ _ _ h => h) (Or.inl ⟨by rfl, ?_⟩) hS ?_
            · (intro w hSw; (try dsimp only at hSw); exact (exec_cut_h (.tmp 84) (.tmp 86) rfl _ len cap sz rfl rfl (by have := HSZ.out; have := HLC.out.1; omega)).trans (by rw [HSLZ.out]))
            (try simp only [Act.put, List.setIfInBounds_toArray, List.set_cons_zero, List.set_cons_succ])
            refine wpAnyH_take (i := 7) (oi := ({ dst := some 88, op := Op.convert 38 9 (Operand.tmp 87), type := 9, pos := "ref.go:43", after := #[{ on := 6, ground := Ground.data }], guard := none } : Oper)) (v := ?_) rfl (by kernel_rfl) (by kernel_rfl) (by kernel_rfl) (fun _ _ _ h => h) (Or.inl ⟨by rfl, ?_⟩) hS ?_
            rotate_left
            · (intro w hSw; (try dsimp only at hSw); have z := conv_ri (RI.keep hSw HRZ8.out); rw [HZZ.out] at z; go_simp; try with_reducible rfl)
            (try simp only [Act.put, List.setIfInBounds_toArray, List.set_cons_zero, List.set_cons_succ])
            refine rg_one 1 ({ dst := some 82, op := Op.call { callee := Callee.value (Operand.func 45), args := #[Operand.tmp 81], argTypes := #[64] }, type := 38, pos := "ref.go:43", after := #[{ on := 0, ground := Ground.data }], guard := none } : Oper) (by kernel_rfl) rfl (fun K hK => ?_)
            go_simp
            (go_at_call 45; (with_reducible refine (HBY.out _ _ (RI.keep hS (RI.own HO8.out))).mono ?_); rintro r w9 ⟨a9, c9, rfl, hr9, hb9⟩; have HR9 := Lib.hid hr9; have hN := hS.trans (hb9.mono hS.size))
            refine hK.out _ _ ?_ (fun hS1 => ?_)
            · (first | exact hN | exact hS)
            clear hK K hS; have hS := hS1; clear hS1
            (try simp only [Act.put, List.setIfInBounds_toArray, List.set_cons_zero, List.set_cons_succ])
            (apply rg_strong (S' := fun w' => (convert 38 9 (.slice a9 sz c9)).run Tryd.prog w' = .ok (.string sB) w' ∧ Below w8.heap.size w8 w') (fun _ h => h.2); have hS2 := hS; clear hS; (try clear hN); have hS := And.intro (show (convert 38 9 (.slice a9 sz c9)).run Tryd.prog w9 = .ok (.string sB) w9 from by have := conv_ri HR9.out; rwa [HSB.out] at this) hS2)
            refine wpAnyH_take (i := 2) (oi := ({ dst := some 83, op := Op.convert 38 9 (Operand.tmp 82), type := 9, pos := "ref.go:43", after := #[{ on := 1, ground := Ground.data }], guard := none } : Oper)) (v := ?_) rfl (by kernel_rfl) (by kernel_rfl) (by kernel_rfl) (fun _ _ _ h => h) (Or.inl ⟨by rfl, ?_⟩) hS ?_
            rotate_left
            · (intro w hSw; (try dsimp only at hSw); have z := hSw.1; go_simp; try with_reducible rfl)
            (try simp only [Act.put, List.setIfInBounds_toArray, List.set_cons_zero, List.set_cons_succ])
            refine wpAnyH_take (i := 8) (oi := ({ dst := some 89, op := Op.binOp BinOp.neq 9 (Operand.tmp 83) (Operand.tmp 88) 9, type := 4, pos := "ref.go:43", after := #[{ on := 2, ground := Ground.data }, { on := 7, ground := Ground.data }], guard := none } : Oper)) (v := .bool false) rfl (by kernel_rfl) (by kernel_rfl) (by kernel_rfl) (fun _ _ _ h => h) (Or.inl ⟨by rfl, ?_⟩) hS ?_
            · (intro w hSw; (try dsimp only at hSw); go_simp; try with_reducible rfl)
            (try simp only [Act.put, List.setIfInBounds_toArray, List.set_cons_zero, List.set_cons_succ])
            refine wpAnyH_done (by kernel_rfl) ?_ _
            have HB9 := Lib.hid (bch HB8.out hS.2)
            have HA9 := Lib.hid (HA8.out.keep hS.2)
            have HG9 := Lib.hid (HG8.out.keep hS.2)
            have HO9 := Lib.hid (own_keep HO8.out hS.2)
            clear hS
            go_wp2_with (first
              | (refine wpl_load_fr rfl (.tmp 10) rfl rfl HG9.out ?_)
              | (refine wpList_store_row rfl 64 _ _ rfl w.heap.size (fA k e (.slice p7 n c7)) rfl rfl _ _ HA9.out (fr_info _ rfl) rfl (fr_one _ _ _ _ _) ?_))
            refine bodyPost_ret_by (results_row_tmp2 rfl _ _ w.heap.size _ rfl (HA9.out.row k e (.slice p7 n c7)).load) rfl ?_
            exact decf_some hR.out (HA9.out.row_own _ (own_mono HO9.out HB6.out.size)) (brow HB9.out (Nat.le_refl _) (Nat.le_refl _) _)
        · skip
          go_simp
          obtain ⟨w5, hw5⟩ : ∃ q, ((World.alloc w1 (.cells (fA 0 0 (.slice none 0 0)) 64))).drew = q := ⟨_, rfl⟩; have hb5 : Below w1.heap.size w1 w5 := (by rw [← hw5]; exact bdrew0 _ _); have hg5 : FO w5 w1.heap.size 0 0 (.slice none 0 0) := (by rw [← hw5]; exact FO.alloc w1); have HG := Lib.hid hg5; clear hg5; rw [hw5]; have HGE : Hid (w1.heap.size ≤ w1.heap.size) := Lib.hid (Nat.le_refl _); (try clear hN); have hN := hb5
          refine hK.out _ _ ?_ (fun hS1 => ?_)
          · (first | exact hN | exact hS)
          clear hK K hS; have hS := hS1; clear hS1
          (try simp only [Act.put, List.setIfInBounds_toArray, List.set_cons_zero, List.set_cons_succ])
          refine rg_one 6 ({ dst := some 46, op := Op.call { callee := Callee.value (Operand.func 56), args := #[Operand.tmp 45], argTypes := #[38] }, type := 22, pos := "ref.go:35", after := #[{ on := 5, ground := Ground.data }], guard := none } : Oper) (by kernel_rfl) rfl (fun K hK => ?_)
          go_simp
          (go_at_call 56; (with_reducible refine (HGT.out _ (HR7.out.keep hS)).mono ?_); rintro r w3 ⟨rfl, hb3⟩; (try clear hN); have HG := Lib.hid (HG.out.keep hb3); have hN := hS.trans (hb3.mono hS.size))
          refine hK.out _ _ ?_ (fun hS1 => ?_)
          · (first | exact hN | exact hS)
          clear hK K hS; have hS := hS1; clear hS1
          (try simp only [Act.put, List.setIfInBounds_toArray, List.set_cons_zero, List.set_cons_succ])
          refine wpAnyH_take (i := 7) (oi := ({ dst := some 47, op := Op.convert 22 53 (Operand.tmp 46), type := 53, pos := "ref.go:35", after := #[{ on := 6, ground := Ground.data }], guard := none } : Oper)) (v := .int .u32 e) rfl (by kernel_rfl) (by kernel_rfl) (by kernel_rfl) (fun _ _ _ h => h) (Or.inl ⟨by rfl, ?_⟩) hS ?_
          · (intro w hSw; (try dsimp only at hSw); have z := HKE.out; go_simp; (try exact z))
          (try simp only [Act.put, List.setIfInBounds_toArray, List.set_cons_zero, List.set_cons_succ])
          refine wpAnyH_take (i := 8) (oi := ({ dst := some 48, op := Op.build 64 #[(0, Operand.tmp 43), (1, Operand.tmp 47)], type := 64, pos := "ref.go:35", after := #[{ on := 3, ground := Ground.data }, { on := 7, ground := Ground.data }], guard := none } : Oper)) (v := .agg (fA k e (.slice none 0 0))) rfl (by kernel_rfl) (by kernel_rfl) (by kernel_rfl) (fun _ _ _ h => h) (Or.inl ⟨by rfl, ?_⟩) hS ?_
          · (intro w hSw; (try dsimp only at hSw); go_simp; try with_reducible rfl)
          (try simp only [Act.put, List.setIfInBounds_toArray, List.set_cons_zero, List.set_cons_succ])
          refine rg_one 10 ({ dst := none, op := Op.store 64 (Operand.tmp 10) (Operand.tmp 48), type := 0, pos := "ref.go:35", after := #[{ on := 9, ground := Ground.data }, { on := 8, ground := Ground.data }, { on := 6, ground := Ground.chain }, { on := 0, ground := Ground.phase }, { on := 1, ground := Ground.phase }, { on := 2, ground := Ground.phase }, { on := 3, ground := Ground.phase }, { on := 4, ground := Ground.phase }, { on := 5, ground := Ground.phase }, { on := 6, ground := Ground.phase }, { on := 7, ground := Ground.phase }, { on := 8, ground := Ground.phase }, { on := 9, ground := Ground.phase }], guard := none } : Oper) (by kernel_rfl) rfl (fun K hK => ?_)
          rw [if_pos (by rfl)]; refine wp_store_row 64 (.tmp 10) (.tmp 48) rfl w1.heap.size (fA k e (.slice none 0 0)) rfl rfl _ _ HG.out (fr_info _ rfl) rfl (fr_one _ _ _ _ _) ?_; have hgo := HG.out.row k e (.slice none 0 0); have hbo := brow hS (b := w1.heap.size) HGE.out (Nat.le_refl _) (fA k e (.slice none 0 0)); obtain ⟨w6, hw6⟩ : ∃ q, World.setRow w3 w1.heap.size (fA k e (.slice none 0 0)) = q := ⟨_, rfl⟩; rw [hw6] at hgo hbo; rw [hw6]; obtain ⟨g, hgn⟩ : ∃ q, w1.heap.size = q := ⟨_, rfl⟩; have hge := Nat.le_trans HGE.out (Nat.le_of_eq hgn); rw [hgn] at hgo; rw [hgn]; have HG6 := Lib.hid hgo; have HGL := Lib.hid hge; clear hgo hge; (try clear hN); have hN := hbo; clear hbo
          refine hK.out _ _ ?_ (fun hS1 => ?_)
          · (first | exact hN | exact hS)
          clear hK K hS; have hS := hS1; clear hS1
          (try simp only [Act.put])
          refine wpAnyH_done (by kernel_rfl) ?_ _
          have HB6 := Lib.hid (bch HB1.out hS)
          have HA6 := Lib.hid (HA1.out.keep hS)
          have HR6 := Lib.hid (HR1.out.keep hS)
          obtain ⟨c0, c1, c2⟩ := HG6.out.cells
          have HLT : Hid (w.heap.size < g) := Lib.hid (Nat.lt_of_lt_of_le HA1.out.lt HGL.out)
          have HBW := Lib.hid hS
          clear hS hN HG HGE
          rcases HC.out with ⟨q1, hq⟩ | ⟨q1, q2, hq⟩ | ⟨q1, q2, q3, hq⟩ | ⟨q1, q2, q3, q4, hq⟩ | ⟨q1, q2, q3, q4, q5, hq⟩ | ⟨q1, q2, q3, q4, q5, q6, hq⟩ | ⟨q1, q2, q3, q4, q5, q6, hq⟩
          · have hR := Lib.hid hq
            clear hq HC
            go_wp2_with (first
              | (refine wpList_store_row rfl 64 _ _ rfl w.heap.size (fA 0 0 (.slice none 0 0)) rfl rfl _ _ HA6.out (fr_info _ rfl) rfl (fr_one _ _ _ _ _) ?_))
            refine bodyPost_ret_by (results_row_tmp2 rfl _ _ w.heap.size _ rfl (HA6.out.row 0 0 (.slice none 0 0)).load) rfl ?_
            exact decf_none hR.out (brow HB6.out (Nat.le_refl _) (Nat.le_refl _) _)
          · have hR := Lib.hid hq
            clear hq HC
            go_wp2_with (first
              | (refine wpList_store_row rfl 64 _ _ rfl w.heap.size (fA 0 0 (.slice none 0 0)) rfl rfl _ _ HA6.out (fr_info _ rfl) rfl (fr_one _ _ _ _ _) ?_))
            refine bodyPost_ret_by (results_row_tmp2 rfl _ _ w.heap.size _ rfl (HA6.out.row 0 0 (.slice none 0 0)).load) rfl ?_
            exact decf_none hR.out (brow HB6.out (Nat.le_refl _) (Nat.le_refl _) _)
          · have hR := Lib.hid hq
            clear hq HC
            go_wp2_with (first
              | (refine wpList_store_row rfl 64 _ _ rfl w.heap.size (fA 0 0 (.slice none 0 0)) rfl rfl _ _ HA6.out (fr_info _ rfl) rfl (fr_one _ _ _ _ _) ?_))
            refine bodyPost_ret_by (results_row_tmp2 rfl _ _ w.heap.size _ rfl (HA6.out.row 0 0 (.slice none 0 0)).load) rfl ?_
            exact decf_none hR.out (brow HB6.out (Nat.le_refl _) (Nat.le_refl _) _)
          · have hR := Lib.hid hq
            have q5 : (e != ep) = true := by simpa using q4
            clear hq HC q4
            go_wp2_with (first
              | (refine wpList_store_row rfl 64 _ _ rfl w.heap.size (fA 0 0 (.slice none 0 0)) rfl rfl _ _ HA6.out (fr_info _ rfl) rfl (fr_one _ _ _ _ _) ?_))
            refine bodyPost_ret_by (results_row_tmp2 rfl _ _ w.heap.size _ rfl (HA6.out.row 0 0 (.slice none 0 0)).load) rfl ?_
            exact decf_none hR.out (brow HB6.out (Nat.le_refl _) (Nat.le_refl _) _)
          · have hR := Lib.hid hq
            subst q4
            have q6 : (len : Int) < (sz : Int) := by have := HLC.out.2.1; omega
            clear hq HC q5
            go_wp2_with (first
              | (refine wpList_store_row rfl 64 _ _ rfl w.heap.size (fA 0 0 (.slice none 0 0)) rfl rfl _ _ HA6.out (fr_info _ rfl) rfl (fr_one _ _ _ _ _) ?_))
            refine bodyPost_ret_by (results_row_tmp2 rfl _ _ w.heap.size _ rfl (HA6.out.row 0 0 (.slice none 0 0)).load) rfl ?_
            exact decf_none hR.out (brow HB6.out (Nat.le_refl _) (Nat.le_refl _) _)
          · have hR := Lib.hid hq
            subst q4
            have q7 : ¬ (len : Int) < (sz : Int) := by have := HLC.out.2.1; omega
            have HSZ : Hid ((sz : Int) = ((11 + n : Nat) : Int) ∧ sz = 11 + n ∧ n ≤ 197 ∧ sz ≤ len) := Lib.hid ⟨HSZ.out.1, HSZ.out.2.1, by omega, by have := HLC.out.2.1; omega⟩
            have HW6 : Hid (IntKind.i64.wrap (sz : Int) = (sz : Int)) := Lib.hid (by rw [IntKind.wrap_i64]; omega)
            have HBN : Hid (isB ((zs.drop 11).take n)) := Lib.hid ((HLC.out.2.2.drop 11).take n)
            have HBY : Hid (∀ v W, RI .u8 W v n ((zs.drop 11).take n) → Calls Tryd.prog 45 #[.agg (fA k e v)] W fun r w' => ∃ a c, r = .returned (.slice a sz c) ∧ RI .u8 w' (.slice a sz c) sz (fragB k e ((zs.drop 11).take n)) ∧ Below W.heap.size W w') := Lib.hid fun v W hr =>
              (rfbytes_any k e v n _ W (decide_eq_true ⟨q2, q3, HSZ.out.2.2.1⟩) ⟨e0, e1⟩ hr HBN.out).mono fun _ _ ⟨a, c, h, ho, hb⟩ => ⟨a, c, by rw [h, HSZ.out.2.1], by rw [HSZ.out.2.1]; exact RI.own ho, hb⟩
            obtain ⟨sB, hsB⟩ : ∃ q, strOfNums (fragB k e ((zs.drop 11).take n)) = q := ⟨_, rfl⟩
            have HSB := Lib.hid hsB
            obtain ⟨pz, cz, hslz⟩ : ∃ pz cz, sliced (some ⟨x, off, none⟩) 0 sz cap 1 = .slice pz sz cz := by have := sliced_form (some ⟨x, off, none⟩) 0 sz cap 1; rwa [Nat.zero_add] at this
            have HSLZ := Lib.hid hslz
            have hrz := HR1.out.cut 0 sz cap (by have := HSZ.out; omega) (by have := HSZ.out; have := HLC.out.1; omega) (Nat.le_refl _)
            rw [Nat.zero_add, hslz, List.drop_zero] at hrz
            have HRZ := Lib.hid hrz
            obtain ⟨sZ, hsZ⟩ : ∃ q, strOfNums (zs.take sz) = q := ⟨_, rfl⟩
            have HZZ : Hid (strOfNums (zs.take sz) = sZ) := Lib.hid hsZ
            have hne := str_ne (show ¬ sB = sZ from fun h => q6 (strOfNums_inj (fragB_bytes (by omega) e HBN.out) (HLC.out.2.2.take sz) (by rw [hsB, hsZ, h])))
            clear hq HC q5 q6 hsB hsZ hslz hrz
            go_wp2_with (first
              | (refine wpl_cut_lh rfl (.tmp 75) (.const (.int .i64 11)) (.tmp 77) rfl _ len 11 n _ rfl rfl (congrArg (Value.int .i64) HSZ.out.1) (HR6.out.keep (balloc _ _)) (by have := HSZ.out; omega) ?_; intro p3 c3 hr3; have HR3 := Lib.hid hr3; clear hr3)
              | (at_builtin; refine wpl_appn rfl (.tmp 74) (.tmp 78) 38 rfl 5 .u8 1 Tryd.underlying38 Tryd.info_u8 w6.heap.size _ 0 [] rfl (own_empty rfl (Nat.le_refl _)) _ n ((zs.drop 11).take n) rfl HR3 (by have := HSZ.out; omega) (by have := HSZ.out; omega) w6.heap.size w6 (Lib.hid (balloc _ _)) (Nat.le_refl _) (by simp) ?_; intro v7 w7 HO7 HB7; rw [Nat.zero_add, List.nil_append] at HO7; obtain ⟨p7, c7, rfl⟩ := own_form HO7.out; have HGK := HG6.out.keep HB7.out; have hf7 := HGK.frozen 2; have hz7 := HGK.cells.2.2; have HG8 := Lib.hid (HGK.set2 (.slice p7 n c7)); have HA8 := Lib.hid ((HA6.out.keep HB7.out).set_apart (b' := g) (Nat.ne_of_lt HLT.out) 2 (.slice p7 n c7)); have HO8 := Lib.hid (HGK.set_own 2 (.slice p7 n c7) HO7.out); have HB8 := Lib.hid (bset (bch HB6.out HB7.out) (b := g) (Nat.le_of_lt HLT.out) (Nat.le_refl _) 2 (.slice p7 n c7)); have HRZ8 := Lib.hid (HRZ.out.keep (bset (b := g) (bch HBW.out HB7.out) HGL.out (Nat.le_refl _) 2 (.slice p7 n c7))); clear HGK))
            obtain ⟨w8, hw8⟩ : ∃ q, w7.setCell ⟨g, 2, none⟩ (.slice p7 n c7) = q := ⟨_, rfl⟩
            rw [hw8] at HG8 HA8 HO8 HB8 HRZ8 ⊢
            clear hf7 hz7 hw8 HO7 HB7 HR3
            refine wp_region_held_drew (S := (fun W' => Below w8.heap.size w8 W')) (by kernel_rfl) ((Below.refl _ _).drew) (fun hS => ?_)
            refine wpAnyH_take (i := 0) (oi := ({ dst := some 81, op := Op.load 64 (Operand.tmp 10), type := 64, pos := "ref.go:43", after := #[], guard := none } : Oper)) (v := .agg (fA k e (.slice p7 n c7))) rfl (by kernel_rfl) (by kernel_rfl) (by kernel_rfl) (fun _ _ _ h => h) (Or.inl ⟨by rfl, ?_⟩) hS ?_
            · (intro w hSw; (try dsimp only at hSw); exact exec_load_fr (.tmp 10) rfl rfl (HG8.out.keep hSw))
            (try simp only [Act.put, List.setIfInBounds_toArray, List.set_cons_zero, List.set_cons_succ])
            refine wpAnyH_take (i := 3) (oi := ({ dst := some 84, op := Op.move (Operand.tmp 0), type := 38, pos := "ref.go:43", after := #[], guard := none } : Oper)) (v := ?_) rfl (by kernel_rfl) (by kernel_rfl) (by kernel_rfl) (fun _ _ _ h => h) (Or.inl ⟨by rfl, ?_⟩) hS ?_
            rotate_left
            · (intro w hSw; (try dsimp only at hSw); go_simp; try with_reducible rfl)
            (try simp only [Act.put, List.setIfInBounds_toArray, List.set_cons_zero, List.set_cons_succ])
            refine wpAnyH_take (i := 4) (oi := ({ dst := some 85, op := Op.move (Operand.tmp 9), type := 3, pos := "ref.go:43", after := #[], guard := none } : Oper)) (v := ?_) rfl (by kernel_rfl) (by kernel_rfl) (by kernel_rfl) (fun _ _ _ h => h) (Or.inl ⟨by rfl, ?_⟩) hS ?_
            rotate_left
            · (intro w hSw; (try dsimp only at hSw); go_simp; try with_reducible rfl)
            (try simp only [Act.put, List.setIfInBounds_toArray, List.set_cons_zero, List.set_cons_succ])
            refine wpAnyH_take (i := 5) (oi := ({ dst := some 86, op := Op.binOp BinOp.add 3 (Operand.const (Value.int IntKind.i64 11)) (Operand.tmp 85) 3, type := 3, pos := "ref.go:43", after := #[{ on := 4, ground := Ground.data }], guard := none } : Oper)) (v := .int .i64 (sz : Int)) rfl (by kernel_rfl) (by kernel_rfl) (by kernel_rfl) (fun _ _ _ h => h) (Or.inl ⟨by rfl, ?_⟩) hS ?_
            · (intro w hSw; (try dsimp only at hSw); have z := HW6.out; go_simp; (try exact z))
            (try simp only [Act.put, List.setIfInBounds_toArray, List.set_cons_zero, List.set_cons_succ])
            refine wpAnyH_take (i := 6) (oi := ({ dst := some 87, op := Op.slice 38 (Operand.tmp 84) none (some (Operand.tmp 86)) none, type := 38, pos := "ref.go:43", after := #[{ on := 3, ground := Ground.data }, { on := 5, ground := Ground.data }], guard := none } : Oper)) (v := .slice pz sz cz) rfl (by kernel_rfl) (by kernel_rfl) (by kernel_rfl) (fun _ _ _ h => h) (Or.inl ⟨by rfl, ?_⟩) hS ?_
            · (intro w hSw; (try dsimp only at hSw); exact (exec_cut_h (.tmp 84) (.tmp 86) rfl _ len cap sz rfl rfl (by have := HSZ.out; have := HLC.out.1; omega)).trans (by rw [HSLZ.out]))
            (try simp only [Act.put, List.setIfInBounds_toArray, List.set_cons_zero, List.set_cons_succ])
            refine wpAnyH_take (i := 7) (oi := ({ dst := some 88, op := Op.convert 38 9 (Operand.tmp 87), type := 9, pos := "ref.go:43", after := #[{ on := 6, ground := Ground.data }], guard := none } : Oper)) (v := ?_) rfl (by kernel_rfl) (by kernel_rfl) (by kernel_rfl) (fun _ _ _ h => h) (Or.inl ⟨by rfl, ?_⟩) hS ?_
            rotate_left
            · (intro w hSw; (try dsimp only at hSw); have z := conv_ri (RI.keep hSw HRZ8.out); rw [HZZ.out] at z; go_simp; try with_reducible rfl)
            (try simp only [Act.put, List.setIfInBounds_toArray, List.set_cons_zero, List.set_cons_succ])
            refine rg_one 1 ({ dst := some 82, op := Op.call { callee := Callee.value (Operand.func 45), args := #[Operand.tmp 81], argTypes := #[64] }, type := 38, pos := "ref.go:43", after := #[{ on := 0, ground := Ground.data }], guard := none } : Oper) (by kernel_rfl) rfl (fun K hK => ?_)
            go_simp
            (go_at_call 45; (with_reducible refine (HBY.out _ _ (RI.keep hS (RI.own HO8.out))).mono ?_); rintro r w9 ⟨a9, c9, rfl, hr9, hb9⟩; have HR9 := Lib.hid hr9; have hN := hS.trans (hb9.mono hS.size))
            refine hK.out _ _ ?_ (fun hS1 => ?_)
            · (first | exact hN | exact hS)
            clear hK K hS; have hS := hS1; clear hS1
            (try simp only [Act.put, List.setIfInBounds_toArray, List.set_cons_zero, List.set_cons_succ])
            (apply rg_strong (S' := fun w' => (convert 38 9 (.slice a9 sz c9)).run Tryd.prog w' = .ok (.string sB) w' ∧ Below w8.heap.size w8 w') (fun _ h => h.2); have hS2 := hS; clear hS; (try clear hN); have hS := And.intro (show (convert 38 9 (.slice a9 sz c9)).run Tryd.prog w9 = .ok (.string sB) w9 from by have := conv_ri HR9.out; rwa [HSB.out] at this) hS2)
            refine wpAnyH_take (i := 2) (oi := ({ dst := some 83, op := Op.convert 38 9 (Operand.tmp 82), type := 9, pos := "ref.go:43", after := #[{ on := 1, ground := Ground.data }], guard := none } : Oper)) (v := ?_) rfl (by kernel_rfl) (by kernel_rfl) (by kernel_rfl) (fun _ _ _ h => h) (Or.inl ⟨by rfl, ?_⟩) hS ?_
            rotate_left
            · (intro w hSw; (try dsimp only at hSw); have z := hSw.1; go_simp; try with_reducible rfl)
            (try simp only [Act.put, List.setIfInBounds_toArray, List.set_cons_zero, List.set_cons_succ])
            refine wpAnyH_take (i := 8) (oi := ({ dst := some 89, op := Op.binOp BinOp.neq 9 (Operand.tmp 83) (Operand.tmp 88) 9, type := 4, pos := "ref.go:43", after := #[{ on := 2, ground := Ground.data }, { on := 7, ground := Ground.data }], guard := none } : Oper)) (v := .bool true) rfl (by kernel_rfl) (by kernel_rfl) (by kernel_rfl) (fun _ _ _ h => h) (Or.inl ⟨by rfl, ?_⟩) hS ?_
            · (intro w hSw; (try dsimp only at hSw); go_simp; try with_reducible rfl)
            (try simp only [Act.put, List.setIfInBounds_toArray, List.set_cons_zero, List.set_cons_succ])
            refine wpAnyH_done (by kernel_rfl) ?_ _
            have HB9 := Lib.hid (bch HB8.out hS.2)
            have HA9 := Lib.hid (HA8.out.keep hS.2)
            have HG9 := Lib.hid (HG8.out.keep hS.2)
            have HO9 := Lib.hid (own_keep HO8.out hS.2)
            clear hS
            go_wp2_with (first
              | (refine wpList_store_row rfl 64 _ _ rfl w.heap.size (fA 0 0 (.slice none 0 0)) rfl rfl _ _ HA9.out (fr_info _ rfl) rfl (fr_one _ _ _ _ _) ?_))
            refine bodyPost_ret_by (results_row_tmp2 rfl _ _ w.heap.size _ rfl (HA9.out.row 0 0 (.slice none 0 0)).load) rfl ?_
            exact decf_none hR.out (brow HB9.out (Nat.le_refl _) (Nat.le_refl _) _)
          · have hR := Lib.hid hq
            subst q4
            have q7 : ¬ (len : Int) < (sz : Int) := by have := HLC.out.2.1; omega
            have HSZ : Hid ((sz : Int) = ((11 + n : Nat) : Int) ∧ sz = 11 + n ∧ n ≤ 197 ∧ sz ≤ len) := Lib.hid ⟨HSZ.out.1, HSZ.out.2.1, by omega, by have := HLC.out.2.1; omega⟩
            have HW6 : Hid (IntKind.i64.wrap (sz : Int) = (sz : Int)) := Lib.hid (by rw [IntKind.wrap_i64]; omega)
            have HBN : Hid (isB ((zs.drop 11).take n)) := Lib.hid ((HLC.out.2.2.drop 11).take n)
            have HBY : Hid (∀ v W, RI .u8 W v n ((zs.drop 11).take n) → Calls Tryd.prog 45 #[.agg (fA k e v)] W fun r w' => ∃ a c, r = .returned (.slice a sz c) ∧ RI .u8 w' (.slice a sz c) sz (fragB k e ((zs.drop 11).take n)) ∧ Below W.heap.size W w') := Lib.hid fun v W hr =>
              (rfbytes_any k e v n _ W (decide_eq_true ⟨q2, q3, HSZ.out.2.2.1⟩) ⟨e0, e1⟩ hr HBN.out).mono fun _ _ ⟨a, c, h, ho, hb⟩ => ⟨a, c, by rw [h, HSZ.out.2.1], by rw [HSZ.out.2.1]; exact RI.own ho, hb⟩
            obtain ⟨sB, hsB⟩ : ∃ q, strOfNums (fragB k e ((zs.drop 11).take n)) = q := ⟨_, rfl⟩
            have HSB := Lib.hid hsB
            obtain ⟨pz, cz, hslz⟩ : ∃ pz cz, sliced (some ⟨x, off, none⟩) 0 sz cap 1 = .slice pz sz cz := by have := sliced_form (some ⟨x, off, none⟩) 0 sz cap 1; rwa [Nat.zero_add] at this
            have HSLZ := Lib.hid hslz
            have hrz := HR1.out.cut 0 sz cap (by have := HSZ.out; omega) (by have := HSZ.out; have := HLC.out.1; omega) (Nat.le_refl _)
            rw [Nat.zero_add, hslz, List.drop_zero] at hrz
            have HRZ := Lib.hid hrz
            rw [← q6] at HRZ
            have HZZ : Hid (strOfNums (fragB k e ((zs.drop 11).take n)) = sB) := Lib.hid hsB
            clear hq HC q5 q6 hsB hslz hrz
            go_wp2_with (first
              | (refine wpl_cut_lh rfl (.tmp 75) (.const (.int .i64 11)) (.tmp 77) rfl _ len 11 n _ rfl rfl (congrArg (Value.int .i64) HSZ.out.1) (HR6.out.keep (balloc _ _)) (by have := HSZ.out; omega) ?_; intro p3 c3 hr3; have HR3 := Lib.hid hr3; clear hr3)
              | (at_builtin; refine wpl_appn rfl (.tmp 74) (.tmp 78) 38 rfl 5 .u8 1 Tryd.underlying38 Tryd.info_u8 w6.heap.size _ 0 [] rfl (own_empty rfl (Nat.le_refl _)) _ n ((zs.drop 11).take n) rfl HR3 (by have := HSZ.out; omega) (by have := HSZ.out; omega) w6.heap.size w6 (Lib.hid (balloc _ _)) (Nat.le_refl _) (by simp) ?_; intro v7 w7 HO7 HB7; rw [Nat.zero_add, List.nil_append] at HO7; obtain ⟨p7, c7, rfl⟩ := own_form HO7.out; have HGK := HG6.out.keep HB7.out; have hf7 := HGK.frozen 2; have hz7 := HGK.cells.2.2; have HG8 := Lib.hid (HGK.set2 (.slice p7 n c7)); have HA8 := Lib.hid ((HA6.out.keep HB7.out).set_apart (b' := g) (Nat.ne_of_lt HLT.out) 2 (.slice p7 n c7)); have HO8 := Lib.hid (HGK.set_own 2 (.slice p7 n c7) HO7.out); have HB8 := Lib.hid (bset (bch HB6.out HB7.out) (b := g) (Nat.le_of_lt HLT.out) (Nat.le_refl _) 2 (.slice p7 n c7)); have HRZ8 := Lib.hid (HRZ.out.keep (bset (b := g) (bch HBW.out HB7.out) HGL.out (Nat.le_refl _) 2 (.slice p7 n c7))); clear HGK))
            obtain ⟨w8, hw8⟩ : ∃ q, w7.setCell ⟨g, 2, none⟩ (.slice p7 n c7) = q := ⟨_, rfl⟩
            rw [hw8] at HG8 HA8 HO8 HB8 HRZ8 ⊢
            clear hf7 hz7 hw8 HO7 HB7 HR3
            refine wp_region_held_drew (S := (fun W' => Below w8.heap.size w8 W')) (by kernel_rfl) ((Below.refl _ _).drew) (fun hS => ?_)
            refine wpAnyH_take (i := 0) (oi := ({ dst := some 81, op := Op.load 64 (Operand.tmp 10), type := 64, pos := "ref.go:43", after := #[], guard := none } : Oper)) (v := .agg (fA k e (.slice p7 n c7))) rfl (by kernel_rfl) (by kernel_rfl) (by kernel_rfl) (fun _ _ _ h => h) (Or.inl ⟨by rfl, ?_⟩) hS ?_
            · (intro w hSw; (try dsimp only at hSw); exact exec_load_fr (.tmp 10) rfl rfl (HG8.out.keep hSw))
            (try simp only [Act.put, List.setIfInBounds_toArray, List.set_cons_zero, List.set_cons_succ])
            refine wpAnyH_take (i := 3) (oi := ({ dst := some 84, op := Op.move (Operand.tmp 0), type := 38, pos := "ref.go:43", after := #[], guard := none } : Oper)) (v := ?_) rfl (by kernel_rfl) (by kernel_rfl) (by kernel_rfl) (fun _ _ _ h => h) (Or.inl ⟨by rfl, ?_⟩) hS ?_
            rotate_left
            · (intro w hSw; (try dsimp only at hSw); go_simp; try with_reducible rfl)
            (try simp only [Act.put, List.setIfInBounds_toArray, List.set_cons_zero, List.set_cons_succ])
            refine wpAnyH_take (i := 4) (oi := ({ dst := some 85, op := Op.move (Operand.tmp 9), type := 3, pos := "ref.go:43", after := #[], guard := none } : Oper)) (v := ?_) rfl (by kernel_rfl) (by kernel_rfl) (by kernel_rfl) (fun _ _ _ h => h) (Or.inl ⟨by rfl, ?_⟩) hS ?_
            rotate_left
            · (intro w hSw; (try dsimp only at hSw); go_simp; try with_reducible rfl)
            (try simp only [Act.put, List.setIfInBounds_toArray, List.set_cons_zero, List.set_cons_succ])
            refine wpAnyH_take (i := 5) (oi := ({ dst := some 86, op := Op.binOp BinOp.add 3 (Operand.const (Value.int IntKind.i64 11)) (Operand.tmp 85) 3, type := 3, pos := "ref.go:43", after := #[{ on := 4, ground := Ground.data }], guard := none } : Oper)) (v := .int .i64 (sz : Int)) rfl (by kernel_rfl) (by kernel_rfl) (by kernel_rfl) (fun _ _ _ h => h) (Or.inl ⟨by rfl, ?_⟩) hS ?_
            · (intro w hSw; (try dsimp only at hSw); have z := HW6.out; go_simp; (try exact z))
            (try simp only [Act.put, List.setIfInBounds_toArray, List.set_cons_zero, List.set_cons_succ])
            refine wpAnyH_take (i := 6) (oi := ({ dst := some 87, op := Op.slice 38 (Operand.tmp 84) none (some (Operand.tmp 86)) none, type := 38, pos := "ref.go:43", after := #[{ on := 3, ground := Ground.data }, { on := 5, ground := Ground.data }], guard := none } : Oper)) (v := .slice pz sz cz) rfl (by kernel_rfl) (by kernel_rfl) (by kernel_rfl) (fun _ _ _ h => h) (Or.inl ⟨by rfl, ?_⟩) hS ?_
            · (intro w hSw; (try dsimp only at hSw); exact (exec_cut_h (.tmp 84) (.tmp 86) rfl _ len cap sz rfl rfl (by have := HSZ.out; have := HLC.out.1; omega)).trans (by rw [HSLZ.out]))
            (try simp only [Act.put, List.setIfInBounds_toArray, List.set_cons_zero, List.set_cons_succ])
            refine wpAnyH_take (i := 7) (oi := ({ dst := some 88, op := Op.convert 38 9 (Operand.tmp 87), type := 9, pos := "ref.go:43", after := #[{ on := 6, ground := Ground.data }], guard := none } : Oper)) (v := ?_) rfl (by kernel_rfl) (by kernel_rfl) (by kernel_rfl) (fun _ _ _ h => h) (Or.inl ⟨by rfl, ?_⟩) hS ?_
            rotate_left
            · (intro w hSw; (try dsimp only at hSw); have z := conv_ri (RI.keep hSw HRZ8.out); rw [HZZ.out] at z; go_simp; try with_reducible rfl)
            (try simp only [Act.put, List.setIfInBounds_toArray, List.set_cons_zero, List.set_cons_succ])
            refine rg_one 1 ({ dst := some 82, op := Op.call { callee := Callee.value (Operand.func 45), args := #[Operand.tmp 81], argTypes := #[64] }, type := 38, pos := "ref.go:43", after := #[{ on := 0, ground := Ground.data }], guard := none } : Oper) (by kernel_rfl) rfl (fun K hK => ?_)
            go_simp
            (go_at_call 45; (with_reducible refine (HBY.out _ _ (RI.keep hS (RI.own HO8.out))).mono ?_); rintro r w9 ⟨a9, c9, rfl, hr9, hb9⟩; have HR9 := Lib.hid hr9; have hN := hS.trans (hb9.mono hS.size))
            refine hK.out _ _ ?_ (fun hS1 => ?_)
            · (first | exact hN | exact hS)
            clear hK K hS; have hS := hS1; clear hS1
            (try simp only [Act.put, List.setIfInBounds_toArray, List.set_cons_zero, List.set_cons_succ])
            (apply rg_strong (S' := fun w' => (convert 38 9 (.slice a9 sz c9)).run Tryd.prog w' = .ok (.string sB) w' ∧ Below w8.heap.size w8 w') (fun _ h => h.2); have hS2 := hS; clear hS; (try clear hN); have hS := And.intro (show (convert 38 9 (.slice a9 sz c9)).run Tryd.prog w9 = .ok (.string sB) w9 from by have := conv_ri HR9.out; rwa [HSB.out] at this) hS2)
            refine wpAnyH_take (i := 2) (oi := ({ dst := some 83, op := Op.convert 38 9 (Operand.tmp 82), type := 9, pos := "ref.go:43", after := #[{ on := 1, ground := Ground.data }], guard := none } : Oper)) (v := ?_) rfl (by kernel_rfl) (by kernel_rfl) (by kernel_rfl) (fun _ _ _ h => h) (Or.inl ⟨by rfl, ?_⟩) hS ?_
            rotate_left
            · (intro w hSw; (try dsimp only at hSw); have z := hSw.1; go_simp; try with_reducible rfl)
            (try simp only [Act.put, List.setIfInBounds_toArray, List.set_cons_zero, List.set_cons_succ])
            refine wpAnyH_take (i := 8) (oi := ({ dst := some 89, op := Op.binOp BinOp.neq 9 (Operand.tmp 83) (Operand.tmp 88) 9, type := 4, pos := "ref.go:43", after := #[{ on := 2, ground := Ground.data }, { on := 7, ground := Ground.data }], guard := none } : Oper)) (v := .bool false) rfl (by kernel_rfl) (by kernel_rfl) (by kernel_rfl) (fun _ _ _ h => h) (Or.inl ⟨by rfl, ?_⟩) hS ?_
            · (intro w hSw; (try dsimp only at hSw); go_simp; try with_reducible rfl)
            (try simp only [Act.put, List.setIfInBounds_toArray, List.set_cons_zero, List.set_cons_succ])
            refine wpAnyH_done (by kernel_rfl) ?_ _
            have HB9 := Lib.hid (bch HB8.out hS.2)
            have HA9 := Lib.hid (HA8.out.keep hS.2)
            have HG9 := Lib.hid (HG8.out.keep hS.2)
            have HO9 := Lib.hid (own_keep HO8.out hS.2)
            clear hS
            go_wp2_with (first
              | (refine wpl_load_fr rfl (.tmp 10) rfl rfl HG9.out ?_)
              | (refine wpList_store_row rfl 64 _ _ rfl w.heap.size (fA k e (.slice p7 n c7)) rfl rfl _ _ HA9.out (fr_info _ rfl) rfl (fr_one _ _ _ _ _) ?_))
            refine bodyPost_ret_by (results_row_tmp2 rfl _ _ w.heap.size _ rfl (HA9.out.row k e (.slice p7 n c7)).load) rfl ?_
            exact decf_some hR.out (HA9.out.row_own _ (own_mono HO9.out HB6.out.size)) (brow HB9.out (Nat.le_refl _) (Nat.le_refl _) _)
end Go.Proofs.YthickhfbllddjaaDoor
