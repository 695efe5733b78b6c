/-
  THE WALK OF JoinBack: whatever records and places come in: the call returns true and changes nothing that was there (written by wip/gen/g29.py).
-/
import Derived.Test.YtbnedcghbdphlaaJoinLaws
import Derived.Test.YtbnedcghbdphlaaJoinBackMath
import Derived.Test.YtbnedcghbdphlaaJoinBackList
import Derived.Test.YtbnedcghbdphlaaCut
namespace Go.Proofs.Ytbnedcghbdphlaa
open Go.RowKit
set_option maxRecDepth 8000 in
set_option maxHeartbeats 8000000 in
theorem back_walk (lv : Value) (n : Nat) (ls : List (List Int)) (av : Value) (an : Nat) (ats : List Int) (W : World) (hl : RL .u8 W lv n ls) (hb : ∀ l ∈ ls, isB l) (ha : RI .i64 W av an ats) (h63 : ∀ x ∈ ats, I63 x) :
    Calls Try.prog 5 #[lv, av] W fun e w' => e = .returned (.bool true) ∧ Below W.heap.size W w' := by
  have hln := hl.length
  have hal := ha.length
  have han := ha.le
  obtain ⟨la, lc, rfl, _⟩ := hl.form
  obtain ⟨aa, ac, rfl⟩ : ∃ a c, av = .slice a an c := by obtain ⟨a, c, e, _⟩ := ha; exact ⟨a, c, e⟩
  by_cases hbig : (n : Int) > 20
  · clear hl hb ha h63 hln hal
    go_enter Try.func5, Try.ntmps5
    go_wp2_with (first
      | (go_at_call 6; (with_reducible refine (awake_any _).mono ?_); rintro e w5 ⟨rfl, hb⟩; have HB5 := Lib.hid hb; clear hb))
    go_ret
    exact ⟨rfl, HB5.out⟩
  · have HLS : Hid (0 < n → ∃ b off, la = some ⟨b, off, none⟩ ∧ ∀ j, j < n → ∃ x c, W.cell? ⟨b, off + j, none⟩ = some (.slice x (ls.getD j []).length c) ∧ RI .u8 W (.slice x (ls.getD j []).length c) (ls.getD j []).length (ls.getD j [])) := Lib.hid hl.at_
    have HAT : Hid (0 < an → ∃ b off, aa = some ⟨b, off, none⟩ ∧ ∀ j, j < an → W.cell? ⟨b, off + j, none⟩ = some (.int .i64 (ats.getD j 0))) := Lib.hid ha.at_
    have HBS : Hid (∀ j, j < n → isB (ls.getD j [])) := Lib.hid fun j hj => hb _ (by simp [List.getD, hln, hj])
    have HA63 : Hid (∀ j, j < an → I63 (ats.getD j 0)) := Lib.hid fun j hj => h63 _ (getD_mem (by omega))
    have hnn : (n : Int) ≤ 20 := by omega
    have hann : (an : Int) ≤ 9223372036854775807 := by omega
    clear hl hb ha h63 hln hal han
    go_enter Try.func5, Try.ntmps5
    go_wp2
    go_loopw [5, 6, 7] (fun fv gv iv wr => ∃ (i m k : Nat) (va : Option Addr) (vc : Nat) (ua : Option Addr) (uc : Nat) (es : List (FR × Value)) (ws : List (List Int × Value)), iv = .int .i64 (i : Int) ∧ fv = .slice va m vc ∧ gv = .slice ua k uc ∧ i ≤ n ∧ m ≤ 75 * i ∧ k ≤ i ∧ Hid (FW W.heap.size W wr (.slice va m vc) m es) ∧ Hid (WR W.heap.size W wr (.slice ua k uc) k ws) ∧ Hid (∀ x ∈ ws, isB x.1) ∧ Hid (∀ r, jRun false [] [] (es.map Prod.fst ++ r) = jRun false [] (ws.map Prod.fst) r) ∧ Hid (Below W.heap.size W wr)) (fun _ _ iv _ => n - (intOf iv).toNat)
    case atStart => exact ⟨0, 0, 0, none, 0, none, 0, [], [], rfl, rfl, rfl, by omega, by omega, by omega, Lib.hid (FW.nil _ _ _), Lib.hid (WR.nil _ _ _), Lib.hid (fun x hx => by simp at hx), Lib.hid (fun r => rfl), Lib.hid (Below.refl _ _)⟩
    case round =>
      rename World => wo
      obtain ⟨i, m, k, va, vc, ua, uc, es, ws, rfl, rfl, rfl, hin, hmi, hki, HFW, HWR, HWB, HINV, HB⟩ := hrel
      by_cases hlt : (i : Int) < (n : Int)
      · obtain ⟨lb, lo, rfl, hat⟩ := HLS.out (by omega)
        obtain ⟨x, c, hc0, hz0⟩ := hat i (by omega)
        have hbz := HBS.out i (by omega)
        generalize ls.getD i [] = zs at hc0 hz0 hbz
        obtain ⟨sn, hsn⟩ : ∃ q, zs.length = q := ⟨_, rfl⟩
        rw [hsn] at hc0 hz0
        have hsl := hz0.le
        have hcap : sn ≤ c := by obtain ⟨_, _, e, _, h, _⟩ := hz0; simp only [Value.slice.injEq, true_and] at e; omega
        have HC0 := Lib.hid hc0
        have hcl := cell_keep HB.out hc0
        have HZ := Lib.hid hz0
        have HBZ := Lib.hid hbz
        have HSN := Lib.hid hsn
        clear hat hz0 hbz hc0
        have hq : ∃ xx : Int, I63 xx ∧ (((i : Int) < (an : Int) ∧ ∃ b o, aa = some ⟨b, o, none⟩ ∧ W.cell? ⟨b, o + i, none⟩ = some (.int .i64 xx)) ∨ (¬ (i : Int) < (an : Int) ∧ xx = 0)) := by
          by_cases h : (i : Int) < (an : Int)
          · obtain ⟨b, o, e, hc⟩ := HAT.out (by omega)
            exact ⟨_, HA63.out i (by omega), .inl ⟨h, b, o, e, hc i (by omega)⟩⟩
          · exact ⟨0, by unfold I63; omega, .inr ⟨h, rfl⟩⟩
        obtain ⟨xx, h63, hq⟩ := hq
        have HCUT : Hid (∀ w, Calls Try.prog 14 #[.int .i64 xx, .int .i64 (sn : Int)] w fun e w' =>
            ∃ v, e = .returned (.tuple #[v, .int .i64 (endI xx sn : Int), .bool (fitI xx sn)]) ∧ w'.ownsRow w.heap.size 47 4 v (pcsI xx sn).length (pF (pcsI xx sn)) ∧ Below w.heap.size w w') := Lib.hid fun w => rcut_any xx sn h63 (by unfold I63; omega) w
        have HPC : Hid (∀ (i : Nat) (c : PC), (pcsI xx sn)[i]? = some c → ∃ l k : Nat, c.from_ = (l : Int) ∧ c.to = ((l + k : Nat) : Int) ∧ ((l + k : Nat) : Int) ≤ sn ∧ l + k ≤ 832) := Lib.hid fun i c h => pc_ok h
        have HBK : Hid (fitI xx sn = true → sn ≤ 512 → ∀ acc r, jRun false [] acc ((pcsI xx sn).map (frOf 0 zs) ++ r) = jRun false [] (acc ++ [zs]) r) := Lib.hid fun h1 h2 acc r => by
          have z := back_one xx zs (by rw [hsn]; exact h1) (by omega) acc r
          rw [hsn] at z
          exact z
        have hpl := pcs_len xx sn
        generalize pcsI xx sn = ps at *
        generalize endI xx sn = en at *
        generalize fitI xx sn = fit at *
        obtain ⟨q, hpq⟩ : ∃ q, ps.length = q := ⟨_, rfl⟩
        have HPQ := Lib.hid hpq
        rw [hpq] at HCUT hpl
        clear h63 hsn hpq
        rcases hq with ⟨hat, ab, ao, rfl, hac⟩ | ⟨hat, rfl⟩
        · have hac1 := cell_keep HB.out hac
          clear hac
          cases fit with
          | false =>
            clear HBK HPC
            go_wp2_with (first
              | (go_at_call 14; (with_reducible refine (HCUT.out _).mono ?_); rintro e w2 ⟨v2, rfl, ho, hb⟩; have HFW2 := Lib.hid (HFW.out.keep hb); have HWR2 := Lib.hid (HWR.out.keep hb); have HB2 := Lib.hid (bch HB.out hb); clear ho hb))
            go_roundw
            case rel => exact ⟨i + 1, m, k, va, vc, ua, uc, es, ws, by go_num, rfl, rfl, by omega, by omega, by omega, HFW2, HWR2, HWB, HINV, HB2⟩
            case measure => simp [intOf]; omega
          | true =>
            by_cases hlong : (sn : Int) > 512
            · clear HBK HPC
              go_wp2_with (first
                | (go_at_call 14; (with_reducible refine (HCUT.out _).mono ?_); rintro e w2 ⟨v2, rfl, ho, hb⟩; have HFW2 := Lib.hid (HFW.out.keep hb); have HWR2 := Lib.hid (HWR.out.keep hb); have HB2 := Lib.hid (bch HB.out hb); have hcl2 := cell_keep HB2.out HC0.out; clear ho hb))
              go_roundw
              case rel => exact ⟨i + 1, m, k, va, vc, ua, uc, es, ws, by go_num, rfl, rfl, by omega, by omega, by omega, HFW2, HWR2, HWB, HINV, HB2⟩
              case measure => simp [intOf]; omega
            · have HBK2 := Lib.hid (HBK.out rfl (by omega))
              clear HBK
              go_wp2_with (first
                | (go_at_call 14; (with_reducible refine (HCUT.out _).mono ?_); rintro e w2 ⟨v2, rfl, ho, hb⟩; obtain ⟨p2, c2, rfl⟩ := own_form ho; have HP2 := Lib.hid (own_mono ho HB.out.size); have HFW2 := Lib.hid (HFW.out.keep hb); have HWR2 := Lib.hid (HWR.out.keep hb); have HB2 := Lib.hid (bch HB.out hb); have hcl2 := cell_keep HB2.out HC0.out; clear ho hb))
              go_loopw [5, 12] (fun fv jv wr => ∃ (j : Nat) (fa : Option Addr) (fc : Nat) (es2 : List (FR × Value)), jv = .int .i64 (j : Int) ∧ fv = .slice fa (m + j) fc ∧ j ≤ q ∧ Hid (FW W.heap.size W wr (.slice fa (m + j) fc) (m + j) es2) ∧ Hid (WR W.heap.size W wr (.slice ua k uc) k ws) ∧ Hid (es2.map Prod.fst = es.map Prod.fst ++ (ps.take j).map (frOf 0 zs)) ∧ Hid (wr.ownsRow W.heap.size 47 4 (.slice p2 q c2) q (pF ps)) ∧ Hid (Below W.heap.size W wr)) (fun _ jv _ => q - (intOf jv).toNat)
              case atStart => exact ⟨0, va, vc, es, rfl, rfl, by omega, HFW2, HWR2, Lib.hid (by simp), HP2, HB2⟩
              case round =>
                rename World => wi
                obtain ⟨j, fa, fc, es2, rfl, rfl, hjq, HFW3, HWR3, HES3, HP3, HB3⟩ := hrel
                by_cases hltj : (j : Int) < (q : Int)
                · have hci : ps[j]? = some (ps[j]'(by have := HPQ.out; omega)) := List.getElem?_eq_getElem _
                  obtain ⟨pc, hpc⟩ : ∃ c, ps[j]'(by have := HPQ.out; omega) = c := ⟨_, rfl⟩
                  rw [hpc] at hci
                  have HCI := Lib.hid hci
                  obtain ⟨l, d, hl, hd, hdn, hd8⟩ := HPC.out j pc hci
                  have HFD := Lib.hid (frOf_data (ep := 0) (zs := zs) hl hd)
                  obtain ⟨pb, po, rfl⟩ : ∃ b o, p2 = some ⟨b, o, none⟩ := by
                    have hps : PS wi (.slice p2 q c2) ps := PS.own (by rw [HPQ.out]; exact HP3.out)
                    obtain ⟨b, o, e, _⟩ := hps.at_ j pc hci
                    exact ⟨b, o, e⟩
                  obtain ⟨h1, h2, h3⟩ := own_piece HP3.out j pc hci
                  obtain ⟨qa, kd, cf, ct⟩ := pc
                  obtain rfl : cf = (l : Int) := hl
                  obtain ⟨h, hh⟩ : ∃ h, l + d = h := ⟨_, rfl⟩
                  have HH := Lib.hid hh
                  rw [hh] at hd hdn hd8
                  obtain rfl : ct = (h : Int) := hd
                  have hln : (l : Int) ≤ h := by omega
                  obtain ⟨sp, sc, hsl2⟩ := sliced_form x l d c 1
                  have HDC : Hid (l + d ≤ c ∧ l + d ≤ sn) := Lib.hid (by omega)
                  have HRC := Lib.hid (HZ.out.cut l d c HDC.out.2 HDC.out.1 (Nat.le_refl _))
                  rw [hsl2] at HRC
                  have HSL := Lib.hid hsl2
                  have hcl3 := cell_keep HB3.out HC0.out
                  have HCS := Lib.hid (And.intro h1 (And.intro h2 (And.intro h3 hcl3)))
                  have HCL := Lib.hid (And.intro h1 (And.intro h2 (And.intro h3 hcl3)))
                  clear hci hpc h1 h2 h3 hsl2 hh hcl2 hcl3
                  go_wp2_with fail
                  refine wp_region_held_drew (S := (fun w' => w'.cell? ⟨pb, po + j * 4 + 1, none⟩ = some (.int .i64 kd) ∧ w'.cell? ⟨pb, po + j * 4 + 2, none⟩ = some (.int .i64 (l : Int)) ∧ w'.cell? ⟨pb, po + j * 4 + 3, none⟩ = some (.int .i64 (h : Int)) ∧ w'.cell? ⟨lb, lo + i, none⟩ = some (.slice x sn c))) (by kernel_rfl) (let hb := (Below.refl wi.heap.size wi).drew; ⟨cell_keep hb HCL.out.1, cell_keep hb HCL.out.2.1, cell_keep hb HCL.out.2.2.1, cell_keep hb HCL.out.2.2.2⟩) (fun hS => ?_)
                  refine wpAnyH_take (i := 0) (oi := ({ dst := some 60, op := Op.move (Operand.tmp 5), type := 22, pos := "law.go:64", after := #[], guard := none } : Oper)) (v := ?_) rfl (by kernel_rfl) (by kernel_rfl) (by kernel_rfl) (fun _ _ _ h => h) (Or.inl ⟨by rfl, ?_⟩) hS ?_
                  rotate_left
                  · (intro w hSw; (try dsimp only at hSw); go_simp; try with_reducible rfl)
                  (try simp only [Act.put, List.setIfInBounds_toArray, List.set_cons_zero, List.set_cons_succ])
                  refine wpAnyH_take (i := 1) (oi := ({ dst := some 61, op := Op.move (Operand.tmp 9), type := 43, pos := "law.go:64", after := #[], guard := none } : Oper)) (v := ?_) rfl (by kernel_rfl) (by kernel_rfl) (by kernel_rfl) (fun _ _ _ h => h) (Or.inl ⟨by rfl, ?_⟩) hS ?_
                  rotate_left
                  · (intro w hSw; (try dsimp only at hSw); go_simp; try with_reducible rfl)
                  (try simp only [Act.put, List.setIfInBounds_toArray, List.set_cons_zero, List.set_cons_succ])
                  refine wpAnyH_take (i := 2) (oi := ({ dst := some 62, op := Op.move (Operand.tmp 12), type := 3, pos := "law.go:64", after := #[], guard := none } : Oper)) (v := ?_) rfl (by kernel_rfl) (by kernel_rfl) (by kernel_rfl) (fun _ _ _ h => h) (Or.inl ⟨by rfl, ?_⟩) hS ?_
                  rotate_left
                  · (intro w hSw; (try dsimp only at hSw); go_simp; try with_reducible rfl)
                  (try simp only [Act.put, List.setIfInBounds_toArray, List.set_cons_zero, List.set_cons_succ])
                  refine wpAnyH_take (i := 3) (oi := ({ dst := some 63, op := Op.indexAddr 43 (Operand.tmp 61) (Operand.tmp 62), type := 0, pos := "law.go:64", after := #[{ on := 1, ground := Ground.data }, { on := 2, ground := Ground.data }], guard := none } : Oper)) (v := ?_) rfl (by kernel_rfl) (by kernel_rfl) (by kernel_rfl) (fun _ _ _ h => h) (Or.inl ⟨by rfl, ?_⟩) hS ?_
                  rotate_left
                  · (intro w hSw; (try dsimp only at hSw); go_simp; try with_reducible rfl)
                  (try simp only [Act.put, List.setIfInBounds_toArray, List.set_cons_zero, List.set_cons_succ])
                  refine wpAnyH_take (i := 4) (oi := ({ dst := some 64, op := Op.fieldAddr 47 (Operand.tmp 63) 1, type := 0, pos := "law.go:64", after := #[{ on := 3, ground := Ground.data }], guard := none } : Oper)) (v := ?_) rfl (by kernel_rfl) (by kernel_rfl) (by kernel_rfl) (fun _ _ _ h => h) (Or.inl ⟨by rfl, ?_⟩) hS ?_
                  rotate_left
                  · (intro w hSw; (try dsimp only at hSw); go_simp; try with_reducible rfl)
                  (try simp only [Act.put, List.setIfInBounds_toArray, List.set_cons_zero, List.set_cons_succ])
                  refine wpAnyH_take (i := 5) (oi := ({ dst := some 65, op := Op.load 3 (Operand.tmp 64), type := 3, pos := "law.go:64", after := #[{ on := 4, ground := Ground.data }], guard := none } : Oper)) (v := .int .i64 kd) rfl (by kernel_rfl) (by kernel_rfl) (by kernel_rfl) (fun _ _ _ h => h) (Or.inl ⟨by rfl, ?_⟩) hS ?_
                  · (intro w hSw; (try dsimp only at hSw); have z := hSw.1; go_simp)
                  (try simp only [Act.put, List.setIfInBounds_toArray, List.set_cons_zero, List.set_cons_succ])
                  refine wpAnyH_take (i := 6) (oi := ({ dst := some 66, op := Op.move (Operand.tmp 0), type := 38, pos := "law.go:64", after := #[], guard := none } : Oper)) (v := ?_) rfl (by kernel_rfl) (by kernel_rfl) (by kernel_rfl) (fun _ _ _ h => h) (Or.inl ⟨by rfl, ?_⟩) hS ?_
                  rotate_left
                  · (intro w hSw; (try dsimp only at hSw); go_simp; try with_reducible rfl)
                  (try simp only [Act.put, List.setIfInBounds_toArray, List.set_cons_zero, List.set_cons_succ])
                  refine wpAnyH_take (i := 7) (oi := ({ dst := some 67, op := Op.move (Operand.tmp 7), type := 3, pos := "law.go:64", after := #[], guard := none } : Oper)) (v := ?_) rfl (by kernel_rfl) (by kernel_rfl) (by kernel_rfl) (fun _ _ _ h => h) (Or.inl ⟨by rfl, ?_⟩) hS ?_
                  rotate_left
                  · (intro w hSw; (try dsimp only at hSw); go_simp; try with_reducible rfl)
                  (try simp only [Act.put, List.setIfInBounds_toArray, List.set_cons_zero, List.set_cons_succ])
                  refine wpAnyH_take (i := 8) (oi := ({ dst := some 68, op := Op.indexAddr 38 (Operand.tmp 66) (Operand.tmp 67), type := 0, pos := "law.go:64", after := #[{ on := 6, ground := Ground.data }, { on := 7, ground := Ground.data }], guard := none } : Oper)) (v := ?_) rfl (by kernel_rfl) (by kernel_rfl) (by kernel_rfl) (fun _ _ _ h => h) (Or.inl ⟨by rfl, ?_⟩) hS ?_
                  rotate_left
                  · (intro w hSw; (try dsimp only at hSw); go_simp; try with_reducible rfl)
                  (try simp only [Act.put, List.setIfInBounds_toArray, List.set_cons_zero, List.set_cons_succ])
                  refine wpAnyH_take (i := 9) (oi := ({ dst := some 69, op := Op.load 26 (Operand.tmp 68), type := 26, pos := "law.go:64", after := #[{ on := 8, ground := Ground.data }], guard := none } : Oper)) (v := .slice x sn c) rfl (by kernel_rfl) (by kernel_rfl) (by kernel_rfl) (fun _ _ _ h => h) (Or.inl ⟨by rfl, ?_⟩) hS ?_
                  · (intro w hSw; (try dsimp only at hSw); have z := hSw.2.2.2; go_simp)
                  (try simp only [Act.put, List.setIfInBounds_toArray, List.set_cons_zero, List.set_cons_succ])
                  refine wpAnyH_take (i := 10) (oi := ({ dst := some 70, op := Op.move (Operand.tmp 9), type := 43, pos := "law.go:64", after := #[], guard := none } : Oper)) (v := ?_) rfl (by kernel_rfl) (by kernel_rfl) (by kernel_rfl) (fun _ _ _ h => h) (Or.inl ⟨by rfl, ?_⟩) hS ?_
                  rotate_left
                  · (intro w hSw; (try dsimp only at hSw); go_simp; try with_reducible rfl)
                  (try simp only [Act.put, List.setIfInBounds_toArray, List.set_cons_zero, List.set_cons_succ])
                  refine wpAnyH_take (i := 11) (oi := ({ dst := some 71, op := Op.move (Operand.tmp 12), type := 3, pos := "law.go:64", after := #[], guard := none } : Oper)) (v := ?_) rfl (by kernel_rfl) (by kernel_rfl) (by kernel_rfl) (fun _ _ _ h => h) (Or.inl ⟨by rfl, ?_⟩) hS ?_
                  rotate_left
                  · (intro w hSw; (try dsimp only at hSw); go_simp; try with_reducible rfl)
                  (try simp only [Act.put, List.setIfInBounds_toArray, List.set_cons_zero, List.set_cons_succ])
                  refine wpAnyH_take (i := 12) (oi := ({ dst := some 72, op := Op.indexAddr 43 (Operand.tmp 70) (Operand.tmp 71), type := 0, pos := "law.go:64", after := #[{ on := 10, ground := Ground.data }, { on := 11, ground := Ground.data }], guard := none } : Oper)) (v := ?_) rfl (by kernel_rfl) (by kernel_rfl) (by kernel_rfl) (fun _ _ _ h => h) (Or.inl ⟨by rfl, ?_⟩) hS ?_
                  rotate_left
                  · (intro w hSw; (try dsimp only at hSw); go_simp; try with_reducible rfl)
                  (try simp only [Act.put, List.setIfInBounds_toArray, List.set_cons_zero, List.set_cons_succ])
                  refine wpAnyH_take (i := 13) (oi := ({ dst := some 73, op := Op.fieldAddr 47 (Operand.tmp 72) 2, type := 0, pos := "law.go:64", after := #[{ on := 12, ground := Ground.data }], guard := none } : Oper)) (v := ?_) rfl (by kernel_rfl) (by kernel_rfl) (by kernel_rfl) (fun _ _ _ h => h) (Or.inl ⟨by rfl, ?_⟩) hS ?_
                  rotate_left
                  · (intro w hSw; (try dsimp only at hSw); go_simp; try with_reducible rfl)
                  (try simp only [Act.put, List.setIfInBounds_toArray, List.set_cons_zero, List.set_cons_succ])
                  refine wpAnyH_take (i := 14) (oi := ({ dst := some 74, op := Op.load 3 (Operand.tmp 73), type := 3, pos := "law.go:64", after := #[{ on := 13, ground := Ground.data }], guard := none } : Oper)) (v := .int .i64 (l : Int)) rfl (by kernel_rfl) (by kernel_rfl) (by kernel_rfl) (fun _ _ _ h => h) (Or.inl ⟨by rfl, ?_⟩) hS ?_
                  · (intro w hSw; (try dsimp only at hSw); have z := hSw.2.1; go_simp)
                  (try simp only [Act.put, List.setIfInBounds_toArray, List.set_cons_zero, List.set_cons_succ])
                  refine wpAnyH_take (i := 15) (oi := ({ dst := some 75, op := Op.move (Operand.tmp 9), type := 43, pos := "law.go:64", after := #[], guard := none } : Oper)) (v := ?_) rfl (by kernel_rfl) (by kernel_rfl) (by kernel_rfl) (fun _ _ _ h => h) (Or.inl ⟨by rfl, ?_⟩) hS ?_
                  rotate_left
                  · (intro w hSw; (try dsimp only at hSw); go_simp; try with_reducible rfl)
                  (try simp only [Act.put, List.setIfInBounds_toArray, List.set_cons_zero, List.set_cons_succ])
                  refine wpAnyH_take (i := 16) (oi := ({ dst := some 76, op := Op.move (Operand.tmp 12), type := 3, pos := "law.go:64", after := #[], guard := none } : Oper)) (v := ?_) rfl (by kernel_rfl) (by kernel_rfl) (by kernel_rfl) (fun _ _ _ h => h) (Or.inl ⟨by rfl, ?_⟩) hS ?_
                  rotate_left
                  · (intro w hSw; (try dsimp only at hSw); go_simp; try with_reducible rfl)
                  (try simp only [Act.put, List.setIfInBounds_toArray, List.set_cons_zero, List.set_cons_succ])
                  refine wpAnyH_take (i := 17) (oi := ({ dst := some 77, op := Op.indexAddr 43 (Operand.tmp 75) (Operand.tmp 76), type := 0, pos := "law.go:64", after := #[{ on := 15, ground := Ground.data }, { on := 16, ground := Ground.data }], guard := none } : Oper)) (v := ?_) rfl (by kernel_rfl) (by kernel_rfl) (by kernel_rfl) (fun _ _ _ h => h) (Or.inl ⟨by rfl, ?_⟩) hS ?_
                  rotate_left
                  · (intro w hSw; (try dsimp only at hSw); go_simp; try with_reducible rfl)
                  (try simp only [Act.put, List.setIfInBounds_toArray, List.set_cons_zero, List.set_cons_succ])
                  refine wpAnyH_take (i := 18) (oi := ({ dst := some 78, op := Op.fieldAddr 47 (Operand.tmp 77) 3, type := 0, pos := "law.go:64", after := #[{ on := 17, ground := Ground.data }], guard := none } : Oper)) (v := ?_) rfl (by kernel_rfl) (by kernel_rfl) (by kernel_rfl) (fun _ _ _ h => h) (Or.inl ⟨by rfl, ?_⟩) hS ?_
                  rotate_left
                  · (intro w hSw; (try dsimp only at hSw); go_simp; try with_reducible rfl)
                  (try simp only [Act.put, List.setIfInBounds_toArray, List.set_cons_zero, List.set_cons_succ])
                  refine wpAnyH_take (i := 19) (oi := ({ dst := some 79, op := Op.load 3 (Operand.tmp 78), type := 3, pos := "law.go:64", after := #[{ on := 18, ground := Ground.data }], guard := none } : Oper)) (v := .int .i64 (h : Int)) rfl (by kernel_rfl) (by kernel_rfl) (by kernel_rfl) (fun _ _ _ h => h) (Or.inl ⟨by rfl, ?_⟩) hS ?_
                  · (intro w hSw; (try dsimp only at hSw); have z := hSw.2.2.1; go_simp)
                  (try simp only [Act.put, List.setIfInBounds_toArray, List.set_cons_zero, List.set_cons_succ])
                  refine wpAnyH_take (i := 20) (oi := ({ dst := some 80, op := Op.slice 26 (Operand.tmp 69) (some (Operand.tmp 74)) (some (Operand.tmp 79)) none, type := 26, pos := "law.go:64", after := #[{ on := 9, ground := Ground.data }, { on := 14, ground := Ground.data }, { on := 19, ground := Ground.data }], guard := none } : Oper)) (v := .slice sp d sc) rfl (by kernel_rfl) (by kernel_rfl) (by kernel_rfl) (fun _ _ _ h => h) (Or.inl ⟨by rfl, ?_⟩) hS ?_
                  · (intro w hSw; (try dsimp only at hSw); exact (exec_cut_lh (.tmp 69) (.tmp 74) (.tmp 79) rfl x sn c l d rfl rfl (by rw [HH.out]; rfl) HDC.out.1).trans (by rw [HSL.out]))
                  (try simp only [Act.put, List.setIfInBounds_toArray, List.set_cons_zero, List.set_cons_succ])
                  refine wpAnyH_take (i := 21) (oi := ({ dst := some 81, op := Op.build 34 #[(0, Operand.tmp 65), (2, Operand.tmp 80)], type := 34, pos := "law.go:64", after := #[{ on := 5, ground := Ground.data }, { on := 20, ground := Ground.data }], guard := none } : Oper)) (v := .agg #[.int .i64 kd, .int .u32 0, .slice sp d sc]) rfl (by kernel_rfl) (by kernel_rfl) (by kernel_rfl) (fun _ _ _ h => h) (Or.inl ⟨by rfl, ?_⟩) hS ?_
                  · (intro w hSw; (try dsimp only at hSw); go_simp)
                  (try simp only [Act.put, List.setIfInBounds_toArray, List.set_cons_zero, List.set_cons_succ])
                  refine rg_one 22 ({ dst := some 82, op := Op.buildSlice 22 1 #[(0, Operand.tmp 81)], type := 22, pos := "law.go:64", after := #[{ on := 21, ground := Ground.data }], guard := none } : Oper) (by kernel_rfl) rfl (fun K hK => ?_)
                  go_simp
                  (obtain ⟨w7, hw7⟩ : ∃ q, (World.alloc wi (.cells (fA kd 0 (.slice sp d sc)) 34)).drew = q := ⟨_, rfl⟩; rw [hw7]; have hb7 : Below wi.heap.size wi w7 := hw7 ▸ bdrew0 wi _; have HL7 : Hid (w7.heap[wi.heap.size]? = some (.cells (fA kd 0 (.slice sp d sc)) 34 (0, 0))) := Lib.hid (by rw [← hw7]; exact heap_alloc_last wi _); have HB7 := Lib.hid (bch HB3.out hb7); have HFW7 := Lib.hid (HFW3.out.keep hb7); have HWR7 := Lib.hid (HWR3.out.keep hb7); have HP7 := Lib.hid (own_keep HP3.out hb7); have hN := (⟨cell_keep hb7 HCL.out.1, cell_keep hb7 HCL.out.2.1, cell_keep hb7 HCL.out.2.2.1, cell_keep hb7 HCL.out.2.2.2⟩ : w7.cell? ⟨pb, po + j * 4 + 1, none⟩ = some (.int .i64 kd) ∧ w7.cell? ⟨pb, po + j * 4 + 2, none⟩ = some (.int .i64 (l : Int)) ∧ w7.cell? ⟨pb, po + j * 4 + 3, none⟩ = some (.int .i64 (h : Int)) ∧ w7.cell? ⟨lb, lo + i, none⟩ = some (.slice x sn c)); clear hb7 hw7)
                  refine hK.out _ _ ?_ (fun hS1 => ?_)
                  · (exact hN)
                  clear hK K hS; have hS := hS1; clear hS1
                  (try simp only [Act.put, List.setIfInBounds_toArray, List.set_cons_zero, List.set_cons_succ])
                  refine rg_one 23 ({ dst := some 83, op := Op.call { callee := Callee.builtin Builtin.append, args := #[Operand.tmp 60, Operand.tmp 82], argTypes := #[22, 22] }, type := 22, pos := "law.go:64", after := #[{ on := 0, ground := Ground.data }, { on := 22, ground := Ground.data }], guard := none } : Oper) (by kernel_rfl) rfl (fun K hK => ?_)
                  (rw [if_pos (by rfl)]; refine wp_app_fw (.tmp 60) (.tmp 82) rfl rfl HFW7.out wi.heap.size (⟨kd, 0, (zs.drop l).take d⟩, .slice sp d sc) d sc sp rfl rfl HL7.out (by rw [show ((zs.drop l).take d).length = d from by rw [List.length_take, List.length_drop]; have := HSN.out; have := HDC.out.2; omega]; exact HRC.out) (by omega) HB7.out.size ?_; intro v8 w8 HFW8 HQ8; obtain ⟨a8, c8, rfl⟩ := own_form HFW8.out.row; have HB8 := Lib.hid (HFW7.out.below HQ8.out HB7.out (Nat.le_refl _)); have HP8 := Lib.hid (HFW7.out.other HQ8.out HP7.out (by decide)); have HWR8 : Hid (WR W.heap.size W w8 (.slice ua k uc) k ws) := Lib.hid ⟨HFW7.out.other HQ8.out HWR7.out.row (by decide), HWR7.out.data⟩; clear hN; have hN := (let z := own_piece HP8.out j _ HCI.out; (⟨z.1, z.2.1, z.2.2, cell_keep HB8.out HC0.out⟩ : w8.cell? ⟨pb, po + j * 4 + 1, none⟩ = some (.int .i64 kd) ∧ w8.cell? ⟨pb, po + j * 4 + 2, none⟩ = some (.int .i64 (l : Int)) ∧ w8.cell? ⟨pb, po + j * 4 + 3, none⟩ = some (.int .i64 (h : Int)) ∧ w8.cell? ⟨lb, lo + i, none⟩ = some (.slice x sn c))))
                  refine hK.out _ _ ?_ (fun hS1 => ?_)
                  · (exact hN)
                  clear hK K hS; have hS := hS1; clear hS1
                  (try simp only [Act.put, List.setIfInBounds_toArray, List.set_cons_zero, List.set_cons_succ])
                  refine wpAnyH_take (i := 24) (oi := ({ dst := some 5, op := Op.assign (Operand.tmp 83), type := 22, pos := "law.go:64", after := #[{ on := 23, ground := Ground.data }, { on := 23, ground := Ground.chain }, { on := 0, ground := Ground.phase }, { on := 1, ground := Ground.phase }, { on := 2, ground := Ground.phase }, { on := 3, ground := Ground.phase }, { on := 4, ground := Ground.phase }, { on := 5, ground := Ground.phase }, { on := 6, ground := Ground.phase }, { on := 7, ground := Ground.phase }, { on := 8, ground := Ground.phase }, { on := 9, ground := Ground.phase }, { on := 10, ground := Ground.phase }, { on := 11, ground := Ground.phase }, { on := 12, ground := Ground.phase }, { on := 13, ground := Ground.phase }, { on := 14, ground := Ground.phase }, { on := 15, ground := Ground.phase }, { on := 16, ground := Ground.phase }, { on := 17, ground := Ground.phase }, { on := 18, ground := Ground.phase }, { on := 19, ground := Ground.phase }, { on := 20, ground := Ground.phase }, { on := 21, ground := Ground.phase }, { on := 22, ground := Ground.phase }, { on := 23, ground := Ground.phase }], guard := none } : Oper)) (v := ?_) rfl (by kernel_rfl) (by kernel_rfl) (by kernel_rfl) (fun _ _ _ h => h) (Or.inl ⟨by rfl, ?_⟩) hS ?_
                  rotate_left
                  · (intro w hSw; (try dsimp only at hSw); go_simp; try with_reducible rfl)
                  (try simp only [Act.put, List.setIfInBounds_toArray, List.set_cons_zero, List.set_cons_succ])
                  refine wpAnyH_done (by kernel_rfl) ?_ _
                  clear hS hN
                  go_wp2
                  go_roundw
                  case rel =>
                    refine ⟨j + 1, a8, c8, _, by go_num, rfl, by omega, HFW8, HWR8, Lib.hid ?_, HP8, HB8⟩
                    rw [List.map_append, HES3.out, List.take_add_one, HCI.out, List.map_append, List.append_assoc]
                    simp [HFD.out]
                  case measure => simp [intOf]; omega
                · obtain rfl : j = q := by omega
                  have hcl3 := cell_keep HB3.out HC0.out
                  go_wp2_with (first
                    | (at_builtin; go_loud (refine wpl_app_wr rfl (.tmp 84) (.tmp 89) rfl rfl (HWR3.out.keep (balloc wi _)) wi.heap.size (zs, .slice x sn c) rfl (heap_alloc_last wi _) (by rw [HSN.out]; exact HZ.out) (by omega) (bch HB3.out (balloc wi _)).size ?_); intro v9 w9 HWR9 HQ9; obtain ⟨a9, c9, rfl⟩ := own_form HWR9.out.row; have HB9 := Lib.hid ((HWR3.out.keep (balloc wi (.cells #[.slice x sn c] 26))).below HQ9.out (bch HB3.out (balloc wi _)) (Nat.le_refl _)); have HFW9 : Hid (FW W.heap.size W w9 (.slice fa (m + j) fc) (m + j) es2) := Lib.hid ⟨(HWR3.out.keep (balloc wi (.cells #[.slice x sn c] 26))).other HQ9.out (own_keep HFW3.out.row (balloc wi _)) (by decide), HFW3.out.data⟩))
                  go_roundw
                  case rel =>
                    refine ⟨i + 1, m + j, k + 1, fa, fc, a9, c9, es2, _, by go_num, rfl, rfl, by omega, by omega, by omega, HFW9, HWR9, Lib.hid ?_, Lib.hid ?_, HB9⟩
                    · intro y hy
                      rcases List.mem_append.1 hy with hy | hy
                      · exact HWB.out y hy
                      · obtain rfl : y = _ := by simpa using hy
                        exact HBZ.out
                    · intro r
                      rw [HES3.out, List.take_of_length_le (Nat.le_of_eq HPQ.out), List.append_assoc, HINV.out, HBK2.out, List.map_append]
                      rfl
                  case measure => simp [intOf]; omega
        · clear HAT HA63
          cases fit with
          | false =>
            clear HBK HPC
            go_wp2_with (first
              | (go_at_call 14; (with_reducible refine (HCUT.out _).mono ?_); rintro e w2 ⟨v2, rfl, ho, hb⟩; have HFW2 := Lib.hid (HFW.out.keep hb); have HWR2 := Lib.hid (HWR.out.keep hb); have HB2 := Lib.hid (bch HB.out hb); clear ho hb))
            go_roundw
            case rel => exact ⟨i + 1, m, k, va, vc, ua, uc, es, ws, by go_num, rfl, rfl, by omega, by omega, by omega, HFW2, HWR2, HWB, HINV, HB2⟩
            case measure => simp [intOf]; omega
          | true =>
            by_cases hlong : (sn : Int) > 512
            · clear HBK HPC
              go_wp2_with (first
                | (go_at_call 14; (with_reducible refine (HCUT.out _).mono ?_); rintro e w2 ⟨v2, rfl, ho, hb⟩; have HFW2 := Lib.hid (HFW.out.keep hb); have HWR2 := Lib.hid (HWR.out.keep hb); have HB2 := Lib.hid (bch HB.out hb); have hcl2 := cell_keep HB2.out HC0.out; clear ho hb))
              go_roundw
              case rel => exact ⟨i + 1, m, k, va, vc, ua, uc, es, ws, by go_num, rfl, rfl, by omega, by omega, by omega, HFW2, HWR2, HWB, HINV, HB2⟩
              case measure => simp [intOf]; omega
            · have HBK2 := Lib.hid (HBK.out rfl (by omega))
              clear HBK
              go_wp2_with (first
                | (go_at_call 14; (with_reducible refine (HCUT.out _).mono ?_); rintro e w2 ⟨v2, rfl, ho, hb⟩; obtain ⟨p2, c2, rfl⟩ := own_form ho; have HP2 := Lib.hid (own_mono ho HB.out.size); have HFW2 := Lib.hid (HFW.out.keep hb); have HWR2 := Lib.hid (HWR.out.keep hb); have HB2 := Lib.hid (bch HB.out hb); have hcl2 := cell_keep HB2.out HC0.out; clear ho hb))
              go_loopw [5, 12] (fun fv jv wr => ∃ (j : Nat) (fa : Option Addr) (fc : Nat) (es2 : List (FR × Value)), jv = .int .i64 (j : Int) ∧ fv = .slice fa (m + j) fc ∧ j ≤ q ∧ Hid (FW W.heap.size W wr (.slice fa (m + j) fc) (m + j) es2) ∧ Hid (WR W.heap.size W wr (.slice ua k uc) k ws) ∧ Hid (es2.map Prod.fst = es.map Prod.fst ++ (ps.take j).map (frOf 0 zs)) ∧ Hid (wr.ownsRow W.heap.size 47 4 (.slice p2 q c2) q (pF ps)) ∧ Hid (Below W.heap.size W wr)) (fun _ jv _ => q - (intOf jv).toNat)
              case atStart => exact ⟨0, va, vc, es, rfl, rfl, by omega, HFW2, HWR2, Lib.hid (by simp), HP2, HB2⟩
              case round =>
                rename World => wi
                obtain ⟨j, fa, fc, es2, rfl, rfl, hjq, HFW3, HWR3, HES3, HP3, HB3⟩ := hrel
                by_cases hltj : (j : Int) < (q : Int)
                · have hci : ps[j]? = some (ps[j]'(by have := HPQ.out; omega)) := List.getElem?_eq_getElem _
                  obtain ⟨pc, hpc⟩ : ∃ c, ps[j]'(by have := HPQ.out; omega) = c := ⟨_, rfl⟩
                  rw [hpc] at hci
                  have HCI := Lib.hid hci
                  obtain ⟨l, d, hl, hd, hdn, hd8⟩ := HPC.out j pc hci
                  have HFD := Lib.hid (frOf_data (ep := 0) (zs := zs) hl hd)
                  obtain ⟨pb, po, rfl⟩ : ∃ b o, p2 = some ⟨b, o, none⟩ := by
                    have hps : PS wi (.slice p2 q c2) ps := PS.own (by rw [HPQ.out]; exact HP3.out)
                    obtain ⟨b, o, e, _⟩ := hps.at_ j pc hci
                    exact ⟨b, o, e⟩
                  obtain ⟨h1, h2, h3⟩ := own_piece HP3.out j pc hci
                  obtain ⟨qa, kd, cf, ct⟩ := pc
                  obtain rfl : cf = (l : Int) := hl
                  obtain ⟨h, hh⟩ : ∃ h, l + d = h := ⟨_, rfl⟩
                  have HH := Lib.hid hh
                  rw [hh] at hd hdn hd8
                  obtain rfl : ct = (h : Int) := hd
                  have hln : (l : Int) ≤ h := by omega
                  obtain ⟨sp, sc, hsl2⟩ := sliced_form x l d c 1
                  have HDC : Hid (l + d ≤ c ∧ l + d ≤ sn) := Lib.hid (by omega)
                  have HRC := Lib.hid (HZ.out.cut l d c HDC.out.2 HDC.out.1 (Nat.le_refl _))
                  rw [hsl2] at HRC
                  have HSL := Lib.hid hsl2
                  have hcl3 := cell_keep HB3.out HC0.out
                  have HCS := Lib.hid (And.intro h1 (And.intro h2 (And.intro h3 hcl3)))
                  have HCL := Lib.hid (And.intro h1 (And.intro h2 (And.intro h3 hcl3)))
                  clear hci hpc h1 h2 h3 hsl2 hh hcl2 hcl3
                  go_wp2_with fail
                  refine wp_region_held_drew (S := (fun w' => w'.cell? ⟨pb, po + j * 4 + 1, none⟩ = some (.int .i64 kd) ∧ w'.cell? ⟨pb, po + j * 4 + 2, none⟩ = some (.int .i64 (l : Int)) ∧ w'.cell? ⟨pb, po + j * 4 + 3, none⟩ = some (.int .i64 (h : Int)) ∧ w'.cell? ⟨lb, lo + i, none⟩ = some (.slice x sn c))) (by kernel_rfl) (let hb := (Below.refl wi.heap.size wi).drew; ⟨cell_keep hb HCL.out.1, cell_keep hb HCL.out.2.1, cell_keep hb HCL.out.2.2.1, cell_keep hb HCL.out.2.2.2⟩) (fun hS => ?_)
                  refine wpAnyH_take (i := 0) (oi := ({ dst := some 60, op := Op.move (Operand.tmp 5), type := 22, pos := "law.go:64", after := #[], guard := none } : Oper)) (v := ?_) rfl (by kernel_rfl) (by kernel_rfl) (by kernel_rfl) (fun _ _ _ h => h) (Or.inl ⟨by rfl, ?_⟩) hS ?_
                  rotate_left
                  · (intro w hSw; (try dsimp only at hSw); go_simp; try with_reducible rfl)
                  (try simp only [Act.put, List.setIfInBounds_toArray, List.set_cons_zero, List.set_cons_succ])
                  refine wpAnyH_take (i := 1) (oi := ({ dst := some 61, op := Op.move (Operand.tmp 9), type := 43, pos := "law.go:64", after := #[], guard := none } : Oper)) (v := ?_) rfl (by kernel_rfl) (by kernel_rfl) (by kernel_rfl) (fun _ _ _ h => h) (Or.inl ⟨by rfl, ?_⟩) hS ?_
                  rotate_left
                  · (intro w hSw; (try dsimp only at hSw); go_simp; try with_reducible rfl)
                  (try simp only [Act.put, List.setIfInBounds_toArray, List.set_cons_zero, List.set_cons_succ])
                  refine wpAnyH_take (i := 2) (oi := ({ dst := some 62, op := Op.move (Operand.tmp 12), type := 3, pos := "law.go:64", after := #[], guard := none } : Oper)) (v := ?_) rfl (by kernel_rfl) (by kernel_rfl) (by kernel_rfl) (fun _ _ _ h => h) (Or.inl ⟨by rfl, ?_⟩) hS ?_
                  rotate_left
                  · (intro w hSw; (try dsimp only at hSw); go_simp; try with_reducible rfl)
                  (try simp only [Act.put, List.setIfInBounds_toArray, List.set_cons_zero, List.set_cons_succ])
                  refine wpAnyH_take (i := 3) (oi := ({ dst := some 63, op := Op.indexAddr 43 (Operand.tmp 61) (Operand.tmp 62), type := 0, pos := "law.go:64", after := #[{ on := 1, ground := Ground.data }, { on := 2, ground := Ground.data }], guard := none } : Oper)) (v := ?_) rfl (by kernel_rfl) (by kernel_rfl) (by kernel_rfl) (fun _ _ _ h => h) (Or.inl ⟨by rfl, ?_⟩) hS ?_
                  rotate_left
                  · (intro w hSw; (try dsimp only at hSw); go_simp; try with_reducible rfl)
                  (try simp only [Act.put, List.setIfInBounds_toArray, List.set_cons_zero, List.set_cons_succ])
                  refine wpAnyH_take (i := 4) (oi := ({ dst := some 64, op := Op.fieldAddr 47 (Operand.tmp 63) 1, type := 0, pos := "law.go:64", after := #[{ on := 3, ground := Ground.data }], guard := none } : Oper)) (v := ?_) rfl (by kernel_rfl) (by kernel_rfl) (by kernel_rfl) (fun _ _ _ h => h) (Or.inl ⟨by rfl, ?_⟩) hS ?_
                  rotate_left
                  · (intro w hSw; (try dsimp only at hSw); go_simp; try with_reducible rfl)
                  (try simp only [Act.put, List.setIfInBounds_toArray, List.set_cons_zero, List.set_cons_succ])
                  refine wpAnyH_take (i := 5) (oi := ({ dst := some 65, op := Op.load 3 (Operand.tmp 64), type := 3, pos := "law.go:64", after := #[{ on := 4, ground := Ground.data }], guard := none } : Oper)) (v := .int .i64 kd) rfl (by kernel_rfl) (by kernel_rfl) (by kernel_rfl) (fun _ _ _ h => h) (Or.inl ⟨by rfl, ?_⟩) hS ?_
                  · (intro w hSw; (try dsimp only at hSw); have z := hSw.1; go_simp)
                  (try simp only [Act.put, List.setIfInBounds_toArray, List.set_cons_zero, List.set_cons_succ])
                  refine wpAnyH_take (i := 6) (oi := ({ dst := some 66, op := Op.move (Operand.tmp 0), type := 38, pos := "law.go:64", after := #[], guard := none } : Oper)) (v := ?_) rfl (by kernel_rfl) (by kernel_rfl) (by kernel_rfl) (fun _ _ _ h => h) (Or.inl ⟨by rfl, ?_⟩) hS ?_
                  rotate_left
                  · (intro w hSw; (try dsimp only at hSw); go_simp; try with_reducible rfl)
                  (try simp only [Act.put, List.setIfInBounds_toArray, List.set_cons_zero, List.set_cons_succ])
                  refine wpAnyH_take (i := 7) (oi := ({ dst := some 67, op := Op.move (Operand.tmp 7), type := 3, pos := "law.go:64", after := #[], guard := none } : Oper)) (v := ?_) rfl (by kernel_rfl) (by kernel_rfl) (by kernel_rfl) (fun _ _ _ h => h) (Or.inl ⟨by rfl, ?_⟩) hS ?_
                  rotate_left
                  · (intro w hSw; (try dsimp only at hSw); go_simp; try with_reducible rfl)
                  (try simp only [Act.put, List.setIfInBounds_toArray, List.set_cons_zero, List.set_cons_succ])
                  refine wpAnyH_take (i := 8) (oi := ({ dst := some 68, op := Op.indexAddr 38 (Operand.tmp 66) (Operand.tmp 67), type := 0, pos := "law.go:64", after := #[{ on := 6, ground := Ground.data }, { on := 7, ground := Ground.data }], guard := none } : Oper)) (v := ?_) rfl (by kernel_rfl) (by kernel_rfl) (by kernel_rfl) (fun _ _ _ h => h) (Or.inl ⟨by rfl, ?_⟩) hS ?_
                  rotate_left
                  · (intro w hSw; (try dsimp only at hSw); go_simp; try with_reducible rfl)
                  (try simp only [Act.put, List.setIfInBounds_toArray, List.set_cons_zero, List.set_cons_succ])
                  refine wpAnyH_take (i := 9) (oi := ({ dst := some 69, op := Op.load 26 (Operand.tmp 68), type := 26, pos := "law.go:64", after := #[{ on := 8, ground := Ground.data }], guard := none } : Oper)) (v := .slice x sn c) rfl (by kernel_rfl) (by kernel_rfl) (by kernel_rfl) (fun _ _ _ h => h) (Or.inl ⟨by rfl, ?_⟩) hS ?_
                  · (intro w hSw; (try dsimp only at hSw); have z := hSw.2.2.2; go_simp)
                  (try simp only [Act.put, List.setIfInBounds_toArray, List.set_cons_zero, List.set_cons_succ])
                  refine wpAnyH_take (i := 10) (oi := ({ dst := some 70, op := Op.move (Operand.tmp 9), type := 43, pos := "law.go:64", after := #[], guard := none } : Oper)) (v := ?_) rfl (by kernel_rfl) (by kernel_rfl) (by kernel_rfl) (fun _ _ _ h => h) (Or.inl ⟨by rfl, ?_⟩) hS ?_
                  rotate_left
                  · (intro w hSw; (try dsimp only at hSw); go_simp; try with_reducible rfl)
                  (try simp only [Act.put, List.setIfInBounds_toArray, List.set_cons_zero, List.set_cons_succ])
                  refine wpAnyH_take (i := 11) (oi := ({ dst := some 71, op := Op.move (Operand.tmp 12), type := 3, pos := "law.go:64", after := #[], guard := none } : Oper)) (v := ?_) rfl (by kernel_rfl) (by kernel_rfl) (by kernel_rfl) (fun _ _ _ h => h) (Or.inl ⟨by rfl, ?_⟩) hS ?_
                  rotate_left
                  · (intro w hSw; (try dsimp only at hSw); go_simp; try with_reducible rfl)
                  (try simp only [Act.put, List.setIfInBounds_toArray, List.set_cons_zero, List.set_cons_succ])
                  refine wpAnyH_take (i := 12) (oi := ({ dst := some 72, op := Op.indexAddr 43 (Operand.tmp 70) (Operand.tmp 71), type := 0, pos := "law.go:64", after := #[{ on := 10, ground := Ground.data }, { on := 11, ground := Ground.data }], guard := none } : Oper)) (v := ?_) rfl (by kernel_rfl) (by kernel_rfl) (by kernel_rfl) (fun _ _ _ h => h) (Or.inl ⟨by rfl, ?_⟩) hS ?_
                  rotate_left
                  · (intro w hSw; (try dsimp only at hSw); go_simp; try with_reducible rfl)
                  (try simp only [Act.put, List.setIfInBounds_toArray, List.set_cons_zero, List.set_cons_succ])
                  refine wpAnyH_take (i := 13) (oi := ({ dst := some 73, op := Op.fieldAddr 47 (Operand.tmp 72) 2, type := 0, pos := "law.go:64", after := #[{ on := 12, ground := Ground.data }], guard := none } : Oper)) (v := ?_) rfl (by kernel_rfl) (by kernel_rfl) (by kernel_rfl) (fun _ _ _ h => h) (Or.inl ⟨by rfl, ?_⟩) hS ?_
                  rotate_left
                  · (intro w hSw; (try dsimp only at hSw); go_simp; try with_reducible rfl)
                  (try simp only [Act.put, List.setIfInBounds_toArray, List.set_cons_zero, List.set_cons_succ])
                  refine wpAnyH_take (i := 14) (oi := ({ dst := some 74, op := Op.load 3 (Operand.tmp 73), type := 3, pos := "law.go:64", after := #[{ on := 13, ground := Ground.data }], guard := none } : Oper)) (v := .int .i64 (l : Int)) rfl (by kernel_rfl) (by kernel_rfl) (by kernel_rfl) (fun _ _ _ h => h) (Or.inl ⟨by rfl, ?_⟩) hS ?_
                  · (intro w hSw; (try dsimp only at hSw); have z := hSw.2.1; go_simp)
                  (try simp only [Act.put, List.setIfInBounds_toArray, List.set_cons_zero, List.set_cons_succ])
                  refine wpAnyH_take (i := 15) (oi := ({ dst := some 75, op := Op.move (Operand.tmp 9), type := 43, pos := "law.go:64", after := #[], guard := none } : Oper)) (v := ?_) rfl (by kernel_rfl) (by kernel_rfl) (by kernel_rfl) (fun _ _ _ h => h) (Or.inl ⟨by rfl, ?_⟩) hS ?_
                  rotate_left
                  · (intro w hSw; (try dsimp only at hSw); go_simp; try with_reducible rfl)
                  (try simp only [Act.put, List.setIfInBounds_toArray, List.set_cons_zero, List.set_cons_succ])
                  refine wpAnyH_take (i := 16) (oi := ({ dst := some 76, op := Op.move (Operand.tmp 12), type := 3, pos := "law.go:64", after := #[], guard := none } : Oper)) (v := ?_) rfl (by kernel_rfl) (by kernel_rfl) (by kernel_rfl) (fun _ _ _ h => h) (Or.inl ⟨by rfl, ?_⟩) hS ?_
                  rotate_left
                  · (intro w hSw; (try dsimp only at hSw); go_simp; try with_reducible rfl)
                  (try simp only [Act.put, List.setIfInBounds_toArray, List.set_cons_zero, List.set_cons_succ])
                  refine wpAnyH_take (i := 17) (oi := ({ dst := some 77, op := Op.indexAddr 43 (Operand.tmp 75) (Operand.tmp 76), type := 0, pos := "law.go:64", after := #[{ on := 15, ground := Ground.data }, { on := 16, ground := Ground.data }], guard := none } : Oper)) (v := ?_) rfl (by kernel_rfl) (by kernel_rfl) (by kernel_rfl) (fun _ _ _ h => h) (Or.inl ⟨by rfl, ?_⟩) hS ?_
                  rotate_left
                  · (intro w hSw; (try dsimp only at hSw); go_simp; try with_reducible rfl)
                  (try simp only [Act.put, List.setIfInBounds_toArray, List.set_cons_zero, List.set_cons_succ])
                  refine wpAnyH_take (i := 18) (oi := ({ dst := some 78, op := Op.fieldAddr 47 (Operand.tmp 77) 3, type := 0, pos := "law.go:64", after := #[{ on := 17, ground := Ground.data }], guard := none } : Oper)) (v := ?_) rfl (by kernel_rfl) (by kernel_rfl) (by kernel_rfl) (fun _ _ _ h => h) (Or.inl ⟨by rfl, ?_⟩) hS ?_
                  rotate_left
                  · (intro w hSw; (try dsimp only at hSw); go_simp; try with_reducible rfl)
                  (try simp only [Act.put, List.setIfInBounds_toArray, List.set_cons_zero, List.set_cons_succ])
                  refine wpAnyH_take (i := 19) (oi := ({ dst := some 79, op := Op.load 3 (Operand.tmp 78), type := 3, pos := "law.go:64", after := #[{ on := 18, ground := Ground.data }], guard := none } : Oper)) (v := .int .i64 (h : Int)) rfl (by kernel_rfl) (by kernel_rfl) (by kernel_rfl) (fun _ _ _ h => h) (Or.inl ⟨by rfl, ?_⟩) hS ?_
                  · (intro w hSw; (try dsimp only at hSw); have z := hSw.2.2.1; go_simp)
                  (try simp only [Act.put, List.setIfInBounds_toArray, List.set_cons_zero, List.set_cons_succ])
                  refine wpAnyH_take (i := 20) (oi := ({ dst := some 80, op := Op.slice 26 (Operand.tmp 69) (some (Operand.tmp 74)) (some (Operand.tmp 79)) none, type := 26, pos := "law.go:64", after := #[{ on := 9, ground := Ground.data }, { on := 14, ground := Ground.data }, { on := 19, ground := Ground.data }], guard := none } : Oper)) (v := .slice sp d sc) rfl (by kernel_rfl) (by kernel_rfl) (by kernel_rfl) (fun _ _ _ h => h) (Or.inl ⟨by rfl, ?_⟩) hS ?_
                  · (intro w hSw; (try dsimp only at hSw); exact (exec_cut_lh (.tmp 69) (.tmp 74) (.tmp 79) rfl x sn c l d rfl rfl (by rw [HH.out]; rfl) HDC.out.1).trans (by rw [HSL.out]))
                  (try simp only [Act.put, List.setIfInBounds_toArray, List.set_cons_zero, List.set_cons_succ])
                  refine wpAnyH_take (i := 21) (oi := ({ dst := some 81, op := Op.build 34 #[(0, Operand.tmp 65), (2, Operand.tmp 80)], type := 34, pos := "law.go:64", after := #[{ on := 5, ground := Ground.data }, { on := 20, ground := Ground.data }], guard := none } : Oper)) (v := .agg #[.int .i64 kd, .int .u32 0, .slice sp d sc]) rfl (by kernel_rfl) (by kernel_rfl) (by kernel_rfl) (fun _ _ _ h => h) (Or.inl ⟨by rfl, ?_⟩) hS ?_
                  · (intro w hSw; (try dsimp only at hSw); go_simp)
                  (try simp only [Act.put, List.setIfInBounds_toArray, List.set_cons_zero, List.set_cons_succ])
                  refine rg_one 22 ({ dst := some 82, op := Op.buildSlice 22 1 #[(0, Operand.tmp 81)], type := 22, pos := "law.go:64", after := #[{ on := 21, ground := Ground.data }], guard := none } : Oper) (by kernel_rfl) rfl (fun K hK => ?_)
                  go_simp
                  (obtain ⟨w7, hw7⟩ : ∃ q, (World.alloc wi (.cells (fA kd 0 (.slice sp d sc)) 34)).drew = q := ⟨_, rfl⟩; rw [hw7]; have hb7 : Below wi.heap.size wi w7 := hw7 ▸ bdrew0 wi _; have HL7 : Hid (w7.heap[wi.heap.size]? = some (.cells (fA kd 0 (.slice sp d sc)) 34 (0, 0))) := Lib.hid (by rw [← hw7]; exact heap_alloc_last wi _); have HB7 := Lib.hid (bch HB3.out hb7); have HFW7 := Lib.hid (HFW3.out.keep hb7); have HWR7 := Lib.hid (HWR3.out.keep hb7); have HP7 := Lib.hid (own_keep HP3.out hb7); have hN := (⟨cell_keep hb7 HCL.out.1, cell_keep hb7 HCL.out.2.1, cell_keep hb7 HCL.out.2.2.1, cell_keep hb7 HCL.out.2.2.2⟩ : w7.cell? ⟨pb, po + j * 4 + 1, none⟩ = some (.int .i64 kd) ∧ w7.cell? ⟨pb, po + j * 4 + 2, none⟩ = some (.int .i64 (l : Int)) ∧ w7.cell? ⟨pb, po + j * 4 + 3, none⟩ = some (.int .i64 (h : Int)) ∧ w7.cell? ⟨lb, lo + i, none⟩ = some (.slice x sn c)); clear hb7 hw7)
                  refine hK.out _ _ ?_ (fun hS1 => ?_)
                  · (exact hN)
                  clear hK K hS; have hS := hS1; clear hS1
                  (try simp only [Act.put, List.setIfInBounds_toArray, List.set_cons_zero, List.set_cons_succ])
                  refine rg_one 23 ({ dst := some 83, op := Op.call { callee := Callee.builtin Builtin.append, args := #[Operand.tmp 60, Operand.tmp 82], argTypes := #[22, 22] }, type := 22, pos := "law.go:64", after := #[{ on := 0, ground := Ground.data }, { on := 22, ground := Ground.data }], guard := none } : Oper) (by kernel_rfl) rfl (fun K hK => ?_)
                  (rw [if_pos (by rfl)]; refine wp_app_fw (.tmp 60) (.tmp 82) rfl rfl HFW7.out wi.heap.size (⟨kd, 0, (zs.drop l).take d⟩, .slice sp d sc) d sc sp rfl rfl HL7.out (by rw [show ((zs.drop l).take d).length = d from by rw [List.length_take, List.length_drop]; have := HSN.out; have := HDC.out.2; omega]; exact HRC.out) (by omega) HB7.out.size ?_; intro v8 w8 HFW8 HQ8; obtain ⟨a8, c8, rfl⟩ := own_form HFW8.out.row; have HB8 := Lib.hid (HFW7.out.below HQ8.out HB7.out (Nat.le_refl _)); have HP8 := Lib.hid (HFW7.out.other HQ8.out HP7.out (by decide)); have HWR8 : Hid (WR W.heap.size W w8 (.slice ua k uc) k ws) := Lib.hid ⟨HFW7.out.other HQ8.out HWR7.out.row (by decide), HWR7.out.data⟩; clear hN; have hN := (let z := own_piece HP8.out j _ HCI.out; (⟨z.1, z.2.1, z.2.2, cell_keep HB8.out HC0.out⟩ : w8.cell? ⟨pb, po + j * 4 + 1, none⟩ = some (.int .i64 kd) ∧ w8.cell? ⟨pb, po + j * 4 + 2, none⟩ = some (.int .i64 (l : Int)) ∧ w8.cell? ⟨pb, po + j * 4 + 3, none⟩ = some (.int .i64 (h : Int)) ∧ w8.cell? ⟨lb, lo + i, none⟩ = some (.slice x sn c))))
                  refine hK.out _ _ ?_ (fun hS1 => ?_)
                  · (exact hN)
                  clear hK K hS; have hS := hS1; clear hS1
                  (try simp only [Act.put, List.setIfInBounds_toArray, List.set_cons_zero, List.set_cons_succ])
                  refine wpAnyH_take (i := 24) (oi := ({ dst := some 5, op := Op.assign (Operand.tmp 83), type := 22, pos := "law.go:64", after := #[{ on := 23, ground := Ground.data }, { on := 23, ground := Ground.chain }, { on := 0, ground := Ground.phase }, { on := 1, ground := Ground.phase }, { on := 2, ground := Ground.phase }, { on := 3, ground := Ground.phase }, { on := 4, ground := Ground.phase }, { on := 5, ground := Ground.phase }, { on := 6, ground := Ground.phase }, { on := 7, ground := Ground.phase }, { on := 8, ground := Ground.phase }, { on := 9, ground := Ground.phase }, { on := 10, ground := Ground.phase }, { on := 11, ground := Ground.phase }, { on := 12, ground := Ground.phase }, { on := 13, ground := Ground.phase }, { on := 14, ground := Ground.phase }, { on := 15, ground := Ground.phase }, { on := 16, ground := Ground.phase }, { on := 17, ground := Ground.phase }, { on := 18, ground := Ground.phase }, { on := 19, ground := Ground.phase }, { on := 20, ground := Ground.phase }, { on := 21, ground := Ground.phase }, { on := 22, ground := Ground.phase }, { on := 23, ground := Ground.phase }], guard := none } : Oper)) (v := ?_) rfl (by kernel_rfl) (by kernel_rfl) (by kernel_rfl) (fun _ _ _ h => h) (Or.inl ⟨by rfl, ?_⟩) hS ?_
                  rotate_left
                  · (intro w hSw; (try dsimp only at hSw); go_simp; try with_reducible rfl)
                  (try simp only [Act.put, List.setIfInBounds_toArray, List.set_cons_zero, List.set_cons_succ])
                  refine wpAnyH_done (by kernel_rfl) ?_ _
                  clear hS hN
                  go_wp2
                  go_roundw
                  case rel =>
                    refine ⟨j + 1, a8, c8, _, by go_num, rfl, by omega, HFW8, HWR8, Lib.hid ?_, HP8, HB8⟩
                    rw [List.map_append, HES3.out, List.take_add_one, HCI.out, List.map_append, List.append_assoc]
                    simp [HFD.out]
                  case measure => simp [intOf]; omega
                · obtain rfl : j = q := by omega
                  have hcl3 := cell_keep HB3.out HC0.out
                  go_wp2_with (first
                    | (at_builtin; go_loud (refine wpl_app_wr rfl (.tmp 84) (.tmp 89) rfl rfl (HWR3.out.keep (balloc wi _)) wi.heap.size (zs, .slice x sn c) rfl (heap_alloc_last wi _) (by rw [HSN.out]; exact HZ.out) (by omega) (bch HB3.out (balloc wi _)).size ?_); intro v9 w9 HWR9 HQ9; obtain ⟨a9, c9, rfl⟩ := own_form HWR9.out.row; have HB9 := Lib.hid ((HWR3.out.keep (balloc wi (.cells #[.slice x sn c] 26))).below HQ9.out (bch HB3.out (balloc wi _)) (Nat.le_refl _)); have HFW9 : Hid (FW W.heap.size W w9 (.slice fa (m + j) fc) (m + j) es2) := Lib.hid ⟨(HWR3.out.keep (balloc wi (.cells #[.slice x sn c] 26))).other HQ9.out (own_keep HFW3.out.row (balloc wi _)) (by decide), HFW3.out.data⟩))
                  go_roundw
                  case rel =>
                    refine ⟨i + 1, m + j, k + 1, fa, fc, a9, c9, es2, _, by go_num, rfl, rfl, by omega, by omega, by omega, HFW9, HWR9, Lib.hid ?_, Lib.hid ?_, HB9⟩
                    · intro y hy
                      rcases List.mem_append.1 hy with hy | hy
                      · exact HWB.out y hy
                      · obtain rfl : y = _ := by simpa using hy
                        exact HBZ.out
                    · intro r
                      rw [HES3.out, List.take_of_length_le (Nat.le_of_eq HPQ.out), List.append_assoc, HINV.out, HBK2.out, List.map_append]
                      rfl
                  case measure => simp [intOf]; omega
      · obtain rfl : i = n := by omega
        have HJ : Hid (∀ w, Below wo.heap.size wo w → Calls Try.prog 11 #[.slice va m vc] w fun e w' => ∃ u, e = .returned (.tuple #[u, .int .i64 0]) ∧ RL .u8 w' u (ws.map Prod.fst).length (ws.map Prod.fst) ∧ Below w.heap.size w w') := Lib.hid fun w hb =>
          (join_any _ m es w ((HFW.out.if_ HB.out).keep hb) (by omega)).mono fun e w' ⟨u, rs, h1, h2, h3, h4⟩ => by
            have hz := HINV.out []
            rw [List.append_nil] at hz
            rw [hz] at h1 h3
            have h5 : rs.map Prod.fst = ws.map Prod.fst := h3
            have hr := h2.rl
            rw [h5] at hr
            have h6 := congrArg List.length h5
            rw [List.length_map] at h6
            exact ⟨u, h1, by rw [← h6]; exact hr, h4⟩
        have HRW : Hid (∀ w, Below wo.heap.size wo w → RL .u8 w (.slice ua k uc) k (ws.map Prod.fst)) := Lib.hid fun w hb => (HWR.out.keep hb).rl (bch HB.out hb)
        have HSM : Hid (∀ (a : Value) (w : World), RL .u8 w a (ws.map Prod.fst).length (ws.map Prod.fst) → RL .u8 w (.slice ua k uc) k (ws.map Prod.fst) → Calls Try.prog 13 #[a, .slice ua k uc] w fun e w' => e = .returned (.bool true) ∧ Below w.heap.size w w') := Lib.hid fun a w h1 h2 =>
          (same_any a _ _ _ _ _ w h1 h2 (fun l hl => by obtain ⟨y, hy, rfl⟩ := List.mem_map.1 hl; exact HWB.out y hy) (fun l hl => by obtain ⟨y, hy, rfl⟩ := List.mem_map.1 hl; exact HWB.out y hy)).mono fun e w' ⟨g1, g2⟩ => ⟨by rw [g1]; simp, g2⟩
        go_wp2_with (first
          | (go_at_call 11; (with_reducible refine (HJ.out _ (Below.refl _ _)).mono ?_); rintro e w1 ⟨u1, rfl, hr1, hb1⟩; have HR1 := Lib.hid hr1; have HL1 := Lib.hid (HRW.out _ hb1); have HB1 := Lib.hid (bch HB.out hb1); clear hr1 hb1)
          | (go_at_call 13; (with_reducible refine (HSM.out _ _ HR1.out HL1.out).mono ?_); rintro e w3 ⟨rfl, hb3⟩; have HB3 := Lib.hid (bch HB1.out hb3); clear hb3)
          | (go_at_call 6; (with_reducible refine (awake_any _).mono ?_); rintro e w5 ⟨rfl, hb⟩; have HB5 := Lib.hid (bch HB3.out hb); clear hb))
        go_ret
        exact ⟨rfl, HB5.out⟩
end Go.Proofs.Ytbnedcghbdphlaa
