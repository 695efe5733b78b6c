/-
  THE WALK OF CutFrags: whatever epoch, place and bytes come in: the call returns true and changes nothing that was there.
-/
import Derived.Test.YtepmiooemjjhdaaCutLaws
import Derived.Test.YtepmiooemjjhdaaFragSame
namespace Go.Proofs.Ytepmiooemjjhdaa
open Go.RowKit
set_option maxRecDepth 8000 in
set_option maxHeartbeats 4000000 in
theorem fragslaw_walk (ep x : Int) (dv : Value) (n : Nat) (zs : List Int) (hx : I63 x) (W : World) (hri : RI .u8 W dv n zs) (hb : isB zs) :
    Calls Try.prog 5 #[.int .u32 ep, .int .i64 x, dv] W fun e w' => e = .returned (.bool true) ∧ Below W.heap.size W w' := by
  have hzl := hri.length
  have hn63 := hri.le
  have HR := Lib.hid hri
  have H1 : Hid (∀ (w : World), RI .u8 w dv n zs → Calls Try.prog 13 #[.int .u32 ep, .int .i64 x, dv] w fun e w' =>
      ∃ v es, e = .returned (.tuple #[v, .bool (fitI x n)]) ∧ FL w.heap.size w' v es.length es ∧ es.map Prod.fst = fragsI ep x zs ∧ Below w.heap.size w w') := fun w h => frags_any ep x dv n zs hx w h
  have H2 : Hid (∀ w, Calls Try.prog 7 #[.int .i64 x, .int .i64 (n : Int)] w fun e w' =>
    ∃ v, e = .returned (.tuple #[v, .int .i64 (endI x n : Int), .bool (fitI x n)]) ∧ w'.ownsRow w.heap.size 28 4 v (pcsI x n).length (pF (pcsI x n)) ∧ Below w.heap.size w w') := fun w => rcut_any x n hx (by unfold I63; omega) w
  have HPC : Hid (∀ (i : Nat) (c : PC), (pcsI x n)[i]? = some c → ∃ l k : Nat, c.from_ = (l : Int) ∧ c.to = ((l + k : Nat) : Int) ∧ ((l + k : Nat) : Int) ≤ n ∧ l + k ≤ 832) := Lib.hid fun i c h => pc_ok h
  have HFI : Hid (fragsI ep x zs = (pcsI x n).map (frOf ep zs)) := Lib.hid (by unfold fragsI; rw [hzl])
  have hpl := pcs_len x n
  obtain ⟨da, dc, rfl, _, hdc, hdm, _⟩ := hri
  generalize fragsI ep x zs = fi at *
  generalize pcsI x n = ps at *
  generalize endI x n = en at *
  generalize fitI x n = fit at *
  obtain ⟨m, hm⟩ : ∃ m, ps.length = m := ⟨_, rfl⟩
  rw [hm] at H2 hpl
  have HM := Lib.hid hm
  have HZL := Lib.hid hzl
  have HBZ := Lib.hid hb
  clear hx hzl hm hb
  by_cases hbig : (n : Int) > 1000
  · go_enter Try.func5, Try.ntmps5
    go_wp2_with (first
      | (go_at_call 11; (with_reducible refine (awake_any _).mono ?_); rintro e w5 ⟨rfl, hb⟩; have HB5 := Lib.hid hb; clear hb))
    go_ret
    exact ⟨rfl, HB5.out⟩
  · have H1M : Hid (∀ (w : World), RI .u8 w (.slice da n dc) n zs → Calls Try.prog 13 #[.int .u32 ep, .int .i64 x, .slice da n dc] w fun e w' =>
      ∃ va vc es, e = .returned (.tuple #[.slice va m vc, .bool fit]) ∧ FL w.heap.size w' (.slice va m vc) m es ∧ es.map Prod.fst = ps.map (frOf ep zs) ∧ Below w.heap.size w w') := fun w h =>
      (H1.out w h).mono fun e w' ⟨v, es, he, hf, hes, hb⟩ => by
        rw [HFI.out] at hes
        have hl : es.length = m := by have := congrArg List.length hes; rw [List.length_map, List.length_map, HM.out] at this; exact this
        rw [hl] at hf
        obtain ⟨va, vc, rfl⟩ := own_form hf.row
        exact ⟨va, vc, es, he, hf, hes, hb⟩
    clear H1 HFI
    cases fit with
    | _ =>
      go_enter Try.func5, Try.ntmps5
      go_wp2_with (first
        | (go_at_call 13; (with_reducible refine (H1M.out _ HR.out).mono ?_); rintro e w1 ⟨a1, c1, es, rfl, hf, hes, hb⟩; have HFL1 := Lib.hid hf; have HES := Lib.hid hes; have HB1 := Lib.hid hb; clear hf hes hb)
        | (go_at_call 7; (with_reducible refine (H2.out _).mono ?_); rintro e w2 ⟨v2, rfl, ho, hb⟩; obtain ⟨a2, c2, rfl⟩ := own_form ho; have HFL2 := Lib.hid (HFL1.out.keep hb); have HP2 : Hid (PS w2 (.slice a2 m c2) ps) := Lib.hid (PS.own (by rw [HM.out]; exact ho)); have HB2 := Lib.hid (bch HB1.out hb); clear ho hb))
      go_loopw [12] (fun iv wr => ∃ i : Nat, iv = .int .i64 (i : Int) ∧ i ≤ m ∧ Hid (Below w2.heap.size w2 wr)) (fun iv _ => m - (intOf iv).toNat)
      case atStart => exact ⟨0, rfl, by omega, Lib.hid (Below.refl _ _)⟩
      case round =>
        obtain ⟨i, rfl, him, HB⟩ := hrel
        by_cases hlt : (i : Int) < (m : Int)
        · have hci : ps[i]? = some (ps[i]'(by have := HM.out; omega)) := List.getElem?_eq_getElem _
          obtain ⟨c, hc⟩ : ∃ c, ps[i]'(by have := HM.out; omega) = c := ⟨_, rfl⟩
          rw [hc] at hci
          obtain ⟨l, k, hl, hk, hkn, hk8⟩ := HPC.out i c hci
          have hfd := frOf_data (ep := ep) (zs := zs) hl hk
          have hel := HFL2.out.len
          have hei : es[i]? = some (es[i]'(by omega)) := List.getElem?_eq_getElem _
          obtain ⟨e, he⟩ : ∃ e, es[i]'(by omega) = e := ⟨_, rfl⟩
          rw [he] at hei
          have he1 : e.1 = frOf ep zs c := by
            have h1 : (es.map Prod.fst)[i]? = some e.1 := by rw [List.getElem?_map, hei]; rfl
            rw [HES.out, List.getElem?_map, hci] at h1
            exact (Option.some.inj h1).symm
          rw [hfd] at he1
          obtain ⟨e1, u⟩ := e
          dsimp only at he1
          subst he1
          have hud := HFL2.out.data _ (List.mem_of_getElem? hei)
          dsimp only at hud
          have hkl : ((zs.drop l).take k).length = k := by rw [List.length_take, List.length_drop]; have := HZL.out; omega
          rw [hkl] at hud
          obtain ⟨ua, uc, rfl⟩ := own_form hud
          obtain ⟨bf, of, rfl, rf⟩ := HFL2.out.at_ i _ hei
          obtain ⟨bp, op, rfl, rp⟩ := HP2.out.at_ i _ hci
          obtain ⟨ca, kd, cf, ct⟩ := c
          obtain rfl : cf = (l : Int) := hl
          obtain ⟨h, hh⟩ : ∃ h, l + k = h := ⟨_, rfl⟩
          have HH := Lib.hid hh
          rw [hh] at hk hkn hk8
          obtain rfl : ct = (h : Int) := hk
          obtain ⟨q, qc, hsl⟩ := sliced_form da l k dc 1
          have HRC := Lib.hid ((HR.out.keep HB2.out).cut l k dc (by omega) (by omega) (Nat.le_refl _))
          rw [hsl] at HRC
          have HSL := Lib.hid hsl
          have HDC : Hid (l + k ≤ dc) := Lib.hid (by omega)
          have HRF := Lib.hid (rangeAt_keep HB.out rf)
          have HRP := Lib.hid (pc_cells (rangeAt_keep HB.out rp))
          have HUD := Lib.hid (RI.own hud)
          have HSM : Hid (∀ w, Below w2.heap.size w2 w → Calls Try.prog 14 #[.agg (fA kd ep (.slice ua k uc)), .agg (fA kd ep (.slice q k qc))] w fun e w' => e = .returned (.bool true) ∧ Below w.heap.size w w') := fun w hb => by
            have h1 := rfsame_any kd ep (.slice ua k uc) k ((zs.drop l).take k) kd ep (.slice q k qc) k ((zs.drop l).take k) w (HUD.out.keep hb) (HRC.out.keep hb) ((HBZ.out.drop l).take k) ((HBZ.out.drop l).take k)
            rwa [decide_eq_true rfl] at h1
          clear hci hc hei he hfd hel rf rp hud hkl hsl hh
          go_wp2_with fail
          refine wp_region_held_drew (S := (fun w' => Below wr.heap.size wr w')) (by kernel_rfl) ((Below.refl wr.heap.size wr).drew) (fun hS => ?_)
          refine wpAnyH_take (i := 0) (oi := ({ dst := some 48, op := Op.move (Operand.tmp 7), type := 34, pos := "law.go:54", after := #[], guard := none } : Oper)) (v := ?_) rfl (by kernel_rfl) (by kernel_rfl) (by kernel_rfl) (fun _ _ _ h => h) (Or.inl ⟨by rfl, ?_⟩) hS ?_
          rotate_left
          · (intro w hSw; (try dsimp only at hSw); go_simp; try with_reducible rfl)
          (try simp only [Act.put, List.setIfInBounds_toArray, List.set_cons_zero, List.set_cons_succ])
          refine wpAnyH_take (i := 1) (oi := ({ dst := some 49, op := Op.move (Operand.tmp 12), type := 3, pos := "law.go:54", after := #[], guard := none } : Oper)) (v := ?_) rfl (by kernel_rfl) (by kernel_rfl) (by kernel_rfl) (fun _ _ _ h => h) (Or.inl ⟨by rfl, ?_⟩) hS ?_
          rotate_left
          · (intro w hSw; (try dsimp only at hSw); go_simp; try with_reducible rfl)
          (try simp only [Act.put, List.setIfInBounds_toArray, List.set_cons_zero, List.set_cons_succ])
          refine wpAnyH_take (i := 2) (oi := ({ dst := some 50, op := Op.indexAddr 34 (Operand.tmp 48) (Operand.tmp 49), type := 0, pos := "law.go:54", after := #[{ on := 0, ground := Ground.data }, { on := 1, ground := Ground.data }], guard := none } : Oper)) (v := ?_) rfl (by kernel_rfl) (by kernel_rfl) (by kernel_rfl) (fun _ _ _ h => h) (Or.inl ⟨by rfl, ?_⟩) hS ?_
          rotate_left
          · (intro w hSw; (try dsimp only at hSw); go_simp; try with_reducible rfl)
          (try simp only [Act.put, List.setIfInBounds_toArray, List.set_cons_zero, List.set_cons_succ])
          refine wpAnyH_take (i := 3) (oi := ({ dst := some 51, op := Op.load 39 (Operand.tmp 50), type := 39, pos := "law.go:54", after := #[{ on := 2, ground := Ground.data }], guard := none } : Oper)) (v := .agg (fA kd ep (.slice ua k uc))) rfl (by kernel_rfl) (by kernel_rfl) (by kernel_rfl) (fun _ _ _ h => h) (Or.inl ⟨by rfl, ?_⟩) hS ?_
          · (intro w hSw; (try dsimp only at hSw); exact exec_load_el (.tmp 50) rfl rfl (rangeAt_keep hSw HRF.out))
          (try simp only [Act.put, List.setIfInBounds_toArray, List.set_cons_zero, List.set_cons_succ])
          refine wpAnyH_take (i := 4) (oi := ({ dst := some 52, op := Op.move (Operand.tmp 9), type := 22, pos := "law.go:54", after := #[], guard := none } : Oper)) (v := ?_) rfl (by kernel_rfl) (by kernel_rfl) (by kernel_rfl) (fun _ _ _ h => h) (Or.inl ⟨by rfl, ?_⟩) hS ?_
          rotate_left
          · (intro w hSw; (try dsimp only at hSw); go_simp; try with_reducible rfl)
          (try simp only [Act.put, List.setIfInBounds_toArray, List.set_cons_zero, List.set_cons_succ])
          refine wpAnyH_take (i := 5) (oi := ({ dst := some 53, op := Op.move (Operand.tmp 12), type := 3, pos := "law.go:54", after := #[], guard := none } : Oper)) (v := ?_) rfl (by kernel_rfl) (by kernel_rfl) (by kernel_rfl) (fun _ _ _ h => h) (Or.inl ⟨by rfl, ?_⟩) hS ?_
          rotate_left
          · (intro w hSw; (try dsimp only at hSw); go_simp; try with_reducible rfl)
          (try simp only [Act.put, List.setIfInBounds_toArray, List.set_cons_zero, List.set_cons_succ])
          refine wpAnyH_take (i := 6) (oi := ({ dst := some 54, op := Op.indexAddr 22 (Operand.tmp 52) (Operand.tmp 53), type := 0, pos := "law.go:54", after := #[{ on := 4, ground := Ground.data }, { on := 5, ground := Ground.data }], guard := none } : Oper)) (v := ?_) rfl (by kernel_rfl) (by kernel_rfl) (by kernel_rfl) (fun _ _ _ h => h) (Or.inl ⟨by rfl, ?_⟩) hS ?_
          rotate_left
          · (intro w hSw; (try dsimp only at hSw); go_simp; try with_reducible rfl)
          (try simp only [Act.put, List.setIfInBounds_toArray, List.set_cons_zero, List.set_cons_succ])
          refine wpAnyH_take (i := 7) (oi := ({ dst := some 55, op := Op.fieldAddr 28 (Operand.tmp 54) 1, type := 0, pos := "law.go:54", after := #[{ on := 6, ground := Ground.data }], guard := none } : Oper)) (v := ?_) rfl (by kernel_rfl) (by kernel_rfl) (by kernel_rfl) (fun _ _ _ h => h) (Or.inl ⟨by rfl, ?_⟩) hS ?_
          rotate_left
          · (intro w hSw; (try dsimp only at hSw); go_simp; try with_reducible rfl)
          (try simp only [Act.put, List.setIfInBounds_toArray, List.set_cons_zero, List.set_cons_succ])
          refine wpAnyH_take (i := 8) (oi := ({ dst := some 56, op := Op.load 3 (Operand.tmp 55), type := 3, pos := "law.go:54", after := #[{ on := 7, ground := Ground.data }], guard := none } : Oper)) (v := .int .i64 kd) rfl (by kernel_rfl) (by kernel_rfl) (by kernel_rfl) (fun _ _ _ h => h) (Or.inl ⟨by rfl, ?_⟩) hS ?_
          · (intro w hSw; (try dsimp only at hSw); have z := cell_keep hSw HRP.out.2.1; go_simp)
          (try simp only [Act.put, List.setIfInBounds_toArray, List.set_cons_zero, List.set_cons_succ])
          refine wpAnyH_take (i := 9) (oi := ({ dst := some 57, op := Op.move (Operand.tmp 0), type := 32, pos := "law.go:54", after := #[], guard := none } : Oper)) (v := ?_) rfl (by kernel_rfl) (by kernel_rfl) (by kernel_rfl) (fun _ _ _ h => h) (Or.inl ⟨by rfl, ?_⟩) hS ?_
          rotate_left
          · (intro w hSw; (try dsimp only at hSw); go_simp; try with_reducible rfl)
          (try simp only [Act.put, List.setIfInBounds_toArray, List.set_cons_zero, List.set_cons_succ])
          refine wpAnyH_take (i := 10) (oi := ({ dst := some 58, op := Op.move (Operand.tmp 2), type := 33, pos := "law.go:54", after := #[], guard := none } : Oper)) (v := ?_) rfl (by kernel_rfl) (by kernel_rfl) (by kernel_rfl) (fun _ _ _ h => h) (Or.inl ⟨by rfl, ?_⟩) hS ?_
          rotate_left
          · (intro w hSw; (try dsimp only at hSw); go_simp; try with_reducible rfl)
          (try simp only [Act.put, List.setIfInBounds_toArray, List.set_cons_zero, List.set_cons_succ])
          refine wpAnyH_take (i := 11) (oi := ({ dst := some 59, op := Op.move (Operand.tmp 9), type := 22, pos := "law.go:54", after := #[], guard := none } : Oper)) (v := ?_) rfl (by kernel_rfl) (by kernel_rfl) (by kernel_rfl) (fun _ _ _ h => h) (Or.inl ⟨by rfl, ?_⟩) hS ?_
          rotate_left
          · (intro w hSw; (try dsimp only at hSw); go_simp; try with_reducible rfl)
          (try simp only [Act.put, List.setIfInBounds_toArray, List.set_cons_zero, List.set_cons_succ])
          refine wpAnyH_take (i := 12) (oi := ({ dst := some 60, op := Op.move (Operand.tmp 12), type := 3, pos := "law.go:54", after := #[], guard := none } : Oper)) (v := ?_) rfl (by kernel_rfl) (by kernel_rfl) (by kernel_rfl) (fun _ _ _ h => h) (Or.inl ⟨by rfl, ?_⟩) hS ?_
          rotate_left
          · (intro w hSw; (try dsimp only at hSw); go_simp; try with_reducible rfl)
          (try simp only [Act.put, List.setIfInBounds_toArray, List.set_cons_zero, List.set_cons_succ])
          refine wpAnyH_take (i := 13) (oi := ({ dst := some 61, op := Op.indexAddr 22 (Operand.tmp 59) (Operand.tmp 60), type := 0, pos := "law.go:54", after := #[{ on := 11, ground := Ground.data }, { on := 12, ground := Ground.data }], guard := none } : Oper)) (v := ?_) rfl (by kernel_rfl) (by kernel_rfl) (by kernel_rfl) (fun _ _ _ h => h) (Or.inl ⟨by rfl, ?_⟩) hS ?_
          rotate_left
          · (intro w hSw; (try dsimp only at hSw); go_simp; try with_reducible rfl)
          (try simp only [Act.put, List.setIfInBounds_toArray, List.set_cons_zero, List.set_cons_succ])
          refine wpAnyH_take (i := 14) (oi := ({ dst := some 62, op := Op.fieldAddr 28 (Operand.tmp 61) 2, type := 0, pos := "law.go:54", after := #[{ on := 13, ground := Ground.data }], guard := none } : Oper)) (v := ?_) rfl (by kernel_rfl) (by kernel_rfl) (by kernel_rfl) (fun _ _ _ h => h) (Or.inl ⟨by rfl, ?_⟩) hS ?_
          rotate_left
          · (intro w hSw; (try dsimp only at hSw); go_simp; try with_reducible rfl)
          (try simp only [Act.put, List.setIfInBounds_toArray, List.set_cons_zero, List.set_cons_succ])
          refine wpAnyH_take (i := 15) (oi := ({ dst := some 63, op := Op.load 3 (Operand.tmp 62), type := 3, pos := "law.go:54", after := #[{ on := 14, ground := Ground.data }], guard := none } : Oper)) (v := .int .i64 (l : Int)) rfl (by kernel_rfl) (by kernel_rfl) (by kernel_rfl) (fun _ _ _ h => h) (Or.inl ⟨by rfl, ?_⟩) hS ?_
          · (intro w hSw; (try dsimp only at hSw); have z := cell_keep hSw HRP.out.2.2.1; go_simp)
          (try simp only [Act.put, List.setIfInBounds_toArray, List.set_cons_zero, List.set_cons_succ])
          refine wpAnyH_take (i := 16) (oi := ({ dst := some 64, op := Op.move (Operand.tmp 9), type := 22, pos := "law.go:54", after := #[], guard := none } : Oper)) (v := ?_) rfl (by kernel_rfl) (by kernel_rfl) (by kernel_rfl) (fun _ _ _ h => h) (Or.inl ⟨by rfl, ?_⟩) hS ?_
          rotate_left
          · (intro w hSw; (try dsimp only at hSw); go_simp; try with_reducible rfl)
          (try simp only [Act.put, List.setIfInBounds_toArray, List.set_cons_zero, List.set_cons_succ])
          refine wpAnyH_take (i := 17) (oi := ({ dst := some 65, op := Op.move (Operand.tmp 12), type := 3, pos := "law.go:54", after := #[], guard := none } : Oper)) (v := ?_) rfl (by kernel_rfl) (by kernel_rfl) (by kernel_rfl) (fun _ _ _ h => h) (Or.inl ⟨by rfl, ?_⟩) hS ?_
          rotate_left
          · (intro w hSw; (try dsimp only at hSw); go_simp; try with_reducible rfl)
          (try simp only [Act.put, List.setIfInBounds_toArray, List.set_cons_zero, List.set_cons_succ])
          refine wpAnyH_take (i := 18) (oi := ({ dst := some 66, op := Op.indexAddr 22 (Operand.tmp 64) (Operand.tmp 65), type := 0, pos := "law.go:54", after := #[{ on := 16, ground := Ground.data }, { on := 17, ground := Ground.data }], guard := none } : Oper)) (v := ?_) rfl (by kernel_rfl) (by kernel_rfl) (by kernel_rfl) (fun _ _ _ h => h) (Or.inl ⟨by rfl, ?_⟩) hS ?_
          rotate_left
          · (intro w hSw; (try dsimp only at hSw); go_simp; try with_reducible rfl)
          (try simp only [Act.put, List.setIfInBounds_toArray, List.set_cons_zero, List.set_cons_succ])
          refine wpAnyH_take (i := 19) (oi := ({ dst := some 67, op := Op.fieldAddr 28 (Operand.tmp 66) 3, type := 0, pos := "law.go:54", after := #[{ on := 18, ground := Ground.data }], guard := none } : Oper)) (v := ?_) rfl (by kernel_rfl) (by kernel_rfl) (by kernel_rfl) (fun _ _ _ h => h) (Or.inl ⟨by rfl, ?_⟩) hS ?_
          rotate_left
          · (intro w hSw; (try dsimp only at hSw); go_simp; try with_reducible rfl)
          (try simp only [Act.put, List.setIfInBounds_toArray, List.set_cons_zero, List.set_cons_succ])
          refine wpAnyH_take (i := 20) (oi := ({ dst := some 68, op := Op.load 3 (Operand.tmp 67), type := 3, pos := "law.go:54", after := #[{ on := 19, ground := Ground.data }], guard := none } : Oper)) (v := .int .i64 (h : Int)) rfl (by kernel_rfl) (by kernel_rfl) (by kernel_rfl) (fun _ _ _ h => h) (Or.inl ⟨by rfl, ?_⟩) hS ?_
          · (intro w hSw; (try dsimp only at hSw); have z := cell_keep hSw HRP.out.2.2.2; go_simp)
          (try simp only [Act.put, List.setIfInBounds_toArray, List.set_cons_zero, List.set_cons_succ])
          refine wpAnyH_take (i := 21) (oi := ({ dst := some 69, op := Op.slice 33 (Operand.tmp 58) (some (Operand.tmp 63)) (some (Operand.tmp 68)) none, type := 33, pos := "law.go:54", after := #[{ on := 10, ground := Ground.data }, { on := 15, ground := Ground.data }, { on := 20, ground := Ground.data }], guard := none } : Oper)) (v := .slice q k qc) rfl (by kernel_rfl) (by kernel_rfl) (by kernel_rfl) (fun _ _ _ h => h) (Or.inl ⟨by rfl, ?_⟩) hS ?_
          · (intro w hSw; (try dsimp only at hSw); exact (exec_cut_lh (.tmp 58) (.tmp 63) (.tmp 68) rfl da n dc l k rfl rfl (by rw [HH.out]; rfl) HDC.out).trans (by rw [HSL.out]))
          (try simp only [Act.put, List.setIfInBounds_toArray, List.set_cons_zero, List.set_cons_succ])
          refine wpAnyH_take (i := 22) (oi := ({ dst := some 70, op := Op.build 39 #[(0, Operand.tmp 56), (1, Operand.tmp 57), (2, Operand.tmp 69)], type := 39, pos := "law.go:54", after := #[{ on := 8, ground := Ground.data }, { on := 9, ground := Ground.data }, { on := 21, ground := Ground.data }], guard := none } : Oper)) (v := .agg (fA kd ep (.slice q k qc))) rfl (by kernel_rfl) (by kernel_rfl) (by kernel_rfl) (fun _ _ _ h => h) (Or.inl ⟨by rfl, ?_⟩) hS ?_
          · (intro w hSw; (try dsimp only at hSw); go_simp)
          (try simp only [Act.put, List.setIfInBounds_toArray, List.set_cons_zero, List.set_cons_succ])
          refine rg_one 23 ({ dst := some 71, op := Op.call { callee := Callee.value (Operand.func 14), args := #[Operand.tmp 51, Operand.tmp 70], argTypes := #[39, 39] }, type := 4, pos := "law.go:54", after := #[{ on := 3, ground := Ground.data }, { on := 22, ground := Ground.data }], guard := none } : Oper) (by kernel_rfl) rfl (fun K hK => ?_)
          go_simp
          (go_at_call 14; (with_reducible refine (HSM.out _ (bch HB.out hS)).mono ?_); rintro e w6 ⟨rfl, hb6⟩; have hN := hS.trans (hb6.mono hS.size); have HB6 := Lib.hid (bch HB.out hN); clear hb6)
          refine hK.out _ _ ?_ (fun hS1 => ?_)
          · (exact hN)
          clear hK K hS; have hS := hS1; clear hS1
          (try simp only [Act.put, List.setIfInBounds_toArray, List.set_cons_zero, List.set_cons_succ])
          refine wpAnyH_take (i := 24) (oi := ({ dst := some 72, op := Op.unOp UnOp.not 4 (Operand.tmp 71), type := 4, pos := "law.go:54", after := #[{ on := 23, ground := Ground.data }], guard := none } : Oper)) (v := ?_) rfl (by kernel_rfl) (by kernel_rfl) (by kernel_rfl) (fun _ _ _ h => h) (Or.inl ⟨by rfl, ?_⟩) hS ?_
          rotate_left
          · (intro w hSw; (try dsimp only at hSw); go_simp; try with_reducible rfl)
          (try simp only [Act.put, List.setIfInBounds_toArray, List.set_cons_zero, List.set_cons_succ])
          refine wpAnyH_done (by kernel_rfl) ?_ _
          clear hS hN
          go_wp2
          go_roundw
          case rel => exact ⟨i + 1, by go_num, by omega, HB6⟩
          case measure => simp [intOf]; omega
        · obtain rfl : i = m := by omega
          go_wp2_with (first
            | (go_at_call 11; (with_reducible refine (awake_any _).mono ?_); rintro e w5 ⟨rfl, hb⟩; have HB5 := Lib.hid (bch (bch HB2.out HB.out) hb); clear hb))
          go_ret
          exact ⟨rfl, HB5.out⟩
end Go.Proofs.Ytepmiooemjjhdaa
