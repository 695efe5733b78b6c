/-
  THE WALK OF THE LAW DiskClones, over DiskSays and NilSays: whatever calls come in: the call returns true and changes nothing that was there.
-/
import Derived.Test.YtpnialanmidekaaDiskCloneSt
import Derived.Test.YtpnialanmidekaaDiskDo3
import Derived.Test.YtpnialanmidekaaDiskLawSame
import Derived.Test.YtpnialanmidekaaDiskAwake
namespace Go.Proofs.Ytpnialanmidekaa
open Go.RowKit
theorem P2.glt1 {DK : World → Addr → (Nat → Bool) → AD → Prop} {W w : World} {p q : Addr} {g1 g2 : Nat} {d d2 : AD} {c1 cb cr : Array Value} {F G M : Nat → Bool} (h : P2 DK W p g1 d c1 F q g2 d2 cb cr G M w) : g1 < w.heap.size := (Array.getElem?_eq_some_iff.1 h.sd.db.1).1
set_option maxRecDepth 8000 in
set_option maxHeartbeats 16000000 in
theorem clones_walk {DK : World → Addr → (Nat → Bool) → AD → Prop} (H : DiskSays DK) (N : NilSays) (v v2 : Value) (l k : List AAct) (W : World) (hl : AS W v l) (hk : AS W v2 k) (hga : ∀ a ∈ l, GA a) (hgb : ∀ a ∈ k, GA a) :
    Calls Try.prog 5 #[v, v2] W fun e w' => e = .returned (.bool true) ∧ Below W.heap.size W w' := by
  have hH := Lib.hid H
  have hN := Lib.hid N
  have HA1 := Lib.hid hl
  have HA2 := Lib.hid hk
  have HGA1 := Lib.hid hga
  have HGA2 := Lib.hid hgb
  obtain ⟨a, cap, rfl, hc1, hc2, _⟩ := hl.form
  obtain ⟨a2, cap2, rfl, hc3, hc4, _⟩ := hk.form
  obtain ⟨n, hn⟩ : ∃ n, l.length = n := ⟨_, rfl⟩
  obtain ⟨m, hm⟩ : ∃ m, k.length = m := ⟨_, rfl⟩
  obtain ⟨y, hy⟩ : ∃ y, fewB l = y := ⟨_, rfl⟩
  obtain ⟨z, hz⟩ : ∃ z, fewB k = z := ⟨_, rfl⟩
  have HF1 : Hid (∀ w, AS w (.slice a n cap) l → Calls Try.prog 6 #[.slice a n cap] w fun e w' => e = .returned (.bool y) ∧ w = w') := Lib.hid fun w h => (few_any _ l w h).mono fun e w' ⟨h1, h2⟩ => ⟨by rw [h1, hy], h2.symm⟩
  have HF2 : Hid (∀ w, AS w (.slice a2 m cap2) k → Calls Try.prog 6 #[.slice a2 m cap2] w fun e w' => e = .returned (.bool z) ∧ w = w') := Lib.hid fun w h => (few_any _ k w h).mono fun e w' ⟨h1, h2⟩ => ⟨by rw [h1, hz], h2.symm⟩
  rw [hn] at HA1 hc1 ⊢
  rw [hm] at HA2 hc3 ⊢
  have HN1 := Lib.hid hn
  have HN2 := Lib.hid hm
  have HY := Lib.hid hy
  have HZ := Lib.hid hz
  clear hl hk hga hgb hn hm hy hz
  go_enter Try.func5, Try.ntmps5
  by_cases hyz : y = true ∧ z = true
  · obtain ⟨rfl, rfl⟩ := hyz
    have HFW1 := Lib.hid (few_true HY.out)
    have HFW2 := Lib.hid (few_true HZ.out)
    have HG0 := Lib.hid (Good.new 60 (by unfold I63; omega))
    go_wp2_with (first
      | (go_at_call 6; (with_reducible refine (HF1.out _ HA1.out).mono ?_); rintro e w' ⟨rfl, rfl⟩)
      | (go_at_call 6; (with_reducible refine (HF2.out _ HA2.out).mono ?_); rintro e w' ⟨rfl, rfl⟩)
      | (go_at_call 8; (with_reducible refine (hH.out.new 60 _ (by unfold I63; omega)).mono ?_); rintro e w1 ⟨p, F1, rfl, hk1, hx1⟩; have HK1 := Lib.hid hk1; have HX1 := Lib.hid hx1; clear hk1 hx1)
      | (go_at_call 9; (with_reducible refine (newD_run 60 (by unfold I63; omega) F1 _).mono ?_); rintro e w2 ⟨v2, rfl, hr2, hb2⟩; obtain ⟨cs2, rfl, h62, h12⟩ := hr2.cells; have HP2 := Lib.hid (PS.start hH.out (hH.out.below HK1.out hb2) HG0.out hr2 (HX1.out.trans (Ext.below hb2))); have H62 := Lib.hid h62; have H12 := Lib.hid h12; clear hr2 hb2 h62 h12)
      | (refine wpList_store_row rfl 29 _ _ rfl w2.heap.size cs2 rfl rfl _ dz HP2.out.db.1 (by rw [H62.out]; exact disk_info) (by rw [H62.out]; rfl) H12.out ?_; have HP3 := Lib.hid (HP2.out.store hH.out H62.out)))
    obtain ⟨g1, hg1⟩ : ∃ g1, w2.heap.size = g1 := ⟨_, rfl⟩
    rw [hg1] at HP3 ⊢
    clear HP2 hg1
    go_loopw [7] (fun iv wr => ∃ (i : Nat) (d : AD) (c1 : Array Value) (F M : Nat → Bool), iv = .int .i64 i ∧ i ≤ n ∧ Hid (PS DK W p g1 d c1 c1 F M wr) ∧ Hid (c1.size = 6) ∧ Hid (c1.all (·.oneCell') = true)) (fun iv _ => n - (intOf iv).toNat)
    case atStart => exact ⟨0, _, _, _, _, rfl, by omega, HP3, H62, H12⟩
    case round =>
      obtain ⟨i, d, c1, F, M, rfl, hi, HP, H6, H1⟩ := hrel
      by_cases hlt : (i : Int) < (n : Int)
      · obtain ⟨x, hx⟩ : ∃ x, l[i]? = some x := row_some (by rw [HN1.out]; omega)
        obtain ⟨b, off, al, cl, ak, ck, rfl, k0, k1, k2, k3, k4, k5, k6, k7, k8, r1, r2⟩ := HA1.out.at_ i x hx
        have HGX := Lib.hid (HGA1.out x (List.mem_of_getElem? hx))
        have HLX := Lib.hid (HFW1.out.2 x (List.mem_of_getElem? hx))
        have HCX := Lib.hid (And.intro k0 (And.intro k1 (And.intro k2 (And.intro k3 (And.intro k4 (And.intro k5 (And.intro k6 (And.intro k7 k8))))))))
        have HR1 := Lib.hid r1
        have HR2 := Lib.hid r2
        clear k0 k1 k2 k3 k4 k5 k6 k7 k8 r1 r2 hx
        obtain ⟨xk, xs, xt, xx, xy, xlen, xl, xklen, xkp, xg, xh⟩ := x
        simp only at HCX HLX HR1 HR2
        obtain ⟨d', hd'⟩ : ∃ d', d.doR ⟨xk, xs, xt, xx, xy, xlen, xl, xklen, xkp, xg, xh⟩ = d' := ⟨_, rfl⟩
        have HDG : Hid (Good d') := Lib.hid (by rw [← hd']; exact HP.out.good.do HGX.out)
        have HDO : Hid (∀ w F M cr, PS DK W p g1 d c1 cr F M w → Calls Try.prog 10 #[ptr p, .agg cr, .agg #[.int .u64 xk, .string xs, .string xt, .int .i64 xx, .int .i64 xy, .slice al xlen cl, .slice ak xklen ck, .int .i64 xg, .int .i64 xh]] w fun e w' => ∃ cr' F' M', e = .returned (.tuple #[.agg cr', .bool true]) ∧ PS DK W p g1 d' c1 cr' F' M' w' ∧ cr'.size = 6 ∧ cr'.all (·.oneCell') = true) := Lib.hid fun w F M cr h => by
          refine (do_any hH.out F M w p (.agg cr) d ⟨xk, xs, xt, xx, xy, xlen, xl, xklen, xkp, xg, xh⟩ al ak cl ck h.dk h.good h.rd h.sub h.foot HGX.out (HR1.out.kin h.kin) (HR2.out.kin h.kin) (by have := HLX.out; show xlen ≤ 1000000; omega)).mono ?_
          rintro e w' ⟨v', F', M', rfl, hE⟩
          obtain ⟨cr', rfl, h6, h1⟩ := hE.rd.cells
          rw [hd'] at hE
          exact ⟨cr', F', M', rfl, h.do HDG.out hE, h6, h1⟩
        clear hd'
        have HPD := Lib.hid (HP.out.next hH.out (Below.refl _ _).drew)
        go_wp2_with fail
        refine wp_region_held_drew (S := (fun W' => Kin W W')) (by kernel_rfl) HPD.out.kinw (fun hS => ?_)
        refine wpAnyH_take (i := 0) (oi := ({ dst := some 36, op := Op.move (Operand.tmp 5), type := 25, pos := "law.go:150", after := #[], guard := none } : Oper)) (v := ?_) rfl (by kernel_rfl) (by kernel_rfl) (by kernel_rfl) (fun _ _ _ h => h) (Or.inl ⟨by rfl, ?_⟩) hS ?_
        rotate_left
        · (intro w hSw; (try dsimp only at hSw); go_simp; try with_reducible rfl)
        (try simp only [Act.put, List.setIfInBounds_toArray, List.set_cons_zero, List.set_cons_succ])
        refine wpAnyH_take (i := 2) (oi := ({ dst := some 38, op := Op.move (Operand.tmp 0), type := 22, pos := "law.go:150", after := #[], guard := none } : Oper)) (v := ?_) rfl (by kernel_rfl) (by kernel_rfl) (by kernel_rfl) (fun _ _ _ h => h) (Or.inl ⟨by rfl, ?_⟩) hS ?_
        rotate_left
        · (intro w hSw; (try dsimp only at hSw); go_simp; try with_reducible rfl)
        (try simp only [Act.put, List.setIfInBounds_toArray, List.set_cons_zero, List.set_cons_succ])
        refine wpAnyH_take (i := 3) (oi := ({ dst := some 39, op := Op.move (Operand.tmp 7), type := 3, pos := "law.go:150", after := #[], guard := none } : Oper)) (v := ?_) rfl (by kernel_rfl) (by kernel_rfl) (by kernel_rfl) (fun _ _ _ h => h) (Or.inl ⟨by rfl, ?_⟩) hS ?_
        rotate_left
        · (intro w hSw; (try dsimp only at hSw); go_simp; try with_reducible rfl)
        (try simp only [Act.put, List.setIfInBounds_toArray, List.set_cons_zero, List.set_cons_succ])
        refine wpAnyH_take (i := 4) (oi := ({ dst := some 40, op := Op.indexAddr 22 (Operand.tmp 38) (Operand.tmp 39), type := 0, pos := "law.go:150", after := #[{ on := 2, ground := Ground.data }, { on := 3, ground := Ground.data }], guard := none } : Oper)) (v := ?_) rfl (by kernel_rfl) (by kernel_rfl) (by kernel_rfl) (fun _ _ _ h => h) (Or.inl ⟨by rfl, ?_⟩) hS ?_
        rotate_left
        · (intro w hSw; (try dsimp only at hSw); go_simp; try with_reducible rfl)
        (try simp only [Act.put, List.setIfInBounds_toArray, List.set_cons_zero, List.set_cons_succ])
        refine wpAnyH_take (i := 5) (oi := ({ dst := some 41, op := Op.load 38 (Operand.tmp 40), type := 38, pos := "law.go:150", after := #[{ on := 4, ground := Ground.data }], guard := none } : Oper)) (v := ?_) rfl (by kernel_rfl) (by kernel_rfl) (by kernel_rfl) (fun _ _ _ h => h) (Or.inl ⟨by rfl, ?_⟩) hS ?_
        rotate_left
        · (intro w hSw; (try dsimp only at hSw); obtain ⟨z0, z1, z2, z3, z4, z5, z6, z7, z8⟩ := HCX.out; have y0 := hSw _ _ z0; have y1 := hSw _ _ z1; have y2 := hSw _ _ z2; have y3 := hSw _ _ z3; have y4 := hSw _ _ z4; have y5 := hSw _ _ z5; have y6 := hSw _ _ z6; have y7 := hSw _ _ z7; have y8 := hSw _ _ z8; go_simp; try with_reducible rfl)
        (try simp only [Act.put, List.setIfInBounds_toArray, List.set_cons_zero, List.set_cons_succ])
        refine rg_one 1 ({ dst := some 37, op := Op.load 29 (Operand.tmp 6), type := 29, pos := "law.go:150", after := #[], guard := none } : Oper) (by kernel_rfl) rfl (fun K hK => ?_)
        rw [if_pos (by rfl)]; refine wp_load_row 29 (.tmp 6) rfl g1 rfl _ c1 (0, 0) _ HPD.out.db.1 Try.underlying29 rfl HPD.out.db.info ?_
        refine hK.out _ _ ?_ (fun hS1 => ?_)
        · (first | exact hS | exact hS.trans (Kin.below hb) | exact hN)
        clear hK K hS; have hS := hS1; clear hS1
        (try simp only [Act.put, List.setIfInBounds_toArray, List.set_cons_zero, List.set_cons_succ])
        refine rg_one 6 ({ dst := some 42, op := Op.call { callee := Callee.value (Operand.func 10), args := #[Operand.tmp 36, Operand.tmp 37, Operand.tmp 41], argTypes := #[25, 29, 38] }, type := 31, pos := "law.go:150", after := #[{ on := 0, ground := Ground.data }, { on := 1, ground := Ground.data }, { on := 5, ground := Ground.data }], guard := none } : Oper) (by kernel_rfl) rfl (fun K hK => ?_)
        go_simp
        (go_at_call 10; (with_reducible refine (HDO.out _ _ _ _ HPD.out).mono ?_); rintro e w3 ⟨cr, F3, M3, rfl, hp3, h63, h13⟩; have HP3 := Lib.hid hp3; have H63 := Lib.hid h63; have H13 := Lib.hid h13; have hN := hp3.kinw)
        refine hK.out _ _ ?_ (fun hS1 => ?_)
        · (first | exact hS | exact hS.trans (Kin.below hb) | exact hN)
        clear hK K hS; have hS := hS1; clear hS1
        (try simp only [Act.put, List.setIfInBounds_toArray, List.set_cons_zero, List.set_cons_succ])
        refine wpAnyH_take (i := 7) (oi := ({ dst := some 35, op := Op.move (Operand.tmp 42), type := 31, pos := "law.go:150", after := #[{ on := 6, ground := Ground.data }], guard := none } : Oper)) (v := ?_) rfl (by kernel_rfl) (by kernel_rfl) (by kernel_rfl) (fun _ _ _ h => h) (Or.inl ⟨by rfl, ?_⟩) hS ?_
        rotate_left
        · (intro w hSw; (try dsimp only at hSw); go_simp; try with_reducible rfl)
        (try simp only [Act.put, List.setIfInBounds_toArray, List.set_cons_zero, List.set_cons_succ])
        refine wpAnyH_take (i := 8) (oi := ({ dst := some 43, op := Op.extract (Operand.tmp 35) 0, type := 29, pos := "law.go:150", after := #[{ on := 7, ground := Ground.data }], guard := none } : Oper)) (v := ?_) rfl (by kernel_rfl) (by kernel_rfl) (by kernel_rfl) (fun _ _ _ h => h) (Or.inl ⟨by rfl, ?_⟩) hS ?_
        rotate_left
        · (intro w hSw; (try dsimp only at hSw); go_simp; try with_reducible rfl)
        (try simp only [Act.put, List.setIfInBounds_toArray, List.set_cons_zero, List.set_cons_succ])
        refine wpAnyH_take (i := 9) (oi := ({ dst := some 44, op := Op.extract (Operand.tmp 35) 1, type := 4, pos := "law.go:150", after := #[{ on := 7, ground := Ground.data }, { on := 10, ground := Ground.gcOnly Departure.lateStores }], guard := none } : Oper)) (v := ?_) rfl (by kernel_rfl) (by kernel_rfl) (by kernel_rfl) (fun _ _ _ h => h) (Or.inl ⟨by rfl, ?_⟩) hS ?_
        rotate_left
        · (intro w hSw; (try dsimp only at hSw); go_simp; try with_reducible rfl)
        (try simp only [Act.put, List.setIfInBounds_toArray, List.set_cons_zero, List.set_cons_succ])
        refine rg_one 10 ({ dst := none, op := Op.store 29 (Operand.tmp 6) (Operand.tmp 43), type := 0, pos := "law.go:150", after := #[{ on := 8, ground := Ground.data }, { on := 6, ground := Ground.chain }, { on := 0, ground := Ground.phase }, { on := 1, ground := Ground.phase }, { on := 2, ground := Ground.phase }, { on := 3, ground := Ground.phase }, { on := 4, ground := Ground.phase }, { on := 5, ground := Ground.phase }, { on := 6, ground := Ground.phase }, { on := 7, ground := Ground.phase }, { on := 8, ground := Ground.phase }, { on := 9, ground := Ground.textOnly Departure.lateStores }], guard := none } : Oper) (by kernel_rfl) rfl (fun K hK => ?_)
        rw [if_pos (by rfl)]; refine wp_store_row 29 (.tmp 6) (.tmp 43) rfl g1 cr rfl rfl _ c1 HP3.out.db.1 (by rw [H63.out]; exact disk_info) (by rw [H63.out, H6.out]) H13.out ?_; have HP5 := Lib.hid (HP3.out.store hH.out H63.out); clear hN; have hN := HP5.out.kinw
        refine hK.out _ _ ?_ (fun hS1 => ?_)
        · (first | exact hS | exact hS.trans (Kin.below hb) | exact hN)
        clear hK K hS; have hS := hS1; clear hS1
        (try simp only [Act.put])
        refine wpAnyH_done (by kernel_rfl) ?_ _
        clear hS
        go_wp2
        exact ⟨⟨i + 1, d', cr, F3, M3, by go_num, by omega, HP5, H63, H13⟩, by simp [intOf]; omega⟩
      · have hq : i = n := by omega
        subst hq
        have HGD := Lib.hid HP.out.good
        have HPD := Lib.hid (HP.out.next hH.out (Below.refl _ _).drew)
        go_wp2_with fail
        refine wp_region_held_drew (S := (fun W' => DB W' g1 c1)) (by kernel_rfl) HPD.out.db (fun hS => ?_)
        refine wpAnyH_take (i := 0) (oi := ({ dst := some 45, op := Op.move (Operand.tmp 5), type := 25, pos := "law.go:152", after := #[], guard := none } : Oper)) (v := ?_) rfl (by kernel_rfl) (by kernel_rfl) (by kernel_rfl) (fun _ _ _ h => h) (Or.inl ⟨by rfl, ?_⟩) hS ?_
        rotate_left
        · (intro w hSw; (try dsimp only at hSw); go_simp; try with_reducible rfl)
        (try simp only [Act.put, List.setIfInBounds_toArray, List.set_cons_zero, List.set_cons_succ])
        refine wpAnyH_take (i := 2) (oi := ({ dst := some 47, op := Op.load 29 (Operand.tmp 6), type := 29, pos := "law.go:152", after := #[{ on := 4, ground := Ground.gcOnly Departure.lateStores }], guard := none } : Oper)) (v := ?_) rfl (by kernel_rfl) (by kernel_rfl) (by kernel_rfl) (fun _ _ _ h => h) (Or.inl ⟨by rfl, ?_⟩) hS ?_
        rotate_left
        · (intro w hSw; (try dsimp only at hSw); refine exec_load_db (.tmp 6) ?_ ?_ hSw <;> rfl)
        (try simp only [Act.put, List.setIfInBounds_toArray, List.set_cons_zero, List.set_cons_succ])
        refine rg_both 1 3 ({ dst := some 46, op := Op.call { callee := Callee.value (Operand.func 15), args := #[Operand.tmp 45], argTypes := #[25] }, type := 25, pos := "law.go:152", after := #[{ on := 0, ground := Ground.data }], guard := none } : Oper) ({ dst := some 9, op := Op.alloc 29, type := 0, pos := "law.go:152", after := #[], guard := none } : Oper) (by kernel_rfl) rfl rfl (fun K hK => ?_) (fun K hK => ?_)
        · skip
          go_simp
          (go_at_call 15; (with_reducible refine (hH.out.clone _ p _ d HPD.out.dk HPD.out.good).mono ?_); rintro e w5 ⟨q, G, rfl, hk5, hx5⟩; have HP5 := Lib.hid (HPD.out.next hH.out hx5.none); have HK5 := Lib.hid hk5; have HX5 := Lib.hid hx5; have hN := HP5.out.db)
          refine hK.out _ _ ?_ (fun hS1 => ?_)
          · (first | exact hS | exact hS.next hb | exact hN)
          clear hK K hS; have hS := hS1; clear hS1
          (try simp only [Act.put, List.setIfInBounds_toArray, List.set_cons_zero, List.set_cons_succ])
          refine rg_one 3 ({ dst := some 9, op := Op.alloc 29, type := 0, pos := "law.go:152", after := #[], guard := none } : Oper) (by kernel_rfl) rfl (fun K hK => ?_)
          go_simp
          (obtain ⟨M4, hq4⟩ := cloneA hH.out HPD.out HK5.out HX5.out; have HQ4 := Lib.hid hq4; clear hN; have hN := hq4.sd.db)
          refine hK.out _ _ ?_ (fun hS1 => ?_)
          · (first | exact hS | exact hS.next hb | exact hN)
          clear hK K hS; have hS := hS1; clear hS1
          (try simp only [Act.put, List.setIfInBounds_toArray, List.set_cons_zero, List.set_cons_succ])
          refine wpAnyH_take (i := 4) (oi := ({ dst := some 8, op := Op.assign (Operand.tmp 46), type := 25, pos := "law.go:152", after := #[{ on := 1, ground := Ground.data }, { on := 1, ground := Ground.chain }, { on := 0, ground := Ground.phase }, { on := 1, ground := Ground.phase }, { on := 2, ground := Ground.textOnly Departure.lateStores }, { on := 3, ground := Ground.phase }], guard := none } : Oper)) (v := ?_) rfl (by kernel_rfl) (by kernel_rfl) (by kernel_rfl) (fun _ _ _ h => h) (Or.inl ⟨by rfl, ?_⟩) hS ?_
          rotate_left
          · (intro w hSw; (try dsimp only at hSw); go_simp; try with_reducible rfl)
          (try simp only [Act.put, List.setIfInBounds_toArray, List.set_cons_zero, List.set_cons_succ])
          refine rg_one 5 ({ dst := none, op := Op.store 29 (Operand.tmp 9) (Operand.tmp 47), type := 0, pos := "law.go:152", after := #[{ on := 3, ground := Ground.data }, { on := 2, ground := Ground.data }, { on := 4, ground := Ground.chain }, { on := 0, ground := Ground.phase }, { on := 1, ground := Ground.phase }, { on := 2, ground := Ground.phase }, { on := 3, ground := Ground.phase }, { on := 4, ground := Ground.phase }], guard := none } : Oper) (by kernel_rfl) rfl (fun K hK => ?_)
          rw [if_pos (by rfl)]; refine wp_store_row 29 (.tmp 9) (.tmp 47) rfl w5.heap.size c1 rfl rfl _ dz HQ4.out.ps.db.1 (by rw [H6.out]; exact disk_info) (by rw [H6.out]; rfl) H1.out ?_; have HQ5 := Lib.hid (HQ4.out.store hH.out H6.out); unfold dz at HQ5; obtain ⟨g2, hg2⟩ : ∃ g2, w5.heap.size = g2 := ⟨_, rfl⟩; have HG2 := Lib.hid hg2; clear hN hg2; have hN := HQ5.out.sd.db
          refine hK.out _ _ ?_ (fun hS1 => ?_)
          · (first | exact hS | exact hS.next hb | exact hN)
          clear hK K hS; have hS := hS1; clear hS1
          (try simp only [Act.put])
          refine wpAnyH_done (by kernel_rfl) ?_ _
          clear hS hN
          rw [HG2.out] at HQ5 ⊢
          go_wp2
          go_loopw [10] (fun iv wr => ∃ (i : Nat) (d2 : AD) (cs : Array Value) (G M : Nat → Bool), iv = .int .i64 i ∧ i ≤ m ∧ Hid (P2 DK W p g1 d c1 F q g2 d2 cs cs G M wr) ∧ Hid (cs.size = 6) ∧ Hid (cs.all (·.oneCell') = true)) (fun iv _ => m - (intOf iv).toNat)
          case atStart => exact ⟨0, _, _, _, _, rfl, by omega, HQ5, H6, H1⟩
          case round =>
            obtain ⟨i, d2, cs, G2, M2, rfl, hi, HQ, H62, H12⟩ := hrel
            by_cases hlt : (i : Int) < (m : Int)
            · obtain ⟨x, hx⟩ : ∃ x, k[i]? = some x := row_some (by rw [HN2.out]; omega)
              obtain ⟨b, off, al, cl, ak, ck, rfl, k0, k1, k2, k3, k4, k5, k6, k7, k8, r1, r2⟩ := HA2.out.at_ i x hx
              have HGX := Lib.hid (HGA2.out x (List.mem_of_getElem? hx))
              have HLX := Lib.hid (HFW2.out.2 x (List.mem_of_getElem? hx))
              have HCX := Lib.hid (And.intro k0 (And.intro k1 (And.intro k2 (And.intro k3 (And.intro k4 (And.intro k5 (And.intro k6 (And.intro k7 k8))))))))
              have HR1 := Lib.hid r1
              have HR2 := Lib.hid r2
              clear k0 k1 k2 k3 k4 k5 k6 k7 k8 r1 r2 hx
              obtain ⟨xk, xs, xt, xx, xy, xlen, xl, xklen, xkp, xg, xh⟩ := x
              simp only at HCX HLX HR1 HR2
              obtain ⟨d', hd'⟩ : ∃ d', d2.doR ⟨xk, xs, xt, xx, xy, xlen, xl, xklen, xkp, xg, xh⟩ = d' := ⟨_, rfl⟩
              have HDG : Hid (Good d') := Lib.hid (by rw [← hd']; exact HQ.out.ps.good.do HGX.out)
              have HDO : Hid (∀ w G M cr, P2 DK W p g1 d c1 F q g2 d2 cs cr G M w → Calls Try.prog 10 #[ptr q, .agg cr, .agg #[.int .u64 xk, .string xs, .string xt, .int .i64 xx, .int .i64 xy, .slice al xlen cl, .slice ak xklen ck, .int .i64 xg, .int .i64 xh]] w fun e w' => ∃ cr' G' M', e = .returned (.tuple #[.agg cr', .bool true]) ∧ P2 DK W p g1 d c1 F q g2 d' cs cr' G' M' w' ∧ cr'.size = 6 ∧ cr'.all (·.oneCell') = true ∧ Ext G w w' G' ∧ Ext M w w' M') := Lib.hid fun w G M cr h => by
                refine (do_any hH.out G M w q (.agg cr) d2 ⟨xk, xs, xt, xx, xy, xlen, xl, xklen, xkp, xg, xh⟩ al ak cl ck h.ps.dk h.ps.good h.ps.rd h.ps.sub h.ps.foot HGX.out (HR1.out.kin h.ps.kin) (HR2.out.kin h.ps.kin) (by have := HLX.out; show xlen ≤ 1000000; omega)).mono ?_
                rintro e w' ⟨v', G', M', rfl, hE⟩
                obtain ⟨cr', rfl, h6, h1⟩ := hE.rd.cells
                rw [hd'] at hE
                exact ⟨cr', G', M', rfl, h.do hH.out HDG.out hE, h6, h1, hE.ex, hE.exm⟩
              clear hd'
              have HQD := Lib.hid (HQ.out.next hH.out (Below.refl _ _).drew)
              go_wp2_with fail
              refine wp_region_held_drew (S := (fun W' => DB W' g2 cs ∧ Kin W W')) (by kernel_rfl) ⟨HQD.out.ps.db, HQD.out.ps.kinw⟩ (fun hS => ?_)
              refine wpAnyH_take (i := 0) (oi := ({ dst := some 55, op := Op.move (Operand.tmp 8), type := 25, pos := "law.go:154", after := #[], guard := none } : Oper)) (v := ?_) rfl (by kernel_rfl) (by kernel_rfl) (by kernel_rfl) (fun _ _ _ h => h) (Or.inl ⟨by rfl, ?_⟩) hS ?_
              rotate_left
              · (intro w hSw; (try dsimp only at hSw); go_simp; try with_reducible rfl)
              (try simp only [Act.put, List.setIfInBounds_toArray, List.set_cons_zero, List.set_cons_succ])
              refine wpAnyH_take (i := 1) (oi := ({ dst := some 56, op := Op.load 29 (Operand.tmp 9), type := 29, pos := "law.go:154", after := #[], guard := none } : Oper)) (v := ?_) rfl (by kernel_rfl) (by kernel_rfl) (by kernel_rfl) (fun _ _ _ h => h) (Or.inl ⟨by rfl, ?_⟩) hS ?_
              rotate_left
              · (intro w hSw; (try dsimp only at hSw); refine exec_load_db (.tmp 9) ?_ ?_ hSw.1 <;> rfl)
              (try simp only [Act.put, List.setIfInBounds_toArray, List.set_cons_zero, List.set_cons_succ])
              refine wpAnyH_take (i := 2) (oi := ({ dst := some 57, op := Op.move (Operand.tmp 1), type := 22, pos := "law.go:154", after := #[], guard := none } : Oper)) (v := ?_) rfl (by kernel_rfl) (by kernel_rfl) (by kernel_rfl) (fun _ _ _ h => h) (Or.inl ⟨by rfl, ?_⟩) hS ?_
              rotate_left
              · (intro w hSw; (try dsimp only at hSw); go_simp; try with_reducible rfl)
              (try simp only [Act.put, List.setIfInBounds_toArray, List.set_cons_zero, List.set_cons_succ])
              refine wpAnyH_take (i := 3) (oi := ({ dst := some 58, op := Op.move (Operand.tmp 10), type := 3, pos := "law.go:154", after := #[], guard := none } : Oper)) (v := ?_) rfl (by kernel_rfl) (by kernel_rfl) (by kernel_rfl) (fun _ _ _ h => h) (Or.inl ⟨by rfl, ?_⟩) hS ?_
              rotate_left
              · (intro w hSw; (try dsimp only at hSw); go_simp; try with_reducible rfl)
              (try simp only [Act.put, List.setIfInBounds_toArray, List.set_cons_zero, List.set_cons_succ])
              refine wpAnyH_take (i := 4) (oi := ({ dst := some 59, op := Op.indexAddr 22 (Operand.tmp 57) (Operand.tmp 58), type := 0, pos := "law.go:154", after := #[{ on := 2, ground := Ground.data }, { on := 3, ground := Ground.data }], guard := none } : Oper)) (v := ?_) rfl (by kernel_rfl) (by kernel_rfl) (by kernel_rfl) (fun _ _ _ h => h) (Or.inl ⟨by rfl, ?_⟩) hS ?_
              rotate_left
              · (intro w hSw; (try dsimp only at hSw); go_simp; try with_reducible rfl)
              (try simp only [Act.put, List.setIfInBounds_toArray, List.set_cons_zero, List.set_cons_succ])
              refine wpAnyH_take (i := 5) (oi := ({ dst := some 60, op := Op.load 38 (Operand.tmp 59), type := 38, pos := "law.go:154", after := #[{ on := 4, ground := Ground.data }], guard := none } : Oper)) (v := ?_) rfl (by kernel_rfl) (by kernel_rfl) (by kernel_rfl) (fun _ _ _ h => h) (Or.inl ⟨by rfl, ?_⟩) hS ?_
              rotate_left
              · (intro w hSw; (try dsimp only at hSw); obtain ⟨z0, z1, z2, z3, z4, z5, z6, z7, z8⟩ := HCX.out; have y0 := hSw.2 _ _ z0; have y1 := hSw.2 _ _ z1; have y2 := hSw.2 _ _ z2; have y3 := hSw.2 _ _ z3; have y4 := hSw.2 _ _ z4; have y5 := hSw.2 _ _ z5; have y6 := hSw.2 _ _ z6; have y7 := hSw.2 _ _ z7; have y8 := hSw.2 _ _ z8; go_simp; try with_reducible rfl)
              (try simp only [Act.put, List.setIfInBounds_toArray, List.set_cons_zero, List.set_cons_succ])
              refine rg_both 6 10 ({ dst := some 61, op := Op.call { callee := Callee.value (Operand.func 10), args := #[Operand.tmp 55, Operand.tmp 56, Operand.tmp 60], argTypes := #[25, 29, 38] }, type := 31, pos := "law.go:154", after := #[{ on := 0, ground := Ground.data }, { on := 1, ground := Ground.data }, { on := 5, ground := Ground.data }], guard := none } : Oper) ({ dst := some 11, op := Op.alloc 29, type := 0, pos := "law.go:154", after := #[], guard := none } : Oper) (by kernel_rfl) rfl rfl (fun K hK => ?_) (fun K hK => ?_)
              · skip
                go_simp
                (go_at_call 10; (with_reducible refine (HDO.out _ _ _ _ HQD.out).mono ?_); rintro e w3 ⟨cr, F3, M3, rfl, hp3, h63, h13, hx3, hy3⟩; have HP3 := Lib.hid hp3; have H63 := Lib.hid h63; have H13 := Lib.hid h13; have hN := And.intro hp3.ps.db hp3.ps.kinw)
                refine hK.out _ _ ?_ (fun hS1 => ?_)
                · (first | exact hS | exact ⟨hS.1.next hb, hS.2.trans (Kin.below hb)⟩ | exact hN)
                clear hK K hS; have hS := hS1; clear hS1
                (try simp only [Act.put, List.setIfInBounds_toArray, List.set_cons_zero, List.set_cons_succ])
                refine wpAnyH_take (i := 7) (oi := ({ dst := some 54, op := Op.move (Operand.tmp 61), type := 31, pos := "law.go:154", after := #[{ on := 6, ground := Ground.data }], guard := none } : Oper)) (v := ?_) rfl (by kernel_rfl) (by kernel_rfl) (by kernel_rfl) (fun _ _ _ h => h) (Or.inl ⟨by rfl, ?_⟩) hS ?_
                rotate_left
                · (intro w hSw; (try dsimp only at hSw); go_simp; try with_reducible rfl)
                (try simp only [Act.put, List.setIfInBounds_toArray, List.set_cons_zero, List.set_cons_succ])
                refine wpAnyH_take (i := 8) (oi := ({ dst := some 62, op := Op.extract (Operand.tmp 54) 0, type := 29, pos := "law.go:154", after := #[{ on := 7, ground := Ground.data }], guard := none } : Oper)) (v := ?_) rfl (by kernel_rfl) (by kernel_rfl) (by kernel_rfl) (fun _ _ _ h => h) (Or.inl ⟨by rfl, ?_⟩) hS ?_
                rotate_left
                · (intro w hSw; (try dsimp only at hSw); go_simp; try with_reducible rfl)
                (try simp only [Act.put, List.setIfInBounds_toArray, List.set_cons_zero, List.set_cons_succ])
                refine wpAnyH_take (i := 9) (oi := ({ dst := some 63, op := Op.extract (Operand.tmp 54) 1, type := 4, pos := "law.go:154", after := #[{ on := 7, ground := Ground.data }, { on := 11, ground := Ground.gcOnly Departure.lateStores }], guard := none } : Oper)) (v := ?_) rfl (by kernel_rfl) (by kernel_rfl) (by kernel_rfl) (fun _ _ _ h => h) (Or.inl ⟨by rfl, ?_⟩) hS ?_
                rotate_left
                · (intro w hSw; (try dsimp only at hSw); go_simp; try with_reducible rfl)
                (try simp only [Act.put, List.setIfInBounds_toArray, List.set_cons_zero, List.set_cons_succ])
                refine rg_one 10 ({ dst := some 11, op := Op.alloc 29, type := 0, pos := "law.go:154", after := #[], guard := none } : Oper) (by kernel_rfl) rfl (fun K hK => ?_)
                go_simp
                (have hp4 := HP3.out.alloc hH.out (.cells #[.slice none 0 0, .int .i64 0, .int .i64 0, .bool false, .bool false, .int .i64 0] 29); have HP4 := Lib.hid hp4.1; have HMQ := Lib.hid hp4.2; have HDX4 : Hid (DB (w3.alloc (.cells #[.slice none 0 0, .int .i64 0, .int .i64 0, .bool false, .bool false, .int .i64 0] 29)) w3.heap.size dz) := Lib.hid ⟨heap_alloc_last w3 _, rfl⟩; clear hN; have hN := And.intro hp4.1.ps.db hp4.1.ps.kinw)
                refine hK.out _ _ ?_ (fun hS1 => ?_)
                · (first | exact hS | exact ⟨hS.1.next hb, hS.2.trans (Kin.below hb)⟩ | exact hN)
                clear hK K hS; have hS := hS1; clear hS1
                (try simp only [Act.put, List.setIfInBounds_toArray, List.set_cons_zero, List.set_cons_succ])
                refine rg_one 11 ({ dst := none, op := Op.store 29 (Operand.tmp 11) (Operand.tmp 62), type := 0, pos := "law.go:154", after := #[{ on := 10, ground := Ground.data }, { on := 8, ground := Ground.data }, { on := 6, ground := Ground.chain }, { on := 0, ground := Ground.phase }, { on := 1, ground := Ground.phase }, { on := 2, ground := Ground.phase }, { on := 3, ground := Ground.phase }, { on := 4, ground := Ground.phase }, { on := 5, ground := Ground.phase }, { on := 6, ground := Ground.phase }, { on := 7, ground := Ground.phase }, { on := 8, ground := Ground.phase }, { on := 9, ground := Ground.textOnly Departure.lateStores }, { on := 10, ground := Ground.phase }], guard := none } : Oper) (by kernel_rfl) rfl (fun K hK => ?_)
                rw [if_pos (by rfl)]; refine wp_store_row 29 (.tmp 11) (.tmp 62) rfl w3.heap.size cr rfl rfl _ dz HDX4.out.1 (by rw [H63.out]; exact disk_info) (by rw [H63.out]; rfl) H13.out ?_; have HP5 := Lib.hid (HP4.out.over hH.out w3.heap.size (by have := HP3.out.ps.glt; omega) (by have := HP3.out.glt1; omega) HMQ.out.1 HMQ.out.2.1 HMQ.out.2.2 HP3.out.ps.ex.size cr); have HDX5 := Lib.hid (HDX4.out.row H63.out); clear hN; have hN := And.intro HP5.out.ps.db HP5.out.ps.kinw
                refine hK.out _ _ ?_ (fun hS1 => ?_)
                · (first | exact hS | exact ⟨hS.1.next hb, hS.2.trans (Kin.below hb)⟩ | exact hN)
                clear hK K hS; have hS := hS1; clear hS1
                (try simp only [Act.put])
                refine wpAnyH_take (i := 12) (oi := ({ dst := some 12, op := Op.assign (Operand.tmp 63), type := 4, pos := "law.go:154", after := #[{ on := 9, ground := Ground.data }, { on := 11, ground := Ground.chain }, { on := 0, ground := Ground.phase }, { on := 1, ground := Ground.phase }, { on := 2, ground := Ground.phase }, { on := 3, ground := Ground.phase }, { on := 4, ground := Ground.phase }, { on := 5, ground := Ground.phase }, { on := 6, ground := Ground.phase }, { on := 7, ground := Ground.phase }, { on := 8, ground := Ground.phase }, { on := 9, ground := Ground.phase }, { on := 10, ground := Ground.phase }, { on := 11, ground := Ground.phase }], guard := none } : Oper)) (v := ?_) rfl (by kernel_rfl) (by kernel_rfl) (by kernel_rfl) (fun _ _ _ h => h) (Or.inl ⟨by rfl, ?_⟩) hS ?_
                rotate_left
                · (intro w hSw; (try dsimp only at hSw); go_simp; try with_reducible rfl)
                (try simp only [Act.put, List.setIfInBounds_toArray, List.set_cons_zero, List.set_cons_succ])
                refine wpAnyH_done (by kernel_rfl) ?_ _
                clear hS hN
                go_wp2_with (first | (refine wpList_store_row rfl 29 _ _ rfl g2 cr rfl rfl _ cs HP5.out.ps.db.1 (by rw [H63.out]; exact disk_info) (by rw [H63.out, H62.out]) H13.out ?_; have HP6 := Lib.hid (HP5.out.store hH.out H63.out)) | (refine wpList_load_row rfl 29 _ rfl _ rfl _ cr (0, 0) _ HDX5.out.1 Try.underlying29 rfl HDX5.out.info ?_))
                exact ⟨⟨i + 1, d', cr, F3, _, by go_num, by omega, HP6, H63, H13⟩, by simp [intOf]; omega⟩
              · skip
                go_simp
                (have hp4 := HQD.out.alloc hH.out (.cells #[.slice none 0 0, .int .i64 0, .int .i64 0, .bool false, .bool false, .int .i64 0] 29); have HP4 : Hid (P2 DK W p g1 d c1 F q g2 d2 cs cs G2 (plusF M2 wr.heap.size (wr.heap.size + 1)) (wr.alloc (.cells #[.slice none 0 0, .int .i64 0, .int .i64 0, .bool false, .bool false, .int .i64 0] 29)).drew) := Lib.hid hp4.1; have HMQ := Lib.hid hp4.2; have HDX4 : Hid (DB (wr.alloc (.cells #[.slice none 0 0, .int .i64 0, .int .i64 0, .bool false, .bool false, .int .i64 0] 29)).drew wr.heap.size dz) := Lib.hid ⟨heap_alloc_last wr _, rfl⟩; have hN := And.intro HP4.out.ps.db HP4.out.ps.kinw)
                refine hK.out _ _ ?_ (fun hS1 => ?_)
                · (first | exact hS | exact ⟨hS.1.next hb, hS.2.trans (Kin.below hb)⟩ | exact hN)
                clear hK K hS; have hS := hS1; clear hS1
                (try simp only [Act.put, List.setIfInBounds_toArray, List.set_cons_zero, List.set_cons_succ])
                refine rg_one 6 ({ dst := some 61, op := Op.call { callee := Callee.value (Operand.func 10), args := #[Operand.tmp 55, Operand.tmp 56, Operand.tmp 60], argTypes := #[25, 29, 38] }, type := 31, pos := "law.go:154", after := #[{ on := 0, ground := Ground.data }, { on := 1, ground := Ground.data }, { on := 5, ground := Ground.data }], guard := none } : Oper) (by kernel_rfl) rfl (fun K hK => ?_)
                go_simp
                (go_at_call 10; (with_reducible refine (HDO.out _ _ _ _ HP4.out).mono ?_); rintro e w3 ⟨cr, F3, M3, rfl, hp3, h63, h13, hx3, hy3⟩; have HP3 := Lib.hid hp3; have H63 := Lib.hid h63; have H13 := Lib.hid h13; have hql : wr.heap.size < (wr.alloc (.cells #[.slice none 0 0, .int .i64 0, .int .i64 0, .bool false, .bool false, .int .i64 0] 29)).drew.heap.size := (Array.getElem?_eq_some_iff.1 HDX4.out.1).1; have HMQ3 : Hid (M3 wr.heap.size = true ∧ F3 wr.heap.size = false ∧ F wr.heap.size = false) := Lib.hid ⟨by rw [hy3.foot _ hql]; exact HMQ.out.1, by rw [hx3.foot _ hql]; exact HMQ.out.2.1, HMQ.out.2.2⟩; have HDX3 : Hid (DB w3 wr.heap.size dz) := Lib.hid ⟨kept hx3 HDX4.out.1 HMQ.out.2.1, rfl⟩; clear hN; have hN := And.intro hp3.ps.db hp3.ps.kinw)
                refine hK.out _ _ ?_ (fun hS1 => ?_)
                · (first | exact hS | exact ⟨hS.1.next hb, hS.2.trans (Kin.below hb)⟩ | exact hN)
                clear hK K hS; have hS := hS1; clear hS1
                (try simp only [Act.put, List.setIfInBounds_toArray, List.set_cons_zero, List.set_cons_succ])
                refine wpAnyH_take (i := 7) (oi := ({ dst := some 54, op := Op.move (Operand.tmp 61), type := 31, pos := "law.go:154", after := #[{ on := 6, ground := Ground.data }], guard := none } : Oper)) (v := ?_) rfl (by kernel_rfl) (by kernel_rfl) (by kernel_rfl) (fun _ _ _ h => h) (Or.inl ⟨by rfl, ?_⟩) hS ?_
                rotate_left
                · (intro w hSw; (try dsimp only at hSw); go_simp; try with_reducible rfl)
                (try simp only [Act.put, List.setIfInBounds_toArray, List.set_cons_zero, List.set_cons_succ])
                refine wpAnyH_take (i := 8) (oi := ({ dst := some 62, op := Op.extract (Operand.tmp 54) 0, type := 29, pos := "law.go:154", after := #[{ on := 7, ground := Ground.data }], guard := none } : Oper)) (v := ?_) rfl (by kernel_rfl) (by kernel_rfl) (by kernel_rfl) (fun _ _ _ h => h) (Or.inl ⟨by rfl, ?_⟩) hS ?_
                rotate_left
                · (intro w hSw; (try dsimp only at hSw); go_simp; try with_reducible rfl)
                (try simp only [Act.put, List.setIfInBounds_toArray, List.set_cons_zero, List.set_cons_succ])
                refine wpAnyH_take (i := 9) (oi := ({ dst := some 63, op := Op.extract (Operand.tmp 54) 1, type := 4, pos := "law.go:154", after := #[{ on := 7, ground := Ground.data }, { on := 11, ground := Ground.gcOnly Departure.lateStores }], guard := none } : Oper)) (v := ?_) rfl (by kernel_rfl) (by kernel_rfl) (by kernel_rfl) (fun _ _ _ h => h) (Or.inl ⟨by rfl, ?_⟩) hS ?_
                rotate_left
                · (intro w hSw; (try dsimp only at hSw); go_simp; try with_reducible rfl)
                (try simp only [Act.put, List.setIfInBounds_toArray, List.set_cons_zero, List.set_cons_succ])
                refine rg_one 11 ({ dst := none, op := Op.store 29 (Operand.tmp 11) (Operand.tmp 62), type := 0, pos := "law.go:154", after := #[{ on := 10, ground := Ground.data }, { on := 8, ground := Ground.data }, { on := 6, ground := Ground.chain }, { on := 0, ground := Ground.phase }, { on := 1, ground := Ground.phase }, { on := 2, ground := Ground.phase }, { on := 3, ground := Ground.phase }, { on := 4, ground := Ground.phase }, { on := 5, ground := Ground.phase }, { on := 6, ground := Ground.phase }, { on := 7, ground := Ground.phase }, { on := 8, ground := Ground.phase }, { on := 9, ground := Ground.textOnly Departure.lateStores }, { on := 10, ground := Ground.phase }], guard := none } : Oper) (by kernel_rfl) rfl (fun K hK => ?_)
                rw [if_pos (by rfl)]; refine wp_store_row 29 (.tmp 11) (.tmp 62) rfl wr.heap.size cr rfl rfl _ dz HDX3.out.1 (by rw [H63.out]; exact disk_info) (by rw [H63.out]; rfl) H13.out ?_; have HP5 := Lib.hid (HP3.out.over hH.out wr.heap.size (by have := HQ.out.ps.glt; omega) (by have := HQ.out.glt1; omega) HMQ3.out.1 HMQ3.out.2.1 HMQ3.out.2.2 HQ.out.ps.ex.size cr); have HDX5 := Lib.hid (HDX3.out.row H63.out); clear hN; have hN := And.intro HP5.out.ps.db HP5.out.ps.kinw
                refine hK.out _ _ ?_ (fun hS1 => ?_)
                · (first | exact hS | exact ⟨hS.1.next hb, hS.2.trans (Kin.below hb)⟩ | exact hN)
                clear hK K hS; have hS := hS1; clear hS1
                (try simp only [Act.put])
                refine wpAnyH_take (i := 12) (oi := ({ dst := some 12, op := Op.assign (Operand.tmp 63), type := 4, pos := "law.go:154", after := #[{ on := 9, ground := Ground.data }, { on := 11, ground := Ground.chain }, { on := 0, ground := Ground.phase }, { on := 1, ground := Ground.phase }, { on := 2, ground := Ground.phase }, { on := 3, ground := Ground.phase }, { on := 4, ground := Ground.phase }, { on := 5, ground := Ground.phase }, { on := 6, ground := Ground.phase }, { on := 7, ground := Ground.phase }, { on := 8, ground := Ground.phase }, { on := 9, ground := Ground.phase }, { on := 10, ground := Ground.phase }, { on := 11, ground := Ground.phase }], guard := none } : Oper)) (v := ?_) rfl (by kernel_rfl) (by kernel_rfl) (by kernel_rfl) (fun _ _ _ h => h) (Or.inl ⟨by rfl, ?_⟩) hS ?_
                rotate_left
                · (intro w hSw; (try dsimp only at hSw); go_simp; try with_reducible rfl)
                (try simp only [Act.put, List.setIfInBounds_toArray, List.set_cons_zero, List.set_cons_succ])
                refine wpAnyH_done (by kernel_rfl) ?_ _
                clear hS hN
                go_wp2_with (first | (refine wpList_store_row rfl 29 _ _ rfl g2 cr rfl rfl _ cs HP5.out.ps.db.1 (by rw [H63.out]; exact disk_info) (by rw [H63.out, H62.out]) H13.out ?_; have HP6 := Lib.hid (HP5.out.store hH.out H63.out)) | (refine wpList_load_row rfl 29 _ rfl _ rfl _ cr (0, 0) _ HDX5.out.1 Try.underlying29 rfl HDX5.out.info ?_))
                exact ⟨⟨i + 1, d', cr, F3, _, by go_num, by omega, HP6, H63, H13⟩, by simp [intOf]; omega⟩
            · have hq : i = m := by omega
              subst hq
              have HQ0 := Lib.hid HQ.out.ps.ex.size
              go_wp2_with (first
                | (go_at_call 17; (with_reducible refine (hN.out.make _ _ _).mono ?_); rintro e w9 ⟨rfl, hb⟩; have HQ' := Lib.hid (HQ.out.next hH.out hb); clear HQ hb; have HQ := HQ'; clear HQ')
                | (go_at_call 18; (with_reducible refine (hN.out.write _ _ _).mono ?_); rintro e w9 ⟨rfl, hb⟩; have HQ' := Lib.hid (HQ.out.next hH.out hb); clear HQ hb; have HQ := HQ'; clear HQ')
                | (go_at_call 16; (with_reducible refine (hN.out.read _ _ _ _).mono ?_); rintro e w9 ⟨v9, rfl, hb⟩; have HQ' := Lib.hid (HQ.out.next hH.out hb); clear HQ hb; have HQ := HQ'; clear HQ')
                | (go_at_call 19; (with_reducible refine (hN.out.sync _ _).mono ?_); rintro e w9 ⟨rfl, hb⟩; have HQ' := Lib.hid (HQ.out.next hH.out hb); clear HQ hb; have HQ := HQ'; clear HQ')
                | (go_at_call 20; (with_reducible refine (hN.out.rename _ _ _).mono ?_); rintro e w9 ⟨rfl, hb⟩; have HQ' := Lib.hid (HQ.out.next hH.out hb); clear HQ hb; have HQ := HQ'; clear HQ')
                | (go_at_call 21; (with_reducible refine (hN.out.remove _ _).mono ?_); rintro e w9 ⟨rfl, hb⟩; have HQ' := Lib.hid (HQ.out.next hH.out hb); clear HQ hb; have HQ := HQ'; clear HQ')
                | (go_at_call 22; (with_reducible refine (hN.out.fail _ _).mono ?_); rintro e w9 ⟨rfl, hb⟩; have HQ' := Lib.hid (HQ.out.next hH.out hb); clear HQ hb; have HQ := HQ'; clear HQ')
                | (go_at_call 14; (with_reducible refine (hN.out.crash _).mono ?_); rintro e w9 ⟨rfl, hb⟩; have HQ' := Lib.hid (HQ.out.next hH.out hb); clear HQ hb; have HQ := HQ'; clear HQ')
                | (go_at_call 23; (with_reducible refine (hN.out.size _ _).mono ?_); rintro e w9 ⟨rfl, hb⟩; have HQ' := Lib.hid (HQ.out.next hH.out hb); clear HQ hb; have HQ := HQ'; clear HQ')
                | (go_at_call 24; (with_reducible refine (hN.out.list _).mono ?_); rintro e w9 ⟨a8, c8, rfl, hb⟩; have HQ' := Lib.hid (HQ.out.next hH.out hb); clear HQ hb; have HQ := HQ'; clear HQ')
                | (go_at_call 25; (with_reducible refine (hN.out.files _).mono ?_); rintro e w9 ⟨a9, c9, rfl, hb⟩; have HQ' := Lib.hid (HQ.out.next hH.out hb); clear HQ hb; have HQ := HQ'; clear HQ')
                | (go_at_call 26; (with_reducible refine (hN.out.used _).mono ?_); rintro e w9 ⟨rfl, hb⟩; have HQ' := Lib.hid (HQ.out.next hH.out hb); clear HQ hb; have HQ := HQ'; clear HQ')
                | (go_at_call 27; (with_reducible refine (hN.out.waiting _).mono ?_); rintro e w9 ⟨rfl, hb⟩; have HQ' := Lib.hid (HQ.out.next hH.out hb); clear HQ hb; have HQ := HQ'; clear HQ')
                | (go_at_call 28; (with_reducible refine (hN.out.ops _).mono ?_); rintro e w9 ⟨rfl, hb⟩; have HQ' := Lib.hid (HQ.out.next hH.out hb); clear HQ hb; have HQ := HQ'; clear HQ')
                | (go_at_call 29; (with_reducible refine (hN.out.down _).mono ?_); rintro e w9 ⟨rfl, hb⟩; have HQ' := Lib.hid (HQ.out.next hH.out hb); clear HQ hb; have HQ := HQ'; clear HQ')
                | (go_at_call 15; (with_reducible refine (hN.out.clone _).mono ?_); rintro e w9 ⟨rfl, hb⟩; have HQ' := Lib.hid (HQ.out.next hH.out hb); clear HQ hb; have HQ := HQ'; clear HQ')
                | (refine wpl_load_dbG (by rfl) _ rfl g2 rfl cs HQ.out.ps.db ?_)
                | (refine wpl_load_dbG (by rfl) _ rfl g1 rfl c1 HQ.out.sd.db ?_)
                | (go_at_call 11; (with_reducible refine (lsame_any hH.out _ _ q _ d2 HQ.out.ps.dk HQ.out.ps.good (HQ.out.ps.rd.kin (unmask _ _))).mono ?_); rintro e w9 ⟨rfl, hb⟩; have HQ' := Lib.hid (HQ.out.next hH.out hb); clear HQ hb; have HQ := HQ'; clear HQ')
                | (go_at_call 11; (with_reducible refine (lsame_any hH.out _ _ p _ d HQ.out.sd.dk HGD.out (HQ.out.sd.rd.kin (unmask _ _))).mono ?_); rintro e w9 ⟨rfl, hb⟩; have HQ' := Lib.hid (HQ.out.next hH.out hb); clear HQ hb; have HQ := HQ'; clear HQ')
                | (go_at_call 7; (with_reducible refine (lawake_any hH.out _).mono ?_); rintro e w9 ⟨rfl, hb⟩; have HB9 := Lib.hid (HQ.out.ps.ex.trans (Ext.below hb)).none; clear hb))
              go_ret
              exact ⟨rfl, HB9.out⟩
        · skip
          go_simp
          (have hb : Below wr.drew.heap.size wr.drew (wr.alloc (.cells #[.slice none 0 0, .int .i64 0, .int .i64 0, .bool false, .bool false, .int .i64 0] 29)).drew := below_drew_alloc _ _; have hN := hS.next hb)
          refine hK.out _ _ ?_ (fun hS1 => ?_)
          · (first | exact hS | exact hS.next hb | exact hN)
          clear hK K hS; have hS := hS1; clear hS1
          (try simp only [Act.put, List.setIfInBounds_toArray, List.set_cons_zero, List.set_cons_succ])
          refine rg_one 1 ({ dst := some 46, op := Op.call { callee := Callee.value (Operand.func 15), args := #[Operand.tmp 45], argTypes := #[25] }, type := 25, pos := "law.go:152", after := #[{ on := 0, ground := Ground.data }], guard := none } : Oper) (by kernel_rfl) rfl (fun K hK => ?_)
          go_simp
          (go_at_call 15; (with_reducible refine (hH.out.clone _ p _ d (hH.out.below HPD.out.dk (below_drew_alloc wr (.cells #[.slice none 0 0, .int .i64 0, .int .i64 0, .bool false, .bool false, .int .i64 0] 29))) HPD.out.good).mono ?_); rintro e w5 ⟨q, G, rfl, hk5, hx5⟩; obtain ⟨M4, hq4⟩ := cloneB hH.out HPD.out hk5 hx5; have HQ4 : Hid (P2 DK W p g1 d c1 F q wr.heap.size d dz c1 G M4 w5) := Lib.hid hq4; clear hN; have hN := hq4.sd.db)
          refine hK.out _ _ ?_ (fun hS1 => ?_)
          · (first | exact hS | exact hS.next hb | exact hN)
          clear hK K hS; have hS := hS1; clear hS1
          (try simp only [Act.put, List.setIfInBounds_toArray, List.set_cons_zero, List.set_cons_succ])
          refine wpAnyH_take (i := 4) (oi := ({ dst := some 8, op := Op.assign (Operand.tmp 46), type := 25, pos := "law.go:152", after := #[{ on := 1, ground := Ground.data }, { on := 1, ground := Ground.chain }, { on := 0, ground := Ground.phase }, { on := 1, ground := Ground.phase }, { on := 2, ground := Ground.textOnly Departure.lateStores }, { on := 3, ground := Ground.phase }], guard := none } : Oper)) (v := ?_) rfl (by kernel_rfl) (by kernel_rfl) (by kernel_rfl) (fun _ _ _ h => h) (Or.inl ⟨by rfl, ?_⟩) hS ?_
          rotate_left
          · (intro w hSw; (try dsimp only at hSw); go_simp; try with_reducible rfl)
          (try simp only [Act.put, List.setIfInBounds_toArray, List.set_cons_zero, List.set_cons_succ])
          refine rg_one 5 ({ dst := none, op := Op.store 29 (Operand.tmp 9) (Operand.tmp 47), type := 0, pos := "law.go:152", after := #[{ on := 3, ground := Ground.data }, { on := 2, ground := Ground.data }, { on := 4, ground := Ground.chain }, { on := 0, ground := Ground.phase }, { on := 1, ground := Ground.phase }, { on := 2, ground := Ground.phase }, { on := 3, ground := Ground.phase }, { on := 4, ground := Ground.phase }], guard := none } : Oper) (by kernel_rfl) rfl (fun K hK => ?_)
          rw [if_pos (by rfl)]; refine wp_store_row 29 (.tmp 9) (.tmp 47) rfl wr.heap.size c1 rfl rfl _ dz HQ4.out.ps.db.1 (by rw [H6.out]; exact disk_info) (by rw [H6.out]; rfl) H1.out ?_; have HQ5 := Lib.hid (HQ4.out.store hH.out H6.out); obtain ⟨g2, hg2⟩ : ∃ g2, wr.heap.size = g2 := ⟨_, rfl⟩; have HG2 : Hid (wr.heap.size = g2) := Lib.hid hg2; clear hN hg2; have hN := HQ5.out.sd.db
          refine hK.out _ _ ?_ (fun hS1 => ?_)
          · (first | exact hS | exact hS.next hb | exact hN)
          clear hK K hS; have hS := hS1; clear hS1
          (try simp only [Act.put])
          refine wpAnyH_done (by kernel_rfl) ?_ _
          clear hS hN
          rw [HG2.out] at HQ5 ⊢
          go_wp2
          go_loopw [10] (fun iv wr => ∃ (i : Nat) (d2 : AD) (cs : Array Value) (G M : Nat → Bool), iv = .int .i64 i ∧ i ≤ m ∧ Hid (P2 DK W p g1 d c1 F q g2 d2 cs cs G M wr) ∧ Hid (cs.size = 6) ∧ Hid (cs.all (·.oneCell') = true)) (fun iv _ => m - (intOf iv).toNat)
          case atStart => exact ⟨0, _, _, _, _, rfl, by omega, HQ5, H6, H1⟩
          case round =>
            obtain ⟨i, d2, cs, G2, M2, rfl, hi, HQ, H62, H12⟩ := hrel
            by_cases hlt : (i : Int) < (m : Int)
            · obtain ⟨x, hx⟩ : ∃ x, k[i]? = some x := row_some (by rw [HN2.out]; omega)
              obtain ⟨b, off, al, cl, ak, ck, rfl, k0, k1, k2, k3, k4, k5, k6, k7, k8, r1, r2⟩ := HA2.out.at_ i x hx
              have HGX := Lib.hid (HGA2.out x (List.mem_of_getElem? hx))
              have HLX := Lib.hid (HFW2.out.2 x (List.mem_of_getElem? hx))
              have HCX := Lib.hid (And.intro k0 (And.intro k1 (And.intro k2 (And.intro k3 (And.intro k4 (And.intro k5 (And.intro k6 (And.intro k7 k8))))))))
              have HR1 := Lib.hid r1
              have HR2 := Lib.hid r2
              clear k0 k1 k2 k3 k4 k5 k6 k7 k8 r1 r2 hx
              obtain ⟨xk, xs, xt, xx, xy, xlen, xl, xklen, xkp, xg, xh⟩ := x
              simp only at HCX HLX HR1 HR2
              obtain ⟨d', hd'⟩ : ∃ d', d2.doR ⟨xk, xs, xt, xx, xy, xlen, xl, xklen, xkp, xg, xh⟩ = d' := ⟨_, rfl⟩
              have HDG : Hid (Good d') := Lib.hid (by rw [← hd']; exact HQ.out.ps.good.do HGX.out)
              have HDO : Hid (∀ w G M cr, P2 DK W p g1 d c1 F q g2 d2 cs cr G M w → Calls Try.prog 10 #[ptr q, .agg cr, .agg #[.int .u64 xk, .string xs, .string xt, .int .i64 xx, .int .i64 xy, .slice al xlen cl, .slice ak xklen ck, .int .i64 xg, .int .i64 xh]] w fun e w' => ∃ cr' G' M', e = .returned (.tuple #[.agg cr', .bool true]) ∧ P2 DK W p g1 d c1 F q g2 d' cs cr' G' M' w' ∧ cr'.size = 6 ∧ cr'.all (·.oneCell') = true ∧ Ext G w w' G' ∧ Ext M w w' M') := Lib.hid fun w G M cr h => by
                refine (do_any hH.out G M w q (.agg cr) d2 ⟨xk, xs, xt, xx, xy, xlen, xl, xklen, xkp, xg, xh⟩ al ak cl ck h.ps.dk h.ps.good h.ps.rd h.ps.sub h.ps.foot HGX.out (HR1.out.kin h.ps.kin) (HR2.out.kin h.ps.kin) (by have := HLX.out; show xlen ≤ 1000000; omega)).mono ?_
                rintro e w' ⟨v', G', M', rfl, hE⟩
                obtain ⟨cr', rfl, h6, h1⟩ := hE.rd.cells
                rw [hd'] at hE
                exact ⟨cr', G', M', rfl, h.do hH.out HDG.out hE, h6, h1, hE.ex, hE.exm⟩
              clear hd'
              have HQD := Lib.hid (HQ.out.next hH.out (Below.refl _ _).drew)
              go_wp2_with fail
              refine wp_region_held_drew (S := (fun W' => DB W' g2 cs ∧ Kin W W')) (by kernel_rfl) ⟨HQD.out.ps.db, HQD.out.ps.kinw⟩ (fun hS => ?_)
              refine wpAnyH_take (i := 0) (oi := ({ dst := some 55, op := Op.move (Operand.tmp 8), type := 25, pos := "law.go:154", after := #[], guard := none } : Oper)) (v := ?_) rfl (by kernel_rfl) (by kernel_rfl) (by kernel_rfl) (fun _ _ _ h => h) (Or.inl ⟨by rfl, ?_⟩) hS ?_
              rotate_left
              · (intro w hSw; (try dsimp only at hSw); go_simp; try with_reducible rfl)
              (try simp only [Act.put, List.setIfInBounds_toArray, List.set_cons_zero, List.set_cons_succ])
              refine wpAnyH_take (i := 1) (oi := ({ dst := some 56, op := Op.load 29 (Operand.tmp 9), type := 29, pos := "law.go:154", after := #[], guard := none } : Oper)) (v := ?_) rfl (by kernel_rfl) (by kernel_rfl) (by kernel_rfl) (fun _ _ _ h => h) (Or.inl ⟨by rfl, ?_⟩) hS ?_
              rotate_left
              · (intro w hSw; (try dsimp only at hSw); refine exec_load_db (.tmp 9) ?_ ?_ hSw.1 <;> rfl)
              (try simp only [Act.put, List.setIfInBounds_toArray, List.set_cons_zero, List.set_cons_succ])
              refine wpAnyH_take (i := 2) (oi := ({ dst := some 57, op := Op.move (Operand.tmp 1), type := 22, pos := "law.go:154", after := #[], guard := none } : Oper)) (v := ?_) rfl (by kernel_rfl) (by kernel_rfl) (by kernel_rfl) (fun _ _ _ h => h) (Or.inl ⟨by rfl, ?_⟩) hS ?_
              rotate_left
              · (intro w hSw; (try dsimp only at hSw); go_simp; try with_reducible rfl)
              (try simp only [Act.put, List.setIfInBounds_toArray, List.set_cons_zero, List.set_cons_succ])
              refine wpAnyH_take (i := 3) (oi := ({ dst := some 58, op := Op.move (Operand.tmp 10), type := 3, pos := "law.go:154", after := #[], guard := none } : Oper)) (v := ?_) rfl (by kernel_rfl) (by kernel_rfl) (by kernel_rfl) (fun _ _ _ h => h) (Or.inl ⟨by rfl, ?_⟩) hS ?_
              rotate_left
              · (intro w hSw; (try dsimp only at hSw); go_simp; try with_reducible rfl)
              (try simp only [Act.put, List.setIfInBounds_toArray, List.set_cons_zero, List.set_cons_succ])
              refine wpAnyH_take (i := 4) (oi := ({ dst := some 59, op := Op.indexAddr 22 (Operand.tmp 57) (Operand.tmp 58), type := 0, pos := "law.go:154", after := #[{ on := 2, ground := Ground.data }, { on := 3, ground := Ground.data }], guard := none } : Oper)) (v := ?_) rfl (by kernel_rfl) (by kernel_rfl) (by kernel_rfl) (fun _ _ _ h => h) (Or.inl ⟨by rfl, ?_⟩) hS ?_
              rotate_left
              · (intro w hSw; (try dsimp only at hSw); go_simp; try with_reducible rfl)
              (try simp only [Act.put, List.setIfInBounds_toArray, List.set_cons_zero, List.set_cons_succ])
              refine wpAnyH_take (i := 5) (oi := ({ dst := some 60, op := Op.load 38 (Operand.tmp 59), type := 38, pos := "law.go:154", after := #[{ on := 4, ground := Ground.data }], guard := none } : Oper)) (v := ?_) rfl (by kernel_rfl) (by kernel_rfl) (by kernel_rfl) (fun _ _ _ h => h) (Or.inl ⟨by rfl, ?_⟩) hS ?_
              rotate_left
              · (intro w hSw; (try dsimp only at hSw); obtain ⟨z0, z1, z2, z3, z4, z5, z6, z7, z8⟩ := HCX.out; have y0 := hSw.2 _ _ z0; have y1 := hSw.2 _ _ z1; have y2 := hSw.2 _ _ z2; have y3 := hSw.2 _ _ z3; have y4 := hSw.2 _ _ z4; have y5 := hSw.2 _ _ z5; have y6 := hSw.2 _ _ z6; have y7 := hSw.2 _ _ z7; have y8 := hSw.2 _ _ z8; go_simp; try with_reducible rfl)
              (try simp only [Act.put, List.setIfInBounds_toArray, List.set_cons_zero, List.set_cons_succ])
              refine rg_both 6 10 ({ dst := some 61, op := Op.call { callee := Callee.value (Operand.func 10), args := #[Operand.tmp 55, Operand.tmp 56, Operand.tmp 60], argTypes := #[25, 29, 38] }, type := 31, pos := "law.go:154", after := #[{ on := 0, ground := Ground.data }, { on := 1, ground := Ground.data }, { on := 5, ground := Ground.data }], guard := none } : Oper) ({ dst := some 11, op := Op.alloc 29, type := 0, pos := "law.go:154", after := #[], guard := none } : Oper) (by kernel_rfl) rfl rfl (fun K hK => ?_) (fun K hK => ?_)
              · skip
                go_simp
                (go_at_call 10; (with_reducible refine (HDO.out _ _ _ _ HQD.out).mono ?_); rintro e w3 ⟨cr, F3, M3, rfl, hp3, h63, h13, hx3, hy3⟩; have HP3 := Lib.hid hp3; have H63 := Lib.hid h63; have H13 := Lib.hid h13; have hN := And.intro hp3.ps.db hp3.ps.kinw)
                refine hK.out _ _ ?_ (fun hS1 => ?_)
                · (first | exact hS | exact ⟨hS.1.next hb, hS.2.trans (Kin.below hb)⟩ | exact hN)
                clear hK K hS; have hS := hS1; clear hS1
                (try simp only [Act.put, List.setIfInBounds_toArray, List.set_cons_zero, List.set_cons_succ])
                refine wpAnyH_take (i := 7) (oi := ({ dst := some 54, op := Op.move (Operand.tmp 61), type := 31, pos := "law.go:154", after := #[{ on := 6, ground := Ground.data }], guard := none } : Oper)) (v := ?_) rfl (by kernel_rfl) (by kernel_rfl) (by kernel_rfl) (fun _ _ _ h => h) (Or.inl ⟨by rfl, ?_⟩) hS ?_
                rotate_left
                · (intro w hSw; (try dsimp only at hSw); go_simp; try with_reducible rfl)
                (try simp only [Act.put, List.setIfInBounds_toArray, List.set_cons_zero, List.set_cons_succ])
                refine wpAnyH_take (i := 8) (oi := ({ dst := some 62, op := Op.extract (Operand.tmp 54) 0, type := 29, pos := "law.go:154", after := #[{ on := 7, ground := Ground.data }], guard := none } : Oper)) (v := ?_) rfl (by kernel_rfl) (by kernel_rfl) (by kernel_rfl) (fun _ _ _ h => h) (Or.inl ⟨by rfl, ?_⟩) hS ?_
                rotate_left
                · (intro w hSw; (try dsimp only at hSw); go_simp; try with_reducible rfl)
                (try simp only [Act.put, List.setIfInBounds_toArray, List.set_cons_zero, List.set_cons_succ])
                refine wpAnyH_take (i := 9) (oi := ({ dst := some 63, op := Op.extract (Operand.tmp 54) 1, type := 4, pos := "law.go:154", after := #[{ on := 7, ground := Ground.data }, { on := 11, ground := Ground.gcOnly Departure.lateStores }], guard := none } : Oper)) (v := ?_) rfl (by kernel_rfl) (by kernel_rfl) (by kernel_rfl) (fun _ _ _ h => h) (Or.inl ⟨by rfl, ?_⟩) hS ?_
                rotate_left
                · (intro w hSw; (try dsimp only at hSw); go_simp; try with_reducible rfl)
                (try simp only [Act.put, List.setIfInBounds_toArray, List.set_cons_zero, List.set_cons_succ])
                refine rg_one 10 ({ dst := some 11, op := Op.alloc 29, type := 0, pos := "law.go:154", after := #[], guard := none } : Oper) (by kernel_rfl) rfl (fun K hK => ?_)
                go_simp
                (have hp4 := HP3.out.alloc hH.out (.cells #[.slice none 0 0, .int .i64 0, .int .i64 0, .bool false, .bool false, .int .i64 0] 29); have HP4 := Lib.hid hp4.1; have HMQ := Lib.hid hp4.2; have HDX4 : Hid (DB (w3.alloc (.cells #[.slice none 0 0, .int .i64 0, .int .i64 0, .bool false, .bool false, .int .i64 0] 29)) w3.heap.size dz) := Lib.hid ⟨heap_alloc_last w3 _, rfl⟩; clear hN; have hN := And.intro hp4.1.ps.db hp4.1.ps.kinw)
                refine hK.out _ _ ?_ (fun hS1 => ?_)
                · (first | exact hS | exact ⟨hS.1.next hb, hS.2.trans (Kin.below hb)⟩ | exact hN)
                clear hK K hS; have hS := hS1; clear hS1
                (try simp only [Act.put, List.setIfInBounds_toArray, List.set_cons_zero, List.set_cons_succ])
                refine rg_one 11 ({ dst := none, op := Op.store 29 (Operand.tmp 11) (Operand.tmp 62), type := 0, pos := "law.go:154", after := #[{ on := 10, ground := Ground.data }, { on := 8, ground := Ground.data }, { on := 6, ground := Ground.chain }, { on := 0, ground := Ground.phase }, { on := 1, ground := Ground.phase }, { on := 2, ground := Ground.phase }, { on := 3, ground := Ground.phase }, { on := 4, ground := Ground.phase }, { on := 5, ground := Ground.phase }, { on := 6, ground := Ground.phase }, { on := 7, ground := Ground.phase }, { on := 8, ground := Ground.phase }, { on := 9, ground := Ground.textOnly Departure.lateStores }, { on := 10, ground := Ground.phase }], guard := none } : Oper) (by kernel_rfl) rfl (fun K hK => ?_)
                rw [if_pos (by rfl)]; refine wp_store_row 29 (.tmp 11) (.tmp 62) rfl w3.heap.size cr rfl rfl _ dz HDX4.out.1 (by rw [H63.out]; exact disk_info) (by rw [H63.out]; rfl) H13.out ?_; have HP5 := Lib.hid (HP4.out.over hH.out w3.heap.size (by have := HP3.out.ps.glt; omega) (by have := HP3.out.glt1; omega) HMQ.out.1 HMQ.out.2.1 HMQ.out.2.2 HP3.out.ps.ex.size cr); have HDX5 := Lib.hid (HDX4.out.row H63.out); clear hN; have hN := And.intro HP5.out.ps.db HP5.out.ps.kinw
                refine hK.out _ _ ?_ (fun hS1 => ?_)
                · (first | exact hS | exact ⟨hS.1.next hb, hS.2.trans (Kin.below hb)⟩ | exact hN)
                clear hK K hS; have hS := hS1; clear hS1
                (try simp only [Act.put])
                refine wpAnyH_take (i := 12) (oi := ({ dst := some 12, op := Op.assign (Operand.tmp 63), type := 4, pos := "law.go:154", after := #[{ on := 9, ground := Ground.data }, { on := 11, ground := Ground.chain }, { on := 0, ground := Ground.phase }, { on := 1, ground := Ground.phase }, { on := 2, ground := Ground.phase }, { on := 3, ground := Ground.phase }, { on := 4, ground := Ground.phase }, { on := 5, ground := Ground.phase }, { on := 6, ground := Ground.phase }, { on := 7, ground := Ground.phase }, { on := 8, ground := Ground.phase }, { on := 9, ground := Ground.phase }, { on := 10, ground := Ground.phase }, { on := 11, ground := Ground.phase }], guard := none } : Oper)) (v := ?_) rfl (by kernel_rfl) (by kernel_rfl) (by kernel_rfl) (fun _ _ _ h => h) (Or.inl ⟨by rfl, ?_⟩) hS ?_
                rotate_left
                · (intro w hSw; (try dsimp only at hSw); go_simp; try with_reducible rfl)
                (try simp only [Act.put, List.setIfInBounds_toArray, List.set_cons_zero, List.set_cons_succ])
                refine wpAnyH_done (by kernel_rfl) ?_ _
                clear hS hN
                go_wp2_with (first | (refine wpList_store_row rfl 29 _ _ rfl g2 cr rfl rfl _ cs HP5.out.ps.db.1 (by rw [H63.out]; exact disk_info) (by rw [H63.out, H62.out]) H13.out ?_; have HP6 := Lib.hid (HP5.out.store hH.out H63.out)) | (refine wpList_load_row rfl 29 _ rfl _ rfl _ cr (0, 0) _ HDX5.out.1 Try.underlying29 rfl HDX5.out.info ?_))
                exact ⟨⟨i + 1, d', cr, F3, _, by go_num, by omega, HP6, H63, H13⟩, by simp [intOf]; omega⟩
              · skip
                go_simp
                (have hp4 := HQD.out.alloc hH.out (.cells #[.slice none 0 0, .int .i64 0, .int .i64 0, .bool false, .bool false, .int .i64 0] 29); have HP4 : Hid (P2 DK W p g1 d c1 F q g2 d2 cs cs G2 (plusF M2 wr.heap.size (wr.heap.size + 1)) (wr.alloc (.cells #[.slice none 0 0, .int .i64 0, .int .i64 0, .bool false, .bool false, .int .i64 0] 29)).drew) := Lib.hid hp4.1; have HMQ := Lib.hid hp4.2; have HDX4 : Hid (DB (wr.alloc (.cells #[.slice none 0 0, .int .i64 0, .int .i64 0, .bool false, .bool false, .int .i64 0] 29)).drew wr.heap.size dz) := Lib.hid ⟨heap_alloc_last wr _, rfl⟩; have hN := And.intro HP4.out.ps.db HP4.out.ps.kinw)
                refine hK.out _ _ ?_ (fun hS1 => ?_)
                · (first | exact hS | exact ⟨hS.1.next hb, hS.2.trans (Kin.below hb)⟩ | exact hN)
                clear hK K hS; have hS := hS1; clear hS1
                (try simp only [Act.put, List.setIfInBounds_toArray, List.set_cons_zero, List.set_cons_succ])
                refine rg_one 6 ({ dst := some 61, op := Op.call { callee := Callee.value (Operand.func 10), args := #[Operand.tmp 55, Operand.tmp 56, Operand.tmp 60], argTypes := #[25, 29, 38] }, type := 31, pos := "law.go:154", after := #[{ on := 0, ground := Ground.data }, { on := 1, ground := Ground.data }, { on := 5, ground := Ground.data }], guard := none } : Oper) (by kernel_rfl) rfl (fun K hK => ?_)
                go_simp
                (go_at_call 10; (with_reducible refine (HDO.out _ _ _ _ HP4.out).mono ?_); rintro e w3 ⟨cr, F3, M3, rfl, hp3, h63, h13, hx3, hy3⟩; have HP3 := Lib.hid hp3; have H63 := Lib.hid h63; have H13 := Lib.hid h13; have hql : wr.heap.size < (wr.alloc (.cells #[.slice none 0 0, .int .i64 0, .int .i64 0, .bool false, .bool false, .int .i64 0] 29)).drew.heap.size := (Array.getElem?_eq_some_iff.1 HDX4.out.1).1; have HMQ3 : Hid (M3 wr.heap.size = true ∧ F3 wr.heap.size = false ∧ F wr.heap.size = false) := Lib.hid ⟨by rw [hy3.foot _ hql]; exact HMQ.out.1, by rw [hx3.foot _ hql]; exact HMQ.out.2.1, HMQ.out.2.2⟩; have HDX3 : Hid (DB w3 wr.heap.size dz) := Lib.hid ⟨kept hx3 HDX4.out.1 HMQ.out.2.1, rfl⟩; clear hN; have hN := And.intro hp3.ps.db hp3.ps.kinw)
                refine hK.out _ _ ?_ (fun hS1 => ?_)
                · (first | exact hS | exact ⟨hS.1.next hb, hS.2.trans (Kin.below hb)⟩ | exact hN)
                clear hK K hS; have hS := hS1; clear hS1
                (try simp only [Act.put, List.setIfInBounds_toArray, List.set_cons_zero, List.set_cons_succ])
                refine wpAnyH_take (i := 7) (oi := ({ dst := some 54, op := Op.move (Operand.tmp 61), type := 31, pos := "law.go:154", after := #[{ on := 6, ground := Ground.data }], guard := none } : Oper)) (v := ?_) rfl (by kernel_rfl) (by kernel_rfl) (by kernel_rfl) (fun _ _ _ h => h) (Or.inl ⟨by rfl, ?_⟩) hS ?_
                rotate_left
                · (intro w hSw; (try dsimp only at hSw); go_simp; try with_reducible rfl)
                (try simp only [Act.put, List.setIfInBounds_toArray, List.set_cons_zero, List.set_cons_succ])
                refine wpAnyH_take (i := 8) (oi := ({ dst := some 62, op := Op.extract (Operand.tmp 54) 0, type := 29, pos := "law.go:154", after := #[{ on := 7, ground := Ground.data }], guard := none } : Oper)) (v := ?_) rfl (by kernel_rfl) (by kernel_rfl) (by kernel_rfl) (fun _ _ _ h => h) (Or.inl ⟨by rfl, ?_⟩) hS ?_
                rotate_left
                · (intro w hSw; (try dsimp only at hSw); go_simp; try with_reducible rfl)
                (try simp only [Act.put, List.setIfInBounds_toArray, List.set_cons_zero, List.set_cons_succ])
                refine wpAnyH_take (i := 9) (oi := ({ dst := some 63, op := Op.extract (Operand.tmp 54) 1, type := 4, pos := "law.go:154", after := #[{ on := 7, ground := Ground.data }, { on := 11, ground := Ground.gcOnly Departure.lateStores }], guard := none } : Oper)) (v := ?_) rfl (by kernel_rfl) (by kernel_rfl) (by kernel_rfl) (fun _ _ _ h => h) (Or.inl ⟨by rfl, ?_⟩) hS ?_
                rotate_left
                · (intro w hSw; (try dsimp only at hSw); go_simp; try with_reducible rfl)
                (try simp only [Act.put, List.setIfInBounds_toArray, List.set_cons_zero, List.set_cons_succ])
                refine rg_one 11 ({ dst := none, op := Op.store 29 (Operand.tmp 11) (Operand.tmp 62), type := 0, pos := "law.go:154", after := #[{ on := 10, ground := Ground.data }, { on := 8, ground := Ground.data }, { on := 6, ground := Ground.chain }, { on := 0, ground := Ground.phase }, { on := 1, ground := Ground.phase }, { on := 2, ground := Ground.phase }, { on := 3, ground := Ground.phase }, { on := 4, ground := Ground.phase }, { on := 5, ground := Ground.phase }, { on := 6, ground := Ground.phase }, { on := 7, ground := Ground.phase }, { on := 8, ground := Ground.phase }, { on := 9, ground := Ground.textOnly Departure.lateStores }, { on := 10, ground := Ground.phase }], guard := none } : Oper) (by kernel_rfl) rfl (fun K hK => ?_)
                rw [if_pos (by rfl)]; refine wp_store_row 29 (.tmp 11) (.tmp 62) rfl wr.heap.size cr rfl rfl _ dz HDX3.out.1 (by rw [H63.out]; exact disk_info) (by rw [H63.out]; rfl) H13.out ?_; have HP5 := Lib.hid (HP3.out.over hH.out wr.heap.size (by have := HQ.out.ps.glt; omega) (by have := HQ.out.glt1; omega) HMQ3.out.1 HMQ3.out.2.1 HMQ3.out.2.2 HQ.out.ps.ex.size cr); have HDX5 := Lib.hid (HDX3.out.row H63.out); clear hN; have hN := And.intro HP5.out.ps.db HP5.out.ps.kinw
                refine hK.out _ _ ?_ (fun hS1 => ?_)
                · (first | exact hS | exact ⟨hS.1.next hb, hS.2.trans (Kin.below hb)⟩ | exact hN)
                clear hK K hS; have hS := hS1; clear hS1
                (try simp only [Act.put])
                refine wpAnyH_take (i := 12) (oi := ({ dst := some 12, op := Op.assign (Operand.tmp 63), type := 4, pos := "law.go:154", after := #[{ on := 9, ground := Ground.data }, { on := 11, ground := Ground.chain }, { on := 0, ground := Ground.phase }, { on := 1, ground := Ground.phase }, { on := 2, ground := Ground.phase }, { on := 3, ground := Ground.phase }, { on := 4, ground := Ground.phase }, { on := 5, ground := Ground.phase }, { on := 6, ground := Ground.phase }, { on := 7, ground := Ground.phase }, { on := 8, ground := Ground.phase }, { on := 9, ground := Ground.phase }, { on := 10, ground := Ground.phase }, { on := 11, ground := Ground.phase }], guard := none } : Oper)) (v := ?_) rfl (by kernel_rfl) (by kernel_rfl) (by kernel_rfl) (fun _ _ _ h => h) (Or.inl ⟨by rfl, ?_⟩) hS ?_
                rotate_left
                · (intro w hSw; (try dsimp only at hSw); go_simp; try with_reducible rfl)
                (try simp only [Act.put, List.setIfInBounds_toArray, List.set_cons_zero, List.set_cons_succ])
                refine wpAnyH_done (by kernel_rfl) ?_ _
                clear hS hN
                go_wp2_with (first | (refine wpList_store_row rfl 29 _ _ rfl g2 cr rfl rfl _ cs HP5.out.ps.db.1 (by rw [H63.out]; exact disk_info) (by rw [H63.out, H62.out]) H13.out ?_; have HP6 := Lib.hid (HP5.out.store hH.out H63.out)) | (refine wpList_load_row rfl 29 _ rfl _ rfl _ cr (0, 0) _ HDX5.out.1 Try.underlying29 rfl HDX5.out.info ?_))
                exact ⟨⟨i + 1, d', cr, F3, _, by go_num, by omega, HP6, H63, H13⟩, by simp [intOf]; omega⟩
            · have hq : i = m := by omega
              subst hq
              have HQ0 := Lib.hid HQ.out.ps.ex.size
              go_wp2_with (first
                | (go_at_call 17; (with_reducible refine (hN.out.make _ _ _).mono ?_); rintro e w9 ⟨rfl, hb⟩; have HQ' := Lib.hid (HQ.out.next hH.out hb); clear HQ hb; have HQ := HQ'; clear HQ')
                | (go_at_call 18; (with_reducible refine (hN.out.write _ _ _).mono ?_); rintro e w9 ⟨rfl, hb⟩; have HQ' := Lib.hid (HQ.out.next hH.out hb); clear HQ hb; have HQ := HQ'; clear HQ')
                | (go_at_call 16; (with_reducible refine (hN.out.read _ _ _ _).mono ?_); rintro e w9 ⟨v9, rfl, hb⟩; have HQ' := Lib.hid (HQ.out.next hH.out hb); clear HQ hb; have HQ := HQ'; clear HQ')
                | (go_at_call 19; (with_reducible refine (hN.out.sync _ _).mono ?_); rintro e w9 ⟨rfl, hb⟩; have HQ' := Lib.hid (HQ.out.next hH.out hb); clear HQ hb; have HQ := HQ'; clear HQ')
                | (go_at_call 20; (with_reducible refine (hN.out.rename _ _ _).mono ?_); rintro e w9 ⟨rfl, hb⟩; have HQ' := Lib.hid (HQ.out.next hH.out hb); clear HQ hb; have HQ := HQ'; clear HQ')
                | (go_at_call 21; (with_reducible refine (hN.out.remove _ _).mono ?_); rintro e w9 ⟨rfl, hb⟩; have HQ' := Lib.hid (HQ.out.next hH.out hb); clear HQ hb; have HQ := HQ'; clear HQ')
                | (go_at_call 22; (with_reducible refine (hN.out.fail _ _).mono ?_); rintro e w9 ⟨rfl, hb⟩; have HQ' := Lib.hid (HQ.out.next hH.out hb); clear HQ hb; have HQ := HQ'; clear HQ')
                | (go_at_call 14; (with_reducible refine (hN.out.crash _).mono ?_); rintro e w9 ⟨rfl, hb⟩; have HQ' := Lib.hid (HQ.out.next hH.out hb); clear HQ hb; have HQ := HQ'; clear HQ')
                | (go_at_call 23; (with_reducible refine (hN.out.size _ _).mono ?_); rintro e w9 ⟨rfl, hb⟩; have HQ' := Lib.hid (HQ.out.next hH.out hb); clear HQ hb; have HQ := HQ'; clear HQ')
                | (go_at_call 24; (with_reducible refine (hN.out.list _).mono ?_); rintro e w9 ⟨a8, c8, rfl, hb⟩; have HQ' := Lib.hid (HQ.out.next hH.out hb); clear HQ hb; have HQ := HQ'; clear HQ')
                | (go_at_call 25; (with_reducible refine (hN.out.files _).mono ?_); rintro e w9 ⟨a9, c9, rfl, hb⟩; have HQ' := Lib.hid (HQ.out.next hH.out hb); clear HQ hb; have HQ := HQ'; clear HQ')
                | (go_at_call 26; (with_reducible refine (hN.out.used _).mono ?_); rintro e w9 ⟨rfl, hb⟩; have HQ' := Lib.hid (HQ.out.next hH.out hb); clear HQ hb; have HQ := HQ'; clear HQ')
                | (go_at_call 27; (with_reducible refine (hN.out.waiting _).mono ?_); rintro e w9 ⟨rfl, hb⟩; have HQ' := Lib.hid (HQ.out.next hH.out hb); clear HQ hb; have HQ := HQ'; clear HQ')
                | (go_at_call 28; (with_reducible refine (hN.out.ops _).mono ?_); rintro e w9 ⟨rfl, hb⟩; have HQ' := Lib.hid (HQ.out.next hH.out hb); clear HQ hb; have HQ := HQ'; clear HQ')
                | (go_at_call 29; (with_reducible refine (hN.out.down _).mono ?_); rintro e w9 ⟨rfl, hb⟩; have HQ' := Lib.hid (HQ.out.next hH.out hb); clear HQ hb; have HQ := HQ'; clear HQ')
                | (go_at_call 15; (with_reducible refine (hN.out.clone _).mono ?_); rintro e w9 ⟨rfl, hb⟩; have HQ' := Lib.hid (HQ.out.next hH.out hb); clear HQ hb; have HQ := HQ'; clear HQ')
                | (refine wpl_load_dbG (by rfl) _ rfl g2 rfl cs HQ.out.ps.db ?_)
                | (refine wpl_load_dbG (by rfl) _ rfl g1 rfl c1 HQ.out.sd.db ?_)
                | (go_at_call 11; (with_reducible refine (lsame_any hH.out _ _ q _ d2 HQ.out.ps.dk HQ.out.ps.good (HQ.out.ps.rd.kin (unmask _ _))).mono ?_); rintro e w9 ⟨rfl, hb⟩; have HQ' := Lib.hid (HQ.out.next hH.out hb); clear HQ hb; have HQ := HQ'; clear HQ')
                | (go_at_call 11; (with_reducible refine (lsame_any hH.out _ _ p _ d HQ.out.sd.dk HGD.out (HQ.out.sd.rd.kin (unmask _ _))).mono ?_); rintro e w9 ⟨rfl, hb⟩; have HQ' := Lib.hid (HQ.out.next hH.out hb); clear HQ hb; have HQ := HQ'; clear HQ')
                | (go_at_call 7; (with_reducible refine (lawake_any hH.out _).mono ?_); rintro e w9 ⟨rfl, hb⟩; have HB9 := Lib.hid (HQ.out.ps.ex.trans (Ext.below hb)).none; clear hb))
              go_ret
              exact ⟨rfl, HB9.out⟩
  · cases y with
    | false =>
      go_wp2_with (first
        | (go_at_call 6; (with_reducible refine (HF1.out _ HA1.out).mono ?_); rintro e w' ⟨rfl, rfl⟩)
        | (go_at_call 7; (with_reducible refine (lawake_any hH.out _).mono ?_); rintro e w1 ⟨rfl, hb⟩; have HB1 := Lib.hid hb; clear hb))
      go_ret
      exact ⟨rfl, HB1.out⟩
    | true =>
      cases z with
      | false =>
        go_wp2_with (first
          | (go_at_call 6; (with_reducible refine (HF1.out _ HA1.out).mono ?_); rintro e w' ⟨rfl, rfl⟩)
          | (go_at_call 6; (with_reducible refine (HF2.out _ HA2.out).mono ?_); rintro e w' ⟨rfl, rfl⟩)
          | (go_at_call 7; (with_reducible refine (lawake_any hH.out _).mono ?_); rintro e w1 ⟨rfl, hb⟩; have HB1 := Lib.hid hb; clear hb))
        go_ret
        exact ⟨rfl, HB1.out⟩
      | true => exact absurd ⟨rfl, rfl⟩ hyz
end Go.Proofs.Ytpnialanmidekaa
