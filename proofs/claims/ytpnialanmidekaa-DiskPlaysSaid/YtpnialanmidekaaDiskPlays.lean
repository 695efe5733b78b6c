/-
  THE WALK OF THE LAW DiskPlays, over DiskSays: whatever capacity and calls come in: the call returns true and changes nothing that was there.
-/
import Derived.Test.YtpnialanmidekaaDiskPlaySt
import Derived.Test.YtpnialanmidekaaDiskDo3
import Derived.Test.YtpnialanmidekaaDiskLawSame
import Derived.Test.YtpnialanmidekaaDiskAwake
namespace Go.Proofs.Ytpnialanmidekaa
open Go.RowKit
set_option maxRecDepth 8000 in
set_option maxHeartbeats 8000000 in
theorem plays_walk {DK : World → Addr → (Nat → Bool) → AD → Prop} (H : DiskSays DK) (c : Int) (v : Value) (l : List AAct) (hc : I63 c) (W : World) (hl : AS W v l) (hga : ∀ a ∈ l, GA a) :
    Calls Try.prog 3 #[.int .i64 c, v] W fun e w' => e = .returned (.bool true) ∧ Below W.heap.size W w' := by
  have hH := Lib.hid H
  have HA := Lib.hid hl
  have HGA := Lib.hid hga
  have HC := Lib.hid hc
  obtain ⟨a, cap, rfl, hc1, hc2, _⟩ := hl.form
  obtain ⟨n, hn⟩ : ∃ n, l.length = n := ⟨_, rfl⟩
  obtain ⟨y, hy⟩ : ∃ y, fewB l = y := ⟨_, rfl⟩
  have HF0 : Hid (∀ w, AS w (.slice a n cap) l → Calls Try.prog 6 #[.slice a n cap] w fun e w' => e = .returned (.bool y) ∧ w = w') := Lib.hid fun w h => (few_any _ l w h).mono fun e w' ⟨h1, h2⟩ => ⟨by rw [h1, hy], h2.symm⟩
  rw [hn] at HA hc1 ⊢
  have HN := Lib.hid hn
  have HY := Lib.hid hy
  clear hl hga hc hn hy
  go_enter Try.func3, Try.ntmps3
  cases y with
  | false =>
    go_wp2_with (first
      | (go_at_call 6; (with_reducible refine (HF0.out _ HA.out).mono ?_); rintro e w' ⟨rfl, rfl⟩)
      | (go_at_call 7; (with_reducible refine (lawake_any hH.out _).mono ?_); rintro e w1 ⟨rfl, hb⟩; have HB1 := Lib.hid hb; clear hb))
    go_ret
    exact ⟨rfl, HB1.out⟩
  | true =>
    have HFW := Lib.hid (few_true HY.out)
    go_wp2_with (first
      | (go_at_call 6; (with_reducible refine (HF0.out _ HA.out).mono ?_); rintro e w' ⟨rfl, rfl⟩)
      | (go_at_call 8; (with_reducible refine (hH.out.new c _ HC.out).mono ?_); rintro e w1 ⟨p, F1, rfl, hk1, hx1⟩; have HK1 := Lib.hid hk1; have HX1 := Lib.hid hx1; clear hk1 hx1)
      | (go_at_call 9; (with_reducible refine (newD_run c HC.out F1 _).mono ?_); rintro e w2 ⟨v2, rfl, hr2, hb2⟩; obtain ⟨cs2, rfl, h62, h12⟩ := hr2.cells; have HP2 := Lib.hid (PS.start hH.out (hH.out.below HK1.out hb2) (Good.new c HC.out) hr2 (HX1.out.trans (Ext.below hb2))); have H62 := Lib.hid h62; have H12 := Lib.hid h12; clear hr2 hb2 h62 h12)
      | (refine wpList_store_row rfl 29 _ _ rfl w2.heap.size cs2 rfl rfl _ dz HP2.out.db.1 (by rw [H62.out]; exact disk_info) (by rw [H62.out]; rfl) H12.out ?_; have HP3 := Lib.hid (HP2.out.store hH.out H62.out)))
    obtain ⟨g, hg⟩ : ∃ g, w2.heap.size = g := ⟨_, rfl⟩
    rw [hg] at HP3 ⊢
    clear HP2 hg
    go_loopw [7] (fun iv wr => ∃ (i : Nat) (d : AD) (cs : Array Value) (F M : Nat → Bool), iv = .int .i64 i ∧ i ≤ n ∧ Hid (PS DK W p g d cs cs F M wr) ∧ Hid (cs.size = 6) ∧ Hid (cs.all (·.oneCell') = true)) (fun iv _ => n - (intOf iv).toNat)
    case atStart => exact ⟨0, _, _, _, _, rfl, by omega, HP3, H62, H12⟩
    case round =>
      obtain ⟨i, d, cs, F, M, rfl, hi, HP, H6, H1⟩ := hrel
      by_cases hlt : (i : Int) < (n : Int)
      · obtain ⟨x, hx⟩ : ∃ x, l[i]? = some x := row_some (by rw [HN.out]; omega)
        obtain ⟨b, off, al, cl, ak, ck, rfl, k0, k1, k2, k3, k4, k5, k6, k7, k8, r1, r2⟩ := HA.out.at_ i x hx
        have HGX := Lib.hid (HGA.out x (List.mem_of_getElem? hx))
        have HLX := Lib.hid (HFW.out.2 x (List.mem_of_getElem? hx))
        have HCX := Lib.hid (And.intro k0 (And.intro k1 (And.intro k2 (And.intro k3 (And.intro k4 (And.intro k5 (And.intro k6 (And.intro k7 k8))))))))
        have HR1 := Lib.hid r1
        have HR2 := Lib.hid r2
        clear k0 k1 k2 k3 k4 k5 k6 k7 k8 r1 r2 hx
        obtain ⟨xk, xs, xt, xx, xy, xlen, xl, xklen, xkp, xg, xh⟩ := x
        simp only at HCX HLX HR1 HR2
        obtain ⟨d', hd'⟩ : ∃ d', d.doR ⟨xk, xs, xt, xx, xy, xlen, xl, xklen, xkp, xg, xh⟩ = d' := ⟨_, rfl⟩
        have HD := Lib.hid hd'
        have HDG : Hid (Good d') := Lib.hid (by rw [← hd']; exact HP.out.good.do HGX.out)
        have HDO : Hid (∀ w F M cr, PS DK W p g d cs cr F M w → Calls Try.prog 10 #[ptr p, .agg cr, .agg #[.int .u64 xk, .string xs, .string xt, .int .i64 xx, .int .i64 xy, .slice al xlen cl, .slice ak xklen ck, .int .i64 xg, .int .i64 xh]] w fun e w' => ∃ cr' F' M', e = .returned (.tuple #[.agg cr', .bool true]) ∧ PS DK W p g d' cs cr' F' M' w' ∧ cr'.size = 6 ∧ cr'.all (·.oneCell') = true ∧ Ext F w w' F' ∧ Ext M w w' M') := Lib.hid fun w F M cr h => by
          refine (do_any hH.out F M w p (.agg cr) d ⟨xk, xs, xt, xx, xy, xlen, xl, xklen, xkp, xg, xh⟩ al ak cl ck h.dk h.good h.rd h.sub h.foot HGX.out (HR1.out.kin h.kin) (HR2.out.kin h.kin) (by have := HLX.out; show xlen ≤ 1000000; omega)).mono ?_
          rintro e w' ⟨v', F', M', rfl, hE⟩
          obtain ⟨cr', rfl, h6, h1⟩ := hE.rd.cells
          rw [hd'] at hE
          exact ⟨cr', F', M', rfl, h.do HDG.out hE, h6, h1, hE.ex, hE.exm⟩
        clear hd'
        have HPD := Lib.hid (HP.out.next hH.out (Below.refl _ _).drew)
        go_wp2_with fail
        refine wp_region_held_drew (S := (fun W' => DB W' g cs ∧ Kin W W')) (by kernel_rfl) ⟨HPD.out.db, HPD.out.kinw⟩ (fun hS => ?_)
        refine wpAnyH_take (i := 0) (oi := ({ dst := some 25, op := Op.move (Operand.tmp 5), type := 25, pos := "law.go:109", after := #[], guard := none } : Oper)) (v := ?_) rfl (by kernel_rfl) (by kernel_rfl) (by kernel_rfl) (fun _ _ _ h => h) (Or.inl ⟨by rfl, ?_⟩) hS ?_
        rotate_left
        · (intro w hSw; (try dsimp only at hSw); go_simp; try with_reducible rfl)
        (try simp only [Act.put, List.setIfInBounds_toArray, List.set_cons_zero, List.set_cons_succ])
        refine wpAnyH_take (i := 1) (oi := ({ dst := some 26, op := Op.load 29 (Operand.tmp 6), type := 29, pos := "law.go:109", after := #[], guard := none } : Oper)) (v := ?_) rfl (by kernel_rfl) (by kernel_rfl) (by kernel_rfl) (fun _ _ _ h => h) (Or.inl ⟨by rfl, ?_⟩) hS ?_
        rotate_left
        · (intro w hSw; (try dsimp only at hSw); refine exec_load_db (.tmp 6) ?_ ?_ hSw.1 <;> rfl)
        (try simp only [Act.put, List.setIfInBounds_toArray, List.set_cons_zero, List.set_cons_succ])
        refine wpAnyH_take (i := 2) (oi := ({ dst := some 27, op := Op.move (Operand.tmp 1), type := 22, pos := "law.go:109", after := #[], guard := none } : Oper)) (v := ?_) rfl (by kernel_rfl) (by kernel_rfl) (by kernel_rfl) (fun _ _ _ h => h) (Or.inl ⟨by rfl, ?_⟩) hS ?_
        rotate_left
        · (intro w hSw; (try dsimp only at hSw); go_simp; try with_reducible rfl)
        (try simp only [Act.put, List.setIfInBounds_toArray, List.set_cons_zero, List.set_cons_succ])
        refine wpAnyH_take (i := 3) (oi := ({ dst := some 28, op := Op.move (Operand.tmp 7), type := 3, pos := "law.go:109", after := #[], guard := none } : Oper)) (v := ?_) rfl (by kernel_rfl) (by kernel_rfl) (by kernel_rfl) (fun _ _ _ h => h) (Or.inl ⟨by rfl, ?_⟩) hS ?_
        rotate_left
        · (intro w hSw; (try dsimp only at hSw); go_simp; try with_reducible rfl)
        (try simp only [Act.put, List.setIfInBounds_toArray, List.set_cons_zero, List.set_cons_succ])
        refine wpAnyH_take (i := 4) (oi := ({ dst := some 29, op := Op.indexAddr 22 (Operand.tmp 27) (Operand.tmp 28), type := 0, pos := "law.go:109", after := #[{ on := 2, ground := Ground.data }, { on := 3, ground := Ground.data }], guard := none } : Oper)) (v := ?_) rfl (by kernel_rfl) (by kernel_rfl) (by kernel_rfl) (fun _ _ _ h => h) (Or.inl ⟨by rfl, ?_⟩) hS ?_
        rotate_left
        · (intro w hSw; (try dsimp only at hSw); go_simp; try with_reducible rfl)
        (try simp only [Act.put, List.setIfInBounds_toArray, List.set_cons_zero, List.set_cons_succ])
        refine wpAnyH_take (i := 5) (oi := ({ dst := some 30, op := Op.load 38 (Operand.tmp 29), type := 38, pos := "law.go:109", after := #[{ on := 4, ground := Ground.data }], guard := none } : Oper)) (v := ?_) rfl (by kernel_rfl) (by kernel_rfl) (by kernel_rfl) (fun _ _ _ h => h) (Or.inl ⟨by rfl, ?_⟩) hS ?_
        rotate_left
        · (intro w hSw; (try dsimp only at hSw); obtain ⟨z0, z1, z2, z3, z4, z5, z6, z7, z8⟩ := HCX.out; have y0 := hSw.2 _ _ z0; have y1 := hSw.2 _ _ z1; have y2 := hSw.2 _ _ z2; have y3 := hSw.2 _ _ z3; have y4 := hSw.2 _ _ z4; have y5 := hSw.2 _ _ z5; have y6 := hSw.2 _ _ z6; have y7 := hSw.2 _ _ z7; have y8 := hSw.2 _ _ z8; go_simp; try with_reducible rfl)
        (try simp only [Act.put, List.setIfInBounds_toArray, List.set_cons_zero, List.set_cons_succ])
        refine rg_both 6 10 ({ dst := some 31, op := Op.call { callee := Callee.value (Operand.func 10), args := #[Operand.tmp 25, Operand.tmp 26, Operand.tmp 30], argTypes := #[25, 29, 38] }, type := 31, pos := "law.go:109", after := #[{ on := 0, ground := Ground.data }, { on := 1, ground := Ground.data }, { on := 5, ground := Ground.data }], guard := none } : Oper) ({ dst := some 8, op := Op.alloc 29, type := 0, pos := "law.go:109", after := #[], guard := none } : Oper) (by kernel_rfl) rfl rfl (fun K hK => ?_) (fun K hK => ?_)
        · skip
          go_simp
          (go_at_call 10; (with_reducible refine (HDO.out _ _ _ _ HPD.out).mono ?_); rintro e w3 ⟨cr, F3, M3, rfl, hp3, h63, h13, hx3, hy3⟩; have HP3 := Lib.hid hp3; have H63 := Lib.hid h63; have H13 := Lib.hid h13; have hN := And.intro hp3.db hp3.kinw)
          refine hK.out _ _ ?_ (fun hS1 => ?_)
          · (first | exact hS | exact ⟨hS.1.next hb, hS.2.trans (Kin.below hb)⟩ | exact hN)
          clear hK K hS; have hS := hS1; clear hS1
          (try simp only [Act.put, List.setIfInBounds_toArray, List.set_cons_zero, List.set_cons_succ])
          refine wpAnyH_take (i := 7) (oi := ({ dst := some 24, op := Op.move (Operand.tmp 31), type := 31, pos := "law.go:109", after := #[{ on := 6, ground := Ground.data }], guard := none } : Oper)) (v := ?_) rfl (by kernel_rfl) (by kernel_rfl) (by kernel_rfl) (fun _ _ _ h => h) (Or.inl ⟨by rfl, ?_⟩) hS ?_
          rotate_left
          · (intro w hSw; (try dsimp only at hSw); go_simp; try with_reducible rfl)
          (try simp only [Act.put, List.setIfInBounds_toArray, List.set_cons_zero, List.set_cons_succ])
          refine wpAnyH_take (i := 8) (oi := ({ dst := some 32, op := Op.extract (Operand.tmp 24) 0, type := 29, pos := "law.go:109", after := #[{ on := 7, ground := Ground.data }], guard := none } : Oper)) (v := ?_) rfl (by kernel_rfl) (by kernel_rfl) (by kernel_rfl) (fun _ _ _ h => h) (Or.inl ⟨by rfl, ?_⟩) hS ?_
          rotate_left
          · (intro w hSw; (try dsimp only at hSw); go_simp; try with_reducible rfl)
          (try simp only [Act.put, List.setIfInBounds_toArray, List.set_cons_zero, List.set_cons_succ])
          refine wpAnyH_take (i := 9) (oi := ({ dst := some 33, op := Op.extract (Operand.tmp 24) 1, type := 4, pos := "law.go:109", after := #[{ on := 7, ground := Ground.data }, { on := 11, ground := Ground.gcOnly Departure.lateStores }], guard := none } : Oper)) (v := ?_) rfl (by kernel_rfl) (by kernel_rfl) (by kernel_rfl) (fun _ _ _ h => h) (Or.inl ⟨by rfl, ?_⟩) hS ?_
          rotate_left
          · (intro w hSw; (try dsimp only at hSw); go_simp; try with_reducible rfl)
          (try simp only [Act.put, List.setIfInBounds_toArray, List.set_cons_zero, List.set_cons_succ])
          refine rg_one 10 ({ dst := some 8, op := Op.alloc 29, type := 0, pos := "law.go:109", after := #[], guard := none } : Oper) (by kernel_rfl) rfl (fun K hK => ?_)
          go_simp
          (have hp4 := HP3.out.alloc hH.out (.cells #[.slice none 0 0, .int .i64 0, .int .i64 0, .bool false, .bool false, .int .i64 0] 29); have HP4 := Lib.hid hp4.1; have HMQ := Lib.hid hp4.2; have HDX4 : Hid (DB (w3.alloc (.cells #[.slice none 0 0, .int .i64 0, .int .i64 0, .bool false, .bool false, .int .i64 0] 29)) w3.heap.size dz) := Lib.hid ⟨heap_alloc_last w3 _, rfl⟩; clear hN; have hN := And.intro hp4.1.db hp4.1.kinw)
          refine hK.out _ _ ?_ (fun hS1 => ?_)
          · (first | exact hS | exact ⟨hS.1.next hb, hS.2.trans (Kin.below hb)⟩ | exact hN)
          clear hK K hS; have hS := hS1; clear hS1
          (try simp only [Act.put, List.setIfInBounds_toArray, List.set_cons_zero, List.set_cons_succ])
          refine rg_one 11 ({ dst := none, op := Op.store 29 (Operand.tmp 8) (Operand.tmp 32), type := 0, pos := "law.go:109", after := #[{ on := 10, ground := Ground.data }, { on := 8, ground := Ground.data }, { on := 6, ground := Ground.chain }, { on := 0, ground := Ground.phase }, { on := 1, ground := Ground.phase }, { on := 2, ground := Ground.phase }, { on := 3, ground := Ground.phase }, { on := 4, ground := Ground.phase }, { on := 5, ground := Ground.phase }, { on := 6, ground := Ground.phase }, { on := 7, ground := Ground.phase }, { on := 8, ground := Ground.phase }, { on := 9, ground := Ground.textOnly Departure.lateStores }, { on := 10, ground := Ground.phase }], guard := none } : Oper) (by kernel_rfl) rfl (fun K hK => ?_)
          rw [if_pos (by rfl)]; refine wp_store_row 29 (.tmp 8) (.tmp 32) rfl w3.heap.size cr rfl rfl _ dz HDX4.out.1 (by rw [H63.out]; exact disk_info) (by rw [H63.out]; rfl) H13.out ?_; have HP5 := Lib.hid (HP4.out.over hH.out w3.heap.size (by have := HP3.out.glt; omega) HMQ.out.1 HMQ.out.2 HP3.out.ex.size cr); have HDX5 := Lib.hid (HDX4.out.row H63.out); clear hN; have hN := And.intro HP5.out.db HP5.out.kinw
          refine hK.out _ _ ?_ (fun hS1 => ?_)
          · (first | exact hS | exact ⟨hS.1.next hb, hS.2.trans (Kin.below hb)⟩ | exact hN)
          clear hK K hS; have hS := hS1; clear hS1
          (try simp only [Act.put])
          refine wpAnyH_take (i := 12) (oi := ({ dst := some 9, op := Op.assign (Operand.tmp 33), type := 4, pos := "law.go:109", after := #[{ on := 9, ground := Ground.data }, { on := 11, ground := Ground.chain }, { on := 0, ground := Ground.phase }, { on := 1, ground := Ground.phase }, { on := 2, ground := Ground.phase }, { on := 3, ground := Ground.phase }, { on := 4, ground := Ground.phase }, { on := 5, ground := Ground.phase }, { on := 6, ground := Ground.phase }, { on := 7, ground := Ground.phase }, { on := 8, ground := Ground.phase }, { on := 9, ground := Ground.phase }, { on := 10, ground := Ground.phase }, { on := 11, ground := Ground.phase }], guard := none } : Oper)) (v := ?_) rfl (by kernel_rfl) (by kernel_rfl) (by kernel_rfl) (fun _ _ _ h => h) (Or.inl ⟨by rfl, ?_⟩) hS ?_
          rotate_left
          · (intro w hSw; (try dsimp only at hSw); go_simp; try with_reducible rfl)
          (try simp only [Act.put, List.setIfInBounds_toArray, List.set_cons_zero, List.set_cons_succ])
          refine wpAnyH_done (by kernel_rfl) ?_ _
          clear hS hN
          go_wp2_with (first | (go_at_call 11; (with_reducible refine (lsame_any hH.out F3 _ p _ d' HP6.out.dk HP6.out.good (HP6.out.rd.kin (unmask _ _))).mono ?_); rintro e w7 ⟨rfl, hb⟩; have HP7 := Lib.hid (HP6.out.next hH.out hb); clear hb) | (refine wpl_load_dbG (by rfl) _ rfl g rfl cr HP6.out.db ?_) | (refine wpList_store_row rfl 29 _ _ rfl g cr rfl rfl _ cs HP5.out.db.1 (by rw [H63.out]; exact disk_info) (by rw [H63.out, H6.out]) H13.out ?_; have HP6 := Lib.hid (HP5.out.store hH.out H63.out)) | (refine wpList_load_row rfl 29 _ rfl _ rfl _ cr (0, 0) _ HDX5.out.1 Try.underlying29 rfl HDX5.out.info ?_))
          exact ⟨⟨i + 1, d', cr, F3, _, by go_num, by omega, HP7, H63, H13⟩, by simp [intOf]; omega⟩
        · skip
          go_simp
          (have hp4 := HPD.out.alloc hH.out (.cells #[.slice none 0 0, .int .i64 0, .int .i64 0, .bool false, .bool false, .int .i64 0] 29); have HP4 : Hid (PS DK W p g d cs cs F (plusF M wr.heap.size (wr.heap.size + 1)) (wr.alloc (.cells #[.slice none 0 0, .int .i64 0, .int .i64 0, .bool false, .bool false, .int .i64 0] 29)).drew) := Lib.hid hp4.1; have HMQ := Lib.hid hp4.2; have HDX4 : Hid (DB (wr.alloc (.cells #[.slice none 0 0, .int .i64 0, .int .i64 0, .bool false, .bool false, .int .i64 0] 29)).drew wr.heap.size dz) := Lib.hid ⟨heap_alloc_last wr _, rfl⟩; have hN := And.intro HP4.out.db HP4.out.kinw)
          refine hK.out _ _ ?_ (fun hS1 => ?_)
          · (first | exact hS | exact ⟨hS.1.next hb, hS.2.trans (Kin.below hb)⟩ | exact hN)
          clear hK K hS; have hS := hS1; clear hS1
          (try simp only [Act.put, List.setIfInBounds_toArray, List.set_cons_zero, List.set_cons_succ])
          refine rg_one 6 ({ dst := some 31, op := Op.call { callee := Callee.value (Operand.func 10), args := #[Operand.tmp 25, Operand.tmp 26, Operand.tmp 30], argTypes := #[25, 29, 38] }, type := 31, pos := "law.go:109", after := #[{ on := 0, ground := Ground.data }, { on := 1, ground := Ground.data }, { on := 5, ground := Ground.data }], guard := none } : Oper) (by kernel_rfl) rfl (fun K hK => ?_)
          go_simp
          (go_at_call 10; (with_reducible refine (HDO.out _ _ _ _ HP4.out).mono ?_); rintro e w3 ⟨cr, F3, M3, rfl, hp3, h63, h13, hx3, hy3⟩; have HP3 := Lib.hid hp3; have H63 := Lib.hid h63; have H13 := Lib.hid h13; have hql : wr.heap.size < (wr.alloc (.cells #[.slice none 0 0, .int .i64 0, .int .i64 0, .bool false, .bool false, .int .i64 0] 29)).drew.heap.size := (Array.getElem?_eq_some_iff.1 HDX4.out.1).1; have HMQ3 : Hid (M3 wr.heap.size = true ∧ F3 wr.heap.size = false) := Lib.hid ⟨by rw [hy3.foot _ hql]; exact HMQ.out.1, by rw [hx3.foot _ hql]; exact HMQ.out.2⟩; have HDX3 : Hid (DB w3 wr.heap.size dz) := Lib.hid ⟨kept hx3 HDX4.out.1 HMQ.out.2, rfl⟩; clear hN; have hN := And.intro hp3.db hp3.kinw)
          refine hK.out _ _ ?_ (fun hS1 => ?_)
          · (first | exact hS | exact ⟨hS.1.next hb, hS.2.trans (Kin.below hb)⟩ | exact hN)
          clear hK K hS; have hS := hS1; clear hS1
          (try simp only [Act.put, List.setIfInBounds_toArray, List.set_cons_zero, List.set_cons_succ])
          refine wpAnyH_take (i := 7) (oi := ({ dst := some 24, op := Op.move (Operand.tmp 31), type := 31, pos := "law.go:109", after := #[{ on := 6, ground := Ground.data }], guard := none } : Oper)) (v := ?_) rfl (by kernel_rfl) (by kernel_rfl) (by kernel_rfl) (fun _ _ _ h => h) (Or.inl ⟨by rfl, ?_⟩) hS ?_
          rotate_left
          · (intro w hSw; (try dsimp only at hSw); go_simp; try with_reducible rfl)
          (try simp only [Act.put, List.setIfInBounds_toArray, List.set_cons_zero, List.set_cons_succ])
          refine wpAnyH_take (i := 8) (oi := ({ dst := some 32, op := Op.extract (Operand.tmp 24) 0, type := 29, pos := "law.go:109", after := #[{ on := 7, ground := Ground.data }], guard := none } : Oper)) (v := ?_) rfl (by kernel_rfl) (by kernel_rfl) (by kernel_rfl) (fun _ _ _ h => h) (Or.inl ⟨by rfl, ?_⟩) hS ?_
          rotate_left
          · (intro w hSw; (try dsimp only at hSw); go_simp; try with_reducible rfl)
          (try simp only [Act.put, List.setIfInBounds_toArray, List.set_cons_zero, List.set_cons_succ])
          refine wpAnyH_take (i := 9) (oi := ({ dst := some 33, op := Op.extract (Operand.tmp 24) 1, type := 4, pos := "law.go:109", after := #[{ on := 7, ground := Ground.data }, { on := 11, ground := Ground.gcOnly Departure.lateStores }], guard := none } : Oper)) (v := ?_) rfl (by kernel_rfl) (by kernel_rfl) (by kernel_rfl) (fun _ _ _ h => h) (Or.inl ⟨by rfl, ?_⟩) hS ?_
          rotate_left
          · (intro w hSw; (try dsimp only at hSw); go_simp; try with_reducible rfl)
          (try simp only [Act.put, List.setIfInBounds_toArray, List.set_cons_zero, List.set_cons_succ])
          refine rg_one 11 ({ dst := none, op := Op.store 29 (Operand.tmp 8) (Operand.tmp 32), type := 0, pos := "law.go:109", after := #[{ on := 10, ground := Ground.data }, { on := 8, ground := Ground.data }, { on := 6, ground := Ground.chain }, { on := 0, ground := Ground.phase }, { on := 1, ground := Ground.phase }, { on := 2, ground := Ground.phase }, { on := 3, ground := Ground.phase }, { on := 4, ground := Ground.phase }, { on := 5, ground := Ground.phase }, { on := 6, ground := Ground.phase }, { on := 7, ground := Ground.phase }, { on := 8, ground := Ground.phase }, { on := 9, ground := Ground.textOnly Departure.lateStores }, { on := 10, ground := Ground.phase }], guard := none } : Oper) (by kernel_rfl) rfl (fun K hK => ?_)
          rw [if_pos (by rfl)]; refine wp_store_row 29 (.tmp 8) (.tmp 32) rfl wr.heap.size cr rfl rfl _ dz HDX3.out.1 (by rw [H63.out]; exact disk_info) (by rw [H63.out]; rfl) H13.out ?_; have HP5 := Lib.hid (HP3.out.over hH.out wr.heap.size (by have := HP.out.glt; omega) HMQ3.out.1 HMQ3.out.2 HP.out.ex.size cr); have HDX5 := Lib.hid (HDX3.out.row H63.out); clear hN; have hN := And.intro HP5.out.db HP5.out.kinw
          refine hK.out _ _ ?_ (fun hS1 => ?_)
          · (first | exact hS | exact ⟨hS.1.next hb, hS.2.trans (Kin.below hb)⟩ | exact hN)
          clear hK K hS; have hS := hS1; clear hS1
          (try simp only [Act.put])
          refine wpAnyH_take (i := 12) (oi := ({ dst := some 9, op := Op.assign (Operand.tmp 33), type := 4, pos := "law.go:109", after := #[{ on := 9, ground := Ground.data }, { on := 11, ground := Ground.chain }, { on := 0, ground := Ground.phase }, { on := 1, ground := Ground.phase }, { on := 2, ground := Ground.phase }, { on := 3, ground := Ground.phase }, { on := 4, ground := Ground.phase }, { on := 5, ground := Ground.phase }, { on := 6, ground := Ground.phase }, { on := 7, ground := Ground.phase }, { on := 8, ground := Ground.phase }, { on := 9, ground := Ground.phase }, { on := 10, ground := Ground.phase }, { on := 11, ground := Ground.phase }], guard := none } : Oper)) (v := ?_) rfl (by kernel_rfl) (by kernel_rfl) (by kernel_rfl) (fun _ _ _ h => h) (Or.inl ⟨by rfl, ?_⟩) hS ?_
          rotate_left
          · (intro w hSw; (try dsimp only at hSw); go_simp; try with_reducible rfl)
          (try simp only [Act.put, List.setIfInBounds_toArray, List.set_cons_zero, List.set_cons_succ])
          refine wpAnyH_done (by kernel_rfl) ?_ _
          clear hS hN
          go_wp2_with (first | (go_at_call 11; (with_reducible refine (lsame_any hH.out F3 _ p _ d' HP6.out.dk HP6.out.good (HP6.out.rd.kin (unmask _ _))).mono ?_); rintro e w7 ⟨rfl, hb⟩; have HP7 := Lib.hid (HP6.out.next hH.out hb); clear hb) | (refine wpl_load_dbG (by rfl) _ rfl g rfl cr HP6.out.db ?_) | (refine wpList_store_row rfl 29 _ _ rfl g cr rfl rfl _ cs HP5.out.db.1 (by rw [H63.out]; exact disk_info) (by rw [H63.out, H6.out]) H13.out ?_; have HP6 := Lib.hid (HP5.out.store hH.out H63.out)) | (refine wpList_load_row rfl 29 _ rfl _ rfl _ cr (0, 0) _ HDX5.out.1 Try.underlying29 rfl HDX5.out.info ?_))
          exact ⟨⟨i + 1, d', cr, F3, _, by go_num, by omega, HP7, H63, H13⟩, by simp [intOf]; omega⟩
      · have hq : i = n := by omega
        subst hq
        go_wp2_with (first
          | (go_at_call 7; (with_reducible refine (lawake_any hH.out _).mono ?_); rintro e w1 ⟨rfl, hb⟩; have HB1 := Lib.hid (HP.out.ex.trans (Ext.below hb)).none; clear hb))
        go_ret
        exact ⟨rfl, HB1.out⟩
end Go.Proofs.Ytpnialanmidekaa
