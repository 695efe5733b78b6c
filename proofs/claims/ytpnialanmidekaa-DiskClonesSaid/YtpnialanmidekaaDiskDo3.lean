/-
  LAYER 8 (disk): the law's own do, over DiskSays, further: Write; and all of it. No condition of ours but bounds on what comes in.
-/
import Derived.Test.YtpnialanmidekaaDiskDo2
import Derived.Test.YtpnialanmidekaaDiskWrite
namespace Go.Proofs.Ytpnialanmidekaa
open Go.RowKit
theorem AB.next {w w' : World} {b : Nat} {cs : Array Value} (h : AB w b cs) (hb : Below w.heap.size w w') : AB w' b cs := ⟨by rw [hb.block b (Array.getElem?_eq_some_iff.1 h.1).1]; exact h.1, h.2⟩
theorem AB.over {w : World} {b : Nat} {cs : Array Value} (h : AB w b cs) (q : Nat) (hq : b ≠ q) (xs : Array Value) : AB (w.setRow q xs) b cs := ⟨by rw [setRow_other w q b xs hq]; exact h.1, h.2⟩
theorem FS.apart {F : Nat → Bool} {w : World} {base : Nat} {v : Value} {n : Nat} {fs : List Int} (hF : Foot F base) (h : w.ownsRow base 67 64 v n (il .u8 fs)) : FS (mask F w) v n fs := FS.own (own_mask hF h)
set_option maxRecDepth 8000 in
set_option maxHeartbeats 4000000 in
theorem do_write {DK : World → Addr → (Nat → Bool) → AD → Prop} (H : DiskSays DK) (F M : Nat → Bool) (w : World) (p : Addr) (vd : Value) (d : AD) (a : AAct) (al ak : Option Addr) (cl ck : Nat)
    (hdk : DK w p F d) (hg : Good d) (hrd : RD (mask M w) vd d) (hs : ∀ k, F k = true → M k = true) (hM : Foot M w.heap.size) (ha : GA a) (hrl : RI .u8 (mask M w) (.slice al a.len cl) a.len a.l) (hlen : a.len ≤ 1000000) (hk : a.kind.tmod 10 = 2 ∨ a.kind.tmod 10 = 3) :
    Calls Try.prog 10 #[ptr p, vd, .agg (actC a.kind a.name a.to a.at_ a.n (.slice al a.len cl) (.slice ak a.klen ck) a.torn a.cut)] w fun e w' => ∃ v' F' M', e = .returned (.tuple #[v', .bool true]) ∧ DoE DK F M w p v' (d.doR a) F' M' w' := by
  obtain ⟨cs, rfl, h6, h1c⟩ := hrd.cells
  have HDO : Hid (d.doR a = (d.writeR a.name a.at_ a.len (secsL a.l a.len)).1) := Lib.hid (by unfold AD.doR; rw [if_neg (by omega), if_pos hk])
  obtain ⟨kd, s, t, x, y, len, l, klen, kp, g, h⟩ := a
  have hH := Lib.hid H
  have HS0 := Lib.hid (DoS.start H hdk hrd hs hM h6 (show (actC kd s t x y (.slice al len cl) (.slice ak klen ck) g h).size = 9 from rfl))
  simp only at hrl hlen
  have HRL := Lib.hid hrl
  have HLEN := Lib.hid (show (len : Int) ≤ 1000000 from by omega)
  have hsb := secsL_bytes l len
  obtain ⟨fs, hfs⟩ : ∃ fs, secsL l len = fs := ⟨_, rfl⟩
  simp only at HDO
  rw [hfs] at hsb HDO
  have HFS := Lib.hid hfs
  obtain ⟨d', hd'⟩ : ∃ d', (d.writeR s x len fs).1 = d' := ⟨_, rfl⟩
  obtain ⟨er, her⟩ : ∃ er, (d.writeR s x len fs).2 = er := ⟨_, rfl⟩
  have HP : Hid (∀ w' F' v, DK w' p F' d → FS (mask F' w') v len fs → Calls Try.prog 18 #[ptr p, .string s, .int .i64 x, v] w' fun e w2 => ∃ F2, e = .returned (.int .i64 er) ∧ DK w2 p F2 d' ∧ Ext F' w' w2 F2) := Lib.hid (fun w' F' v h hf => by
    have := H.write w' p F' d s x v len fs h hg ha.name ha.at_ hf hsb hlen; rwa [hd', her] at this)
  have HQ : Hid (∀ w' M' v v3, Foot M' w'.heap.size → RD (mask M' w') v d → FS (mask M' w') v3 len fs → Calls Try.prog 33 #[v, .string s, .int .i64 x, v3] w' fun e w2 => ∃ v2, e = .returned (.tuple #[v2, .int .i64 er]) ∧ RD (mask M' w2) v2 d' ∧ Below w'.heap.size w' w2) := Lib.hid (fun w' M' v v3 h1 h2 h3 => by
    have := rwrite_any M' v d s x v3 len fs w' h1 h2 h3 (by have := hg.few; omega) ha.at_ (by omega) (get_small hg s); rwa [hd', her] at this)
  simp only at hk
  rw [hd'] at HDO
  rw [HDO.out]
  clear hd' her hdk hrd HDO hfs hsb hrl hlen
  have HW := Lib.hid HS0.out.act.nine
  have H1C := Lib.hid h1c
  have H6 := Lib.hid h6
  clear hg ha h1c h6 hs hM
  unfold actC at *
  unfold dz at HS0
  have HS0D := Lib.hid (HS0.out.next hH.out (Below.refl _ _).drew)
  go_enter Try.func10, Try.ntmps10
  rcases hk with hk | hk
  all_goals
    go_wp2_with fail
    refine wp_region_held_drew (S := (fun W' => AB W' (w.heap.size + 1) #[.int .u64 kd, .string s, .string t, .int .i64 x, .int .i64 y, .slice al len cl, .slice ak klen ck, .int .i64 g, .int .i64 h])) (by kernel_rfl) (HS0D.out.act) (fun hS => ?_)
    refine wpAnyH_take (i := 0) (oi := ({ dst := some 69, op := Op.move (Operand.tmp 0), type := 25, pos := "law.go:67", after := #[], guard := none } : Oper)) (v := ?_) rfl (by kernel_rfl) (by kernel_rfl) (by kernel_rfl) (fun _ _ _ h => h) (Or.inl ⟨by rfl, ?_⟩) hS ?_
    rotate_left
    · (intro w hSw; (try dsimp only at hSw); go_simp; try with_reducible rfl)
    (try simp only [Act.put, List.setIfInBounds_toArray, List.set_cons_zero, List.set_cons_succ])
    refine wpAnyH_take (i := 1) (oi := ({ dst := some 70, op := Op.fieldAddr 38 (Operand.tmp 5) 1, type := 0, pos := "law.go:67", after := #[], guard := none } : Oper)) (v := ?_) rfl (by kernel_rfl) (by kernel_rfl) (by kernel_rfl) (fun _ _ _ h => h) (Or.inl ⟨by rfl, ?_⟩) hS ?_
    rotate_left
    · (intro w hSw; (try dsimp only at hSw); go_simp; try with_reducible rfl)
    (try simp only [Act.put, List.setIfInBounds_toArray, List.set_cons_zero, List.set_cons_succ])
    refine wpAnyH_take (i := 2) (oi := ({ dst := some 71, op := Op.load 9 (Operand.tmp 70), type := 9, pos := "law.go:67", after := #[{ on := 1, ground := Ground.data }], guard := none } : Oper)) (v := ?_) rfl (by kernel_rfl) (by kernel_rfl) (by kernel_rfl) (fun _ _ _ h => h) (Or.inl ⟨by rfl, ?_⟩) hS ?_
    rotate_left
    · (intro w hSw; (try dsimp only at hSw); obtain ⟨z0, z1, z2, z3, z4, z5, z6, z7, z8⟩ := hSw.nine; go_simp; try with_reducible rfl)
    (try simp only [Act.put, List.setIfInBounds_toArray, List.set_cons_zero, List.set_cons_succ])
    refine wpAnyH_take (i := 3) (oi := ({ dst := some 72, op := Op.fieldAddr 38 (Operand.tmp 5) 3, type := 0, pos := "law.go:67", after := #[], guard := none } : Oper)) (v := ?_) rfl (by kernel_rfl) (by kernel_rfl) (by kernel_rfl) (fun _ _ _ h => h) (Or.inl ⟨by rfl, ?_⟩) hS ?_
    rotate_left
    · (intro w hSw; (try dsimp only at hSw); go_simp; try with_reducible rfl)
    (try simp only [Act.put, List.setIfInBounds_toArray, List.set_cons_zero, List.set_cons_succ])
    refine wpAnyH_take (i := 4) (oi := ({ dst := some 73, op := Op.load 3 (Operand.tmp 72), type := 3, pos := "law.go:67", after := #[{ on := 3, ground := Ground.data }], guard := none } : Oper)) (v := ?_) rfl (by kernel_rfl) (by kernel_rfl) (by kernel_rfl) (fun _ _ _ h => h) (Or.inl ⟨by rfl, ?_⟩) hS ?_
    rotate_left
    · (intro w hSw; (try dsimp only at hSw); obtain ⟨z0, z1, z2, z3, z4, z5, z6, z7, z8⟩ := hSw.nine; go_simp; try with_reducible rfl)
    (try simp only [Act.put, List.setIfInBounds_toArray, List.set_cons_zero, List.set_cons_succ])
    refine wpAnyH_take (i := 5) (oi := ({ dst := some 74, op := Op.fieldAddr 38 (Operand.tmp 5) 5, type := 0, pos := "law.go:67", after := #[], guard := none } : Oper)) (v := ?_) rfl (by kernel_rfl) (by kernel_rfl) (by kernel_rfl) (fun _ _ _ h => h) (Or.inl ⟨by rfl, ?_⟩) hS ?_
    rotate_left
    · (intro w hSw; (try dsimp only at hSw); go_simp; try with_reducible rfl)
    (try simp only [Act.put, List.setIfInBounds_toArray, List.set_cons_zero, List.set_cons_succ])
    refine wpAnyH_take (i := 6) (oi := ({ dst := some 75, op := Op.load 34 (Operand.tmp 74), type := 34, pos := "law.go:67", after := #[{ on := 5, ground := Ground.data }], guard := none } : Oper)) (v := ?_) rfl (by kernel_rfl) (by kernel_rfl) (by kernel_rfl) (fun _ _ _ h => h) (Or.inl ⟨by rfl, ?_⟩) hS ?_
    rotate_left
    · (intro w hSw; (try dsimp only at hSw); obtain ⟨z0, z1, z2, z3, z4, z5, z6, z7, z8⟩ := hSw.nine; go_simp; try with_reducible rfl)
    (try simp only [Act.put, List.setIfInBounds_toArray, List.set_cons_zero, List.set_cons_succ])
    refine rg_one 7 ({ dst := some 76, op := Op.call { callee := Callee.value (Operand.func 32), args := #[Operand.tmp 75], argTypes := #[34] }, type := 42, pos := "law.go:67", after := #[{ on := 6, ground := Ground.data }], guard := none } : Oper) (by kernel_rfl) rfl (fun K hK => ?_)
    go_simp
    (go_at_call 32; (with_reducible refine (lsecs_any _ len l _ (HRL.out.kin HS0D.out.kinW) HLEN.out).mono ?_); rintro e w1 ⟨v1, rfl, ho1, hb⟩; rw [HFS.out] at ho1; have HS1 := Lib.hid (HS0D.out.next hH.out hb); have HF1 := Lib.hid (FS.apart (hH.out.foot HS0D.out.dk) ho1))
    refine hK.out _ _ ?_ (fun hS1 => ?_)
    · (first | exact hS | exact hS.next hb | exact hN)
    clear hK K hS; have hS := hS1; clear hS1
    (try simp only [Act.put, List.setIfInBounds_toArray, List.set_cons_zero, List.set_cons_succ])
    refine rg_one 8 ({ dst := some 77, op := Op.call { callee := Callee.value (Operand.func 18), args := #[Operand.tmp 69, Operand.tmp 71, Operand.tmp 73, Operand.tmp 76], argTypes := #[25, 9, 3, 42] }, type := 45, pos := "law.go:67", after := #[{ on := 0, ground := Ground.data }, { on := 2, ground := Ground.data }, { on := 4, ground := Ground.data }, { on := 7, ground := Ground.data }, { on := 7, ground := Ground.chain }], guard := none } : Oper) (by kernel_rfl) rfl (fun K hK => ?_)
    go_simp
    (go_at_call 18; (with_reducible refine (HP.out _ _ _ HS1.out.dk HF1.out).mono ?_); rintro e w2 ⟨F2, rfl, hk2, hx2⟩; have HS2 := Lib.hid (HS1.out.prog hH.out hk2 hx2); have hN := HS2.out.act)
    refine hK.out _ _ ?_ (fun hS1 => ?_)
    · (first | exact hS | exact hS.next hb | exact hN)
    clear hK K hS; have hS := hS1; clear hS1
    (try simp only [Act.put, List.setIfInBounds_toArray, List.set_cons_zero, List.set_cons_succ])
    refine wpAnyH_take (i := 9) (oi := ({ dst := some 8, op := Op.assign (Operand.tmp 77), type := 45, pos := "law.go:67", after := #[{ on := 8, ground := Ground.data }, { on := 8, ground := Ground.chain }, { on := 0, ground := Ground.phase }, { on := 1, ground := Ground.phase }, { on := 2, ground := Ground.phase }, { on := 3, ground := Ground.phase }, { on := 4, ground := Ground.phase }, { on := 5, ground := Ground.phase }, { on := 6, ground := Ground.phase }, { on := 7, ground := Ground.phase }, { on := 8, ground := Ground.phase }], guard := none } : Oper)) (v := ?_) rfl (by kernel_rfl) (by kernel_rfl) (by kernel_rfl) (fun _ _ _ h => h) (Or.inl ⟨by rfl, ?_⟩) hS ?_
    rotate_left
    · (intro w hSw; (try dsimp only at hSw); go_simp; try with_reducible rfl)
    (try simp only [Act.put, List.setIfInBounds_toArray, List.set_cons_zero, List.set_cons_succ])
    refine wpAnyH_done (by kernel_rfl) ?_ _
    have HS2D := Lib.hid (HS2.out.next hH.out (Below.refl _ _).drew)
    clear hS
    go_wp2_with fail
    refine wp_region_held_drew (S := (fun W' => AB W' (w.heap.size + 1) #[.int .u64 kd, .string s, .string t, .int .i64 x, .int .i64 y, .slice al len cl, .slice ak klen ck, .int .i64 g, .int .i64 h])) (by kernel_rfl) HS2D.out.act (fun hS => ?_)
    refine wpAnyH_take (i := 1) (oi := ({ dst := some 80, op := Op.fieldAddr 38 (Operand.tmp 5) 1, type := 0, pos := "law.go:68", after := #[], guard := none } : Oper)) (v := ?_) rfl (by kernel_rfl) (by kernel_rfl) (by kernel_rfl) (fun _ _ _ h => h) (Or.inl ⟨by rfl, ?_⟩) hS ?_
    rotate_left
    · (intro w hSw; (try dsimp only at hSw); go_simp; try with_reducible rfl)
    (try simp only [Act.put, List.setIfInBounds_toArray, List.set_cons_zero, List.set_cons_succ])
    refine wpAnyH_take (i := 2) (oi := ({ dst := some 81, op := Op.load 9 (Operand.tmp 80), type := 9, pos := "law.go:68", after := #[{ on := 1, ground := Ground.data }], guard := none } : Oper)) (v := ?_) rfl (by kernel_rfl) (by kernel_rfl) (by kernel_rfl) (fun _ _ _ h => h) (Or.inl ⟨by rfl, ?_⟩) hS ?_
    rotate_left
    · (intro w hSw; (try dsimp only at hSw); obtain ⟨z0, z1, z2, z3, z4, z5, z6, z7, z8⟩ := hSw.nine; go_simp; try with_reducible rfl)
    (try simp only [Act.put, List.setIfInBounds_toArray, List.set_cons_zero, List.set_cons_succ])
    refine wpAnyH_take (i := 3) (oi := ({ dst := some 82, op := Op.fieldAddr 38 (Operand.tmp 5) 3, type := 0, pos := "law.go:68", after := #[], guard := none } : Oper)) (v := ?_) rfl (by kernel_rfl) (by kernel_rfl) (by kernel_rfl) (fun _ _ _ h => h) (Or.inl ⟨by rfl, ?_⟩) hS ?_
    rotate_left
    · (intro w hSw; (try dsimp only at hSw); go_simp; try with_reducible rfl)
    (try simp only [Act.put, List.setIfInBounds_toArray, List.set_cons_zero, List.set_cons_succ])
    refine wpAnyH_take (i := 4) (oi := ({ dst := some 83, op := Op.load 3 (Operand.tmp 82), type := 3, pos := "law.go:68", after := #[{ on := 3, ground := Ground.data }], guard := none } : Oper)) (v := ?_) rfl (by kernel_rfl) (by kernel_rfl) (by kernel_rfl) (fun _ _ _ h => h) (Or.inl ⟨by rfl, ?_⟩) hS ?_
    rotate_left
    · (intro w hSw; (try dsimp only at hSw); obtain ⟨z0, z1, z2, z3, z4, z5, z6, z7, z8⟩ := hSw.nine; go_simp; try with_reducible rfl)
    (try simp only [Act.put, List.setIfInBounds_toArray, List.set_cons_zero, List.set_cons_succ])
    refine wpAnyH_take (i := 5) (oi := ({ dst := some 84, op := Op.fieldAddr 38 (Operand.tmp 5) 5, type := 0, pos := "law.go:68", after := #[], guard := none } : Oper)) (v := ?_) rfl (by kernel_rfl) (by kernel_rfl) (by kernel_rfl) (fun _ _ _ h => h) (Or.inl ⟨by rfl, ?_⟩) hS ?_
    rotate_left
    · (intro w hSw; (try dsimp only at hSw); go_simp; try with_reducible rfl)
    (try simp only [Act.put, List.setIfInBounds_toArray, List.set_cons_zero, List.set_cons_succ])
    refine wpAnyH_take (i := 6) (oi := ({ dst := some 85, op := Op.load 34 (Operand.tmp 84), type := 34, pos := "law.go:68", after := #[{ on := 5, ground := Ground.data }], guard := none } : Oper)) (v := ?_) rfl (by kernel_rfl) (by kernel_rfl) (by kernel_rfl) (fun _ _ _ h => h) (Or.inl ⟨by rfl, ?_⟩) hS ?_
    rotate_left
    · (intro w hSw; (try dsimp only at hSw); obtain ⟨z0, z1, z2, z3, z4, z5, z6, z7, z8⟩ := hSw.nine; go_simp; try with_reducible rfl)
    (try simp only [Act.put, List.setIfInBounds_toArray, List.set_cons_zero, List.set_cons_succ])
    refine rg_both 0 7 ({ dst := some 79, op := Op.load 29 (Operand.tmp 4), type := 29, pos := "law.go:68", after := #[], guard := none } : Oper) ({ dst := some 86, op := Op.call { callee := Callee.value (Operand.func 32), args := #[Operand.tmp 85], argTypes := #[34] }, type := 42, pos := "law.go:68", after := #[{ on := 6, ground := Ground.data }], guard := none } : Oper) (by kernel_rfl) rfl rfl (fun K hK => ?_) (fun K hK => ?_)
    · skip
      rw [if_pos (by rfl)]; refine wp_load_row 29 (.tmp 4) rfl w.heap.size rfl _ cs (0, 0) _ HS2D.out.d0.1 Try.underlying29 rfl HS2D.out.d0.info ?_
      refine hK.out _ _ ?_ (fun hS1 => ?_)
      · (first | exact hS | exact hS.next hb | exact hN)
      clear hK K hS; have hS := hS1; clear hS1
      (try simp only [Act.put, List.setIfInBounds_toArray, List.set_cons_zero, List.set_cons_succ])
      refine rg_one 7 ({ dst := some 86, op := Op.call { callee := Callee.value (Operand.func 32), args := #[Operand.tmp 85], argTypes := #[34] }, type := 42, pos := "law.go:68", after := #[{ on := 6, ground := Ground.data }], guard := none } : Oper) (by kernel_rfl) rfl (fun K hK => ?_)
      go_simp
      (go_at_call 32; (with_reducible refine (lsecs_any _ len l _ (HRL.out.kin HS2D.out.kinW) HLEN.out).mono ?_); rintro e w3 ⟨v3, rfl, ho3, hb⟩; rw [HFS.out] at ho3; have HS3 := Lib.hid (HS2D.out.next hH.out hb); have HF3 := Lib.hid (FS.apart HS2D.out.foot ho3))
      refine hK.out _ _ ?_ (fun hS1 => ?_)
      · (first | exact hS | exact hS.next hb | exact hN)
      clear hK K hS; have hS := hS1; clear hS1
      (try simp only [Act.put, List.setIfInBounds_toArray, List.set_cons_zero, List.set_cons_succ])
      refine rg_one 8 ({ dst := some 87, op := Op.call { callee := Callee.value (Operand.func 33), args := #[Operand.tmp 79, Operand.tmp 81, Operand.tmp 83, Operand.tmp 86], argTypes := #[29, 9, 3, 42] }, type := 48, pos := "law.go:68", after := #[{ on := 0, ground := Ground.data }, { on := 2, ground := Ground.data }, { on := 4, ground := Ground.data }, { on := 7, ground := Ground.data }, { on := 7, ground := Ground.chain }], guard := none } : Oper) (by kernel_rfl) rfl (fun K hK => ?_)
      go_simp
      (go_at_call 33; (with_reducible refine (HQ.out _ _ _ _ HS3.out.foot HS3.out.rd HF3.out).mono ?_); rintro e w4 ⟨v4, rfl, hr4, hb⟩; obtain ⟨cs2, rfl, h62, h12⟩ := hr4.cells; have HS4 := Lib.hid (HS3.out.next hH.out hb); have HR4 := Lib.hid hr4; have HC6 := Lib.hid h62; have HC1 := Lib.hid h12)
      refine hK.out _ _ ?_ (fun hS1 => ?_)
      · (first | exact hS | exact hS.next hb | exact hN)
      clear hK K hS; have hS := hS1; clear hS1
      (try simp only [Act.put, List.setIfInBounds_toArray, List.set_cons_zero, List.set_cons_succ])
      refine wpAnyH_take (i := 9) (oi := ({ dst := some 78, op := Op.move (Operand.tmp 87), type := 48, pos := "law.go:68", after := #[{ on := 8, ground := Ground.data }], guard := none } : Oper)) (v := ?_) rfl (by kernel_rfl) (by kernel_rfl) (by kernel_rfl) (fun _ _ _ h => h) (Or.inl ⟨by rfl, ?_⟩) hS ?_
      rotate_left
      · (intro w hSw; (try dsimp only at hSw); go_simp; try with_reducible rfl)
      (try simp only [Act.put, List.setIfInBounds_toArray, List.set_cons_zero, List.set_cons_succ])
      refine wpAnyH_take (i := 10) (oi := ({ dst := some 88, op := Op.extract (Operand.tmp 78) 0, type := 29, pos := "law.go:68", after := #[{ on := 9, ground := Ground.data }], guard := none } : Oper)) (v := ?_) rfl (by kernel_rfl) (by kernel_rfl) (by kernel_rfl) (fun _ _ _ h => h) (Or.inl ⟨by rfl, ?_⟩) hS ?_
      rotate_left
      · (intro w hSw; (try dsimp only at hSw); go_simp; try with_reducible rfl)
      (try simp only [Act.put, List.setIfInBounds_toArray, List.set_cons_zero, List.set_cons_succ])
      refine wpAnyH_take (i := 11) (oi := ({ dst := some 89, op := Op.extract (Operand.tmp 78) 1, type := 45, pos := "law.go:68", after := #[{ on := 9, ground := Ground.data }, { on := 12, ground := Ground.gcOnly Departure.lateStores }], guard := none } : Oper)) (v := ?_) rfl (by kernel_rfl) (by kernel_rfl) (by kernel_rfl) (fun _ _ _ h => h) (Or.inl ⟨by rfl, ?_⟩) hS ?_
      rotate_left
      · (intro w hSw; (try dsimp only at hSw); go_simp; try with_reducible rfl)
      (try simp only [Act.put, List.setIfInBounds_toArray, List.set_cons_zero, List.set_cons_succ])
      refine rg_one 12 ({ dst := none, op := Op.store 29 (Operand.tmp 4) (Operand.tmp 88), type := 0, pos := "law.go:68", after := #[{ on := 10, ground := Ground.data }, { on := 8, ground := Ground.chain }, { on := 0, ground := Ground.phase }, { on := 1, ground := Ground.phase }, { on := 2, ground := Ground.phase }, { on := 3, ground := Ground.phase }, { on := 4, ground := Ground.phase }, { on := 5, ground := Ground.phase }, { on := 6, ground := Ground.phase }, { on := 7, ground := Ground.phase }, { on := 8, ground := Ground.phase }, { on := 9, ground := Ground.phase }, { on := 10, ground := Ground.phase }, { on := 11, ground := Ground.textOnly Departure.lateStores }], guard := none } : Oper) (by kernel_rfl) rfl (fun K hK => ?_)
      rw [if_pos (by rfl)]; refine wp_store_row 29 (.tmp 4) (.tmp 88) rfl w.heap.size cs2 rfl rfl _ cs HS4.out.d0.1 (by rw [HC6.out]; exact disk_info) (by rw [HC6.out, H6.out]) HC1.out ?_; have HS5 := Lib.hid (HS4.out.put hH.out HR4.out HC6.out); have hN := HS5.out.act
      refine hK.out _ _ ?_ (fun hS1 => ?_)
      · (first | exact hS | exact hS.next hb | exact hN)
      clear hK K hS; have hS := hS1; clear hS1
      (try simp only [Act.put])
      refine wpAnyH_take (i := 13) (oi := ({ dst := some 9, op := Op.assign (Operand.tmp 89), type := 45, pos := "law.go:68", after := #[{ on := 11, ground := Ground.data }, { on := 12, ground := Ground.chain }, { on := 0, ground := Ground.phase }, { on := 1, ground := Ground.phase }, { on := 2, ground := Ground.phase }, { on := 3, ground := Ground.phase }, { on := 4, ground := Ground.phase }, { on := 5, ground := Ground.phase }, { on := 6, ground := Ground.phase }, { on := 7, ground := Ground.phase }, { on := 8, ground := Ground.phase }, { on := 9, ground := Ground.phase }, { on := 10, ground := Ground.phase }, { on := 11, ground := Ground.phase }, { on := 12, ground := Ground.phase }], guard := none } : Oper)) (v := ?_) rfl (by kernel_rfl) (by kernel_rfl) (by kernel_rfl) (fun _ _ _ h => h) (Or.inl ⟨by rfl, ?_⟩) hS ?_
      rotate_left
      · (intro w hSw; (try dsimp only at hSw); go_simp; try with_reducible rfl)
      (try simp only [Act.put, List.setIfInBounds_toArray, List.set_cons_zero, List.set_cons_succ])
      refine wpAnyH_done (by kernel_rfl) ?_ _
      clear hS
      go_wp2_with (first | (refine wpList_store_row rfl 29 _ _ rfl (w.heap.size + 2) cs2 rfl rfl _ dz HS5.out.d2.1 (by rw [HC6.out]; exact disk_info) (by rw [HC6.out]; rfl) HC1.out ?_) | (refine wpList_load_row rfl 29 _ rfl w.heap.size rfl _ cs2 (0, 0) _ HS5.out.d0.1 Try.underlying29 rfl HS5.out.d0.info ?_))
      obtain ⟨hE, hD⟩ := HS5.out.done hH.out
      refine bodyPost_ret_by (results_row_tmp rfl _ _ (w.heap.size + 2) _ rfl (disk_load hD.1 HC6.out)) rfl ⟨_, _, _, rfl, hE⟩
    · skip
      go_simp
      (go_at_call 32; (with_reducible refine (lsecs_any _ len l _ (HRL.out.kin HS2D.out.kinW) HLEN.out).mono ?_); rintro e w3 ⟨v3, rfl, ho3, hb⟩; rw [HFS.out] at ho3; have HS3 := Lib.hid (HS2D.out.next hH.out hb); have HF3 := Lib.hid (FS.apart HS2D.out.foot ho3))
      refine hK.out _ _ ?_ (fun hS1 => ?_)
      · (first | exact hS | exact hS.next hb | exact hN)
      clear hK K hS; have hS := hS1; clear hS1
      (try simp only [Act.put, List.setIfInBounds_toArray, List.set_cons_zero, List.set_cons_succ])
      refine rg_one 0 ({ dst := some 79, op := Op.load 29 (Operand.tmp 4), type := 29, pos := "law.go:68", after := #[], guard := none } : Oper) (by kernel_rfl) rfl (fun K hK => ?_)
      rw [if_pos (by rfl)]; refine wp_load_row 29 (.tmp 4) rfl w.heap.size rfl _ cs (0, 0) _ HS3.out.d0.1 Try.underlying29 rfl HS3.out.d0.info ?_
      refine hK.out _ _ ?_ (fun hS1 => ?_)
      · (first | exact hS | exact hS.next hb | exact hN)
      clear hK K hS; have hS := hS1; clear hS1
      (try simp only [Act.put, List.setIfInBounds_toArray, List.set_cons_zero, List.set_cons_succ])
      refine rg_one 8 ({ dst := some 87, op := Op.call { callee := Callee.value (Operand.func 33), args := #[Operand.tmp 79, Operand.tmp 81, Operand.tmp 83, Operand.tmp 86], argTypes := #[29, 9, 3, 42] }, type := 48, pos := "law.go:68", after := #[{ on := 0, ground := Ground.data }, { on := 2, ground := Ground.data }, { on := 4, ground := Ground.data }, { on := 7, ground := Ground.data }, { on := 7, ground := Ground.chain }], guard := none } : Oper) (by kernel_rfl) rfl (fun K hK => ?_)
      go_simp
      (go_at_call 33; (with_reducible refine (HQ.out _ _ _ _ HS3.out.foot HS3.out.rd HF3.out).mono ?_); rintro e w4 ⟨v4, rfl, hr4, hb⟩; obtain ⟨cs2, rfl, h62, h12⟩ := hr4.cells; have HS4 := Lib.hid (HS3.out.next hH.out hb); have HR4 := Lib.hid hr4; have HC6 := Lib.hid h62; have HC1 := Lib.hid h12)
      refine hK.out _ _ ?_ (fun hS1 => ?_)
      · (first | exact hS | exact hS.next hb | exact hN)
      clear hK K hS; have hS := hS1; clear hS1
      (try simp only [Act.put, List.setIfInBounds_toArray, List.set_cons_zero, List.set_cons_succ])
      refine wpAnyH_take (i := 9) (oi := ({ dst := some 78, op := Op.move (Operand.tmp 87), type := 48, pos := "law.go:68", after := #[{ on := 8, ground := Ground.data }], guard := none } : Oper)) (v := ?_) rfl (by kernel_rfl) (by kernel_rfl) (by kernel_rfl) (fun _ _ _ h => h) (Or.inl ⟨by rfl, ?_⟩) hS ?_
      rotate_left
      · (intro w hSw; (try dsimp only at hSw); go_simp; try with_reducible rfl)
      (try simp only [Act.put, List.setIfInBounds_toArray, List.set_cons_zero, List.set_cons_succ])
      refine wpAnyH_take (i := 10) (oi := ({ dst := some 88, op := Op.extract (Operand.tmp 78) 0, type := 29, pos := "law.go:68", after := #[{ on := 9, ground := Ground.data }], guard := none } : Oper)) (v := ?_) rfl (by kernel_rfl) (by kernel_rfl) (by kernel_rfl) (fun _ _ _ h => h) (Or.inl ⟨by rfl, ?_⟩) hS ?_
      rotate_left
      · (intro w hSw; (try dsimp only at hSw); go_simp; try with_reducible rfl)
      (try simp only [Act.put, List.setIfInBounds_toArray, List.set_cons_zero, List.set_cons_succ])
      refine wpAnyH_take (i := 11) (oi := ({ dst := some 89, op := Op.extract (Operand.tmp 78) 1, type := 45, pos := "law.go:68", after := #[{ on := 9, ground := Ground.data }, { on := 12, ground := Ground.gcOnly Departure.lateStores }], guard := none } : Oper)) (v := ?_) rfl (by kernel_rfl) (by kernel_rfl) (by kernel_rfl) (fun _ _ _ h => h) (Or.inl ⟨by rfl, ?_⟩) hS ?_
      rotate_left
      · (intro w hSw; (try dsimp only at hSw); go_simp; try with_reducible rfl)
      (try simp only [Act.put, List.setIfInBounds_toArray, List.set_cons_zero, List.set_cons_succ])
      refine rg_one 12 ({ dst := none, op := Op.store 29 (Operand.tmp 4) (Operand.tmp 88), type := 0, pos := "law.go:68", after := #[{ on := 10, ground := Ground.data }, { on := 8, ground := Ground.chain }, { on := 0, ground := Ground.phase }, { on := 1, ground := Ground.phase }, { on := 2, ground := Ground.phase }, { on := 3, ground := Ground.phase }, { on := 4, ground := Ground.phase }, { on := 5, ground := Ground.phase }, { on := 6, ground := Ground.phase }, { on := 7, ground := Ground.phase }, { on := 8, ground := Ground.phase }, { on := 9, ground := Ground.phase }, { on := 10, ground := Ground.phase }, { on := 11, ground := Ground.textOnly Departure.lateStores }], guard := none } : Oper) (by kernel_rfl) rfl (fun K hK => ?_)
      rw [if_pos (by rfl)]; refine wp_store_row 29 (.tmp 4) (.tmp 88) rfl w.heap.size cs2 rfl rfl _ cs HS4.out.d0.1 (by rw [HC6.out]; exact disk_info) (by rw [HC6.out, H6.out]) HC1.out ?_; have HS5 := Lib.hid (HS4.out.put hH.out HR4.out HC6.out); have hN := HS5.out.act
      refine hK.out _ _ ?_ (fun hS1 => ?_)
      · (first | exact hS | exact hS.next hb | exact hN)
      clear hK K hS; have hS := hS1; clear hS1
      (try simp only [Act.put])
      refine wpAnyH_take (i := 13) (oi := ({ dst := some 9, op := Op.assign (Operand.tmp 89), type := 45, pos := "law.go:68", after := #[{ on := 11, ground := Ground.data }, { on := 12, ground := Ground.chain }, { on := 0, ground := Ground.phase }, { on := 1, ground := Ground.phase }, { on := 2, ground := Ground.phase }, { on := 3, ground := Ground.phase }, { on := 4, ground := Ground.phase }, { on := 5, ground := Ground.phase }, { on := 6, ground := Ground.phase }, { on := 7, ground := Ground.phase }, { on := 8, ground := Ground.phase }, { on := 9, ground := Ground.phase }, { on := 10, ground := Ground.phase }, { on := 11, ground := Ground.phase }, { on := 12, ground := Ground.phase }], guard := none } : Oper)) (v := ?_) rfl (by kernel_rfl) (by kernel_rfl) (by kernel_rfl) (fun _ _ _ h => h) (Or.inl ⟨by rfl, ?_⟩) hS ?_
      rotate_left
      · (intro w hSw; (try dsimp only at hSw); go_simp; try with_reducible rfl)
      (try simp only [Act.put, List.setIfInBounds_toArray, List.set_cons_zero, List.set_cons_succ])
      refine wpAnyH_done (by kernel_rfl) ?_ _
      clear hS
      go_wp2_with (first | (refine wpList_store_row rfl 29 _ _ rfl (w.heap.size + 2) cs2 rfl rfl _ dz HS5.out.d2.1 (by rw [HC6.out]; exact disk_info) (by rw [HC6.out]; rfl) HC1.out ?_) | (refine wpList_load_row rfl 29 _ rfl w.heap.size rfl _ cs2 (0, 0) _ HS5.out.d0.1 Try.underlying29 rfl HS5.out.d0.info ?_))
      obtain ⟨hE, hD⟩ := HS5.out.done hH.out
      refine bodyPost_ret_by (results_row_tmp rfl _ _ (w.heap.size + 2) _ rfl (disk_load hD.1 HC6.out)) rfl ⟨_, _, _, rfl, hE⟩
theorem do_any {DK : World → Addr → (Nat → Bool) → AD → Prop} (H : DiskSays DK) (F M : Nat → Bool) (w : World) (p : Addr) (vd : Value) (d : AD) (a : AAct) (al ak : Option Addr) (cl ck : Nat)
    (hdk : DK w p F d) (hg : Good d) (hrd : RD (mask M w) vd d) (hs : ∀ k, F k = true → M k = true) (hM : Foot M w.heap.size) (ha : GA a) (hrl : RI .u8 (mask M w) (.slice al a.len cl) a.len a.l) (hra : RI .u8 (mask M w) (.slice ak a.klen ck) a.klen a.keep) (hlen : a.len ≤ 1000000) :
    Calls Try.prog 10 #[ptr p, vd, .agg (actC a.kind a.name a.to a.at_ a.n (.slice al a.len cl) (.slice ak a.klen ck) a.torn a.cut)] w fun e w' => ∃ v' F' M', e = .returned (.tuple #[v', .bool true]) ∧ DoE DK F M w p v' (d.doR a) F' M' w' := by
  have h0 := ha.k0
  have hk : a.kind.tmod 10 = a.kind % 10 := Int.tmod_eq_emod_of_nonneg h0
  rcases (by omega : (a.kind.tmod 10 = 0 ∨ a.kind.tmod 10 = 1) ∨ (a.kind.tmod 10 = 2 ∨ a.kind.tmod 10 = 3) ∨ a.kind.tmod 10 = 4 ∨ a.kind.tmod 10 = 5 ∨ a.kind.tmod 10 = 6 ∨ a.kind.tmod 10 = 7 ∨ a.kind.tmod 10 = 8 ∨ a.kind.tmod 10 = 9) with h | h | h | h | h | h | h | h
  · exact do_make H F M w p vd d a al ak cl ck hdk hg hrd hs hM ha h
  · exact do_write H F M w p vd d a al ak cl ck hdk hg hrd hs hM ha hrl hlen h
  · exact do_sync H F M w p vd d a al ak cl ck hdk hg hrd hs hM ha h
  · exact do_rename H F M w p vd d a al ak cl ck hdk hg hrd hs hM ha h
  · exact do_remove H F M w p vd d a al ak cl ck hdk hg hrd hs hM ha h
  · exact do_fail H F M w p vd d a al ak cl ck hdk hg hrd hs hM ha h
  · exact do_crash H F M w p vd d a al ak cl ck hdk hg hrd hs hM ha hra h
  · exact do_read H F M w p vd d a al ak cl ck hdk hg hrd hs hM ha h
end Go.Proofs.Ytpnialanmidekaa
