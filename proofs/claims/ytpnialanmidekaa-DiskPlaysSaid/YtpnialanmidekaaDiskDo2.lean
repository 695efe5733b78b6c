/-
  LAYER 8 (disk): the law's own do, over DiskSays, further: Read. No condition of ours but bounds on what comes in.
-/
import Derived.Test.YtpnialanmidekaaDiskDo1
import Derived.Test.YtpnialanmidekaaDiskRead
namespace Go.Proofs.Ytpnialanmidekaa
open Go.RowKit
set_option maxRecDepth 8000 in
set_option maxHeartbeats 4000000 in
theorem do_read {DK : World → Addr → (Nat → Bool) → AD → Prop} (H : DiskSays DK) (F M : Nat → Bool) (w : World) (p : Addr) (vd : Value) (d : AD) (a : AAct) (al ak : Option Addr) (cl ck : Nat)
    (hdk : DK w p F d) (hg : Good d) (hrd : RD (mask M w) vd d) (hs : ∀ k, F k = true → M k = true) (hM : Foot M w.heap.size) (ha : GA a) (hk : a.kind.tmod 10 = 9) :
    Calls Try.prog 10 #[ptr p, vd, .agg (actC a.kind a.name a.to a.at_ a.n (.slice al a.len cl) (.slice ak a.klen ck) a.torn a.cut)] w fun e w' => ∃ v' F' M', e = .returned (.tuple #[v', .bool true]) ∧ DoE DK F M w p v' (d.doR a) F' M' w' := by
  obtain ⟨cs, rfl, h6, h1c⟩ := hrd.cells
  have HDO : Hid (d.doR a = d) := Lib.hid (by unfold AD.doR; rw [hk]; rfl)
  obtain ⟨kd, s, t, x, y, len, l, klen, kp, g, h⟩ := a
  have hH := Lib.hid H
  have HS0 := Lib.hid (DoS.start H hdk hrd hs hM h6 (show (actC kd s t x y (.slice al len cl) (.slice ak klen ck) g h).size = 9 from rfl))
  obtain ⟨r, hr⟩ : ∃ r, d.readR s x y = r := ⟨_, rfl⟩
  obtain ⟨fs, nn, er⟩ := r
  have HP : Hid (∀ w' F', DK w' p F' d → Calls Try.prog 16 #[ptr p, .string s, .int .i64 x, .int .i64 y] w' fun e w2 => ∃ v, e = .returned (.tuple #[v, .int .i64 er]) ∧ FS w2 v nn fs ∧ Below w'.heap.size w' w2) := Lib.hid (fun w' F' h => by
    have := H.read w' p F' d s x y h hg ha.name ha.at_ ha.n; rwa [hr] at this)
  have HQ : Hid (∀ w' M' v, Foot M' w'.heap.size → RD (mask M' w') v d → Calls Try.prog 39 #[v, .string s, .int .i64 x, .int .i64 y] w' fun e w2 => ∃ v2, e = .returned (.tuple #[v2, .int .i64 er]) ∧ FS (mask M' w2) v2 nn fs ∧ Below w'.heap.size w' w2) := Lib.hid (fun w' M' v h1 h2 => by
    have := rread_any M' v d s x y w' h1 h2 ha.at_ ha.n (get_small hg s); rwa [hr] at this)
  simp only at HDO hk
  rw [HDO.out]
  clear hr hdk hrd HDO
  have HW := Lib.hid HS0.out.act.nine
  have H1C := Lib.hid h1c
  have H6 := Lib.hid h6
  clear hg ha h1c h6 hs hM
  unfold actC at *
  unfold dz at HS0
  go_enter Try.func10, Try.ntmps10
  go_wp2_with (first
    | (go_at_call 39; (with_reducible refine (HQ.out _ _ _ HS1.out.foot HS1.out.rd).mono ?_); rintro e w2 ⟨v2, rfl, hf2, hb2⟩; have HS2 := Lib.hid (HS1.out.next hH.out hb2); have HF2 := Lib.hid (hf2.kin (unmask _ _)); have HF12 := Lib.hid (HF1.out.keep hb2); clear hf2 hb2)
    | (refine wpList_load_row rfl 29 _ rfl w.heap.size rfl _ cs (0, 0) _ HS1.out.d0.1 Try.underlying29 rfl HS1.out.d0.info ?_)
    | (go_at_call 16; (with_reducible refine (HP.out _ _ HS0.out.dk).mono ?_); rintro e w1 ⟨v1, rfl, hf1, hb1⟩; have HS1 := Lib.hid (HS0.out.next hH.out hb1); have HF1 := Lib.hid hf1; obtain ⟨c0, c1, c2, c3, c4, c5, c6, c7, c8⟩ := HS1.out.act.nine; clear hf1 hb1))
  have HS2D := Lib.hid (HS2.out.next hH.out (Below.refl _ _).drew)
  refine wp_region_held_drew (S := (fun W' => DB W' w.heap.size cs)) (by kernel_rfl) (HS2D.out.d0) (fun hS => ?_)
  refine wpAnyH_take (i := 0) (oi := ({ dst := some 39, op := Op.load 29 (Operand.tmp 4), type := 29, pos := "law.go:87", after := #[], guard := none } : Oper)) (v := ?_) rfl (by kernel_rfl) (by kernel_rfl) (by kernel_rfl) (fun _ _ _ h => h) (Or.inl ⟨by rfl, ?_⟩) hS ?_
  rotate_left
  · (intro w hSw; (try dsimp only at hSw); refine exec_load_db (.tmp 4) ?_ ?_ hSw <;> rfl)
  (try simp only [Act.put, List.setIfInBounds_toArray, List.set_cons_zero, List.set_cons_succ])
  refine wpAnyH_take (i := 1) (oi := ({ dst := some 40, op := Op.move (Operand.tmp 10), type := 42, pos := "law.go:87", after := #[], guard := none } : Oper)) (v := ?_) rfl (by kernel_rfl) (by kernel_rfl) (by kernel_rfl) (fun _ _ _ h => h) (Or.inl ⟨by rfl, ?_⟩) hS ?_
  rotate_left
  · (intro w hSw; (try dsimp only at hSw); go_simp; try with_reducible rfl)
  (try simp only [Act.put, List.setIfInBounds_toArray, List.set_cons_zero, List.set_cons_succ])
  refine wpAnyH_take (i := 2) (oi := ({ dst := some 41, op := Op.move (Operand.tmp 12), type := 42, pos := "law.go:87", after := #[], guard := none } : Oper)) (v := ?_) rfl (by kernel_rfl) (by kernel_rfl) (by kernel_rfl) (fun _ _ _ h => h) (Or.inl ⟨by rfl, ?_⟩) hS ?_
  rotate_left
  · (intro w hSw; (try dsimp only at hSw); go_simp; try with_reducible rfl)
  (try simp only [Act.put, List.setIfInBounds_toArray, List.set_cons_zero, List.set_cons_succ])
  refine rg_one 3 ({ dst := some 42, op := Op.call { callee := Callee.value (Operand.func 40), args := #[Operand.tmp 40, Operand.tmp 41], argTypes := #[42, 42] }, type := 4, pos := "law.go:87", after := #[{ on := 1, ground := Ground.data }, { on := 2, ground := Ground.data }], guard := none } : Oper) (by kernel_rfl) rfl (fun K hK => ?_)
  go_simp
  (go_at_call 40; (with_reducible refine (same_true _ _ nn fs _ (HF12.out.keep (Below.refl _ _).drew) (HF2.out.keep (Below.refl _ _).drew)).mono ?_); rintro e w3 ⟨rfl, hb⟩; have HS3 := Lib.hid (HS2D.out.next hH.out hb))
  refine hK.out _ _ ?_ (fun hS1 => ?_)
  · (first | exact hS | exact hS.next hb | exact hN)
  clear hK K hS; have hS := hS1; clear hS1
  (try simp only [Act.put, List.setIfInBounds_toArray, List.set_cons_zero, List.set_cons_succ])
  refine wpAnyH_take (i := 4) (oi := ({ dst := some 43, op := Op.move (Operand.tmp 42), type := 4, pos := "law.go:87", after := #[{ on := 3, ground := Ground.data }, { on := 3, ground := Ground.chain }], guard := none } : Oper)) (v := ?_) rfl (by kernel_rfl) (by kernel_rfl) (by kernel_rfl) (fun _ _ _ h => h) (Or.inl ⟨by rfl, ?_⟩) hS ?_
  rotate_left
  · (intro w hSw; (try dsimp only at hSw); go_simp; try with_reducible rfl)
  (try simp only [Act.put, List.setIfInBounds_toArray, List.set_cons_zero, List.set_cons_succ])
  refine wpAnyH_take (i := 5) (oi := ({ dst := some 44, op := Op.move (Operand.tmp 11), type := 45, pos := "law.go:87", after := #[{ on := 4, ground := Ground.guard }, { on := 9, ground := Ground.gcOnly Departure.lateStores }], guard := some (4, true) } : Oper)) (v := ?_) rfl (by kernel_rfl) (by kernel_rfl) (by kernel_rfl) (fun _ _ _ h => h) (Or.inl ⟨by rfl, ?_⟩) hS ?_
  rotate_left
  · (intro w hSw; (try dsimp only at hSw); go_simp; try with_reducible rfl)
  (try simp only [Act.put, List.setIfInBounds_toArray, List.set_cons_zero, List.set_cons_succ])
  refine wpAnyH_take (i := 6) (oi := ({ dst := some 45, op := Op.move (Operand.tmp 13), type := 45, pos := "law.go:87", after := #[{ on := 4, ground := Ground.guard }, { on := 9, ground := Ground.gcOnly Departure.lateStores }], guard := some (4, true) } : Oper)) (v := ?_) rfl (by kernel_rfl) (by kernel_rfl) (by kernel_rfl) (fun _ _ _ h => h) (Or.inl ⟨by rfl, ?_⟩) hS ?_
  rotate_left
  · (intro w hSw; (try dsimp only at hSw); go_simp; try with_reducible rfl)
  (try simp only [Act.put, List.setIfInBounds_toArray, List.set_cons_zero, List.set_cons_succ])
  refine wpAnyH_take (i := 7) (oi := ({ dst := some 46, op := Op.binOp BinOp.eql 45 (Operand.tmp 44) (Operand.tmp 45) 45, type := 4, pos := "law.go:87", after := #[{ on := 5, ground := Ground.data }, { on := 6, ground := Ground.data }, { on := 4, ground := Ground.guard }, { on := 9, ground := Ground.gcOnly Departure.lateStores }], guard := some (4, true) } : Oper)) (v := ?_) rfl (by kernel_rfl) (by kernel_rfl) (by kernel_rfl) (fun _ _ _ h => h) (Or.inl ⟨by rfl, ?_⟩) hS ?_
  rotate_left
  · (intro w hSw; (try dsimp only at hSw); go_simp; try with_reducible rfl)
  (try simp only [Act.put, List.setIfInBounds_toArray, List.set_cons_zero, List.set_cons_succ])
  refine wpAnyH_take (i := 8) (oi := ({ dst := some 47, op := Op.pick (Operand.tmp 43) (Operand.tmp 46) (Operand.const (Value.bool false)), type := 4, pos := "law.go:87", after := #[{ on := 4, ground := Ground.data }, { on := 7, ground := Ground.data }, { on := 9, ground := Ground.gcOnly Departure.lateStores }], guard := none } : Oper)) (v := ?_) rfl (by kernel_rfl) (by kernel_rfl) (by kernel_rfl) (fun _ _ _ h => h) (Or.inl ⟨by rfl, ?_⟩) hS ?_
  rotate_left
  · (intro w hSw; (try dsimp only at hSw); go_simp; try with_reducible rfl)
  (try simp only [Act.put, List.setIfInBounds_toArray, List.set_cons_zero, List.set_cons_succ])
  refine rg_one 9 ({ dst := none, op := Op.store 29 (Operand.tmp 6) (Operand.tmp 39), type := 0, pos := "law.go:87", after := #[{ on := 0, ground := Ground.data }, { on := 4, ground := Ground.chain }, { on := 0, ground := Ground.phase }, { on := 1, ground := Ground.textOnly Departure.lateStores }, { on := 2, ground := Ground.textOnly Departure.lateStores }, { on := 3, ground := Ground.textOnly Departure.lateStoresUnsure }, { on := 4, ground := Ground.textOnly Departure.lateStores }, { on := 5, ground := Ground.textOnly Departure.lateStores }, { on := 6, ground := Ground.textOnly Departure.lateStores }, { on := 7, ground := Ground.textOnly Departure.lateStores }, { on := 8, ground := Ground.textOnly Departure.lateStores }], guard := none } : Oper) (by kernel_rfl) rfl (fun K hK => ?_)
  rw [if_pos (by rfl)]; refine wp_store_row 29 (.tmp 6) (.tmp 39) rfl (w.heap.size + 2) cs rfl rfl _ dz HS3.out.d2.1 (by rw [H6.out]; exact disk_info) (by rw [H6.out]; rfl) H1C.out ?_; have hN := (HS3.out.d0.over (w.heap.size + 2) (by omega) cs)
  refine hK.out _ _ ?_ (fun hS1 => ?_)
  · (first | exact hS | exact hS.next hb | exact hN)
  clear hK K hS; have hS := hS1; clear hS1
  (try simp only [Act.put])
  refine wpAnyH_take (i := 10) (oi := ({ dst := some 7, op := Op.assign (Operand.tmp 47), type := 4, pos := "law.go:87", after := #[{ on := 8, ground := Ground.data }, { on := 9, ground := Ground.chain }, { on := 0, ground := Ground.phase }, { on := 1, ground := Ground.phase }, { on := 2, ground := Ground.phase }, { on := 3, ground := Ground.phase }, { on := 4, ground := Ground.phase }, { on := 5, ground := Ground.phase }, { on := 6, ground := Ground.phase }, { on := 7, ground := Ground.phase }, { on := 8, ground := Ground.phase }, { on := 9, ground := Ground.phase }], guard := none } : Oper)) (v := ?_) rfl (by kernel_rfl) (by kernel_rfl) (by kernel_rfl) (fun _ _ _ h => h) (Or.inl ⟨by rfl, ?_⟩) hS ?_
  rotate_left
  · (intro w hSw; (try dsimp only at hSw); go_simp; try with_reducible rfl)
  (try simp only [Act.put, List.setIfInBounds_toArray, List.set_cons_zero, List.set_cons_succ])
  refine wpAnyH_done (by kernel_rfl) ?_ _
  go_wp2
  obtain ⟨hE, hD⟩ := HS3.out.done hH.out
  refine bodyPost_ret_by (results_row_tmp rfl _ _ (w.heap.size + 2) _ rfl (disk_load hD.1 H6.out)) rfl ⟨_, _, _, rfl, hE⟩
end Go.Proofs.Ytpnialanmidekaa
