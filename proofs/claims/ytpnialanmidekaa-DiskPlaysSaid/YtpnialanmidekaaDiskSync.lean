/-
  WHAT THE DOCUMENT'S ANSWERS OF LAYER 8 (disk) ANSWER: the reference's Sync.
-/
import Derived.Test.YtpnialanmidekaaDiskOps
namespace Go.Proofs.Ytpnialanmidekaa
open Go.RowKit
set_option maxRecDepth 8000 in
set_option maxHeartbeats 1000000 in
theorem rsync_any (F : Nat → Bool) (vd : Value) (d : AD) (s : ByteArray) (w : World) (hF : Foot F w.heap.size) (h : RD (mask F w) vd d) (hn1 : d.L.length ≤ 1000000) (hfn : ((d.get s).n : Int) ≤ 1000000000) :
    Calls Try.prog 34 #[vd, .string s] w fun e w' => ∃ v', e = .returned (.tuple #[v', .int .i64 (d.syncR s).2]) ∧ RD (mask F w') v' (d.syncR s).1 ∧ Below w.heap.size w w' := by
  obtain ⟨a, n, cap, rfl, hn, hc1, hc2⟩ := h.agg
  have hst := St.start hF rfl h
  obtain ⟨W2, hW2⟩ : ∃ W2, (w.alloc (.cells #[.slice a n cap, .int .i64 d.cap, .int .i64 d.ops, .bool d.down, .bool d.told, .int .i64 d.after] 29)).alloc (.cells #[.slice none 0 0, .int .i64 0, .int .i64 0, .bool false, .bool false, .int .i64 0] 29) = W2 := ⟨_, rfl⟩
  rw [hW2] at hst
  have HS := Lib.hid hst
  have HN := Lib.hid hn
  obtain ⟨q0, q1, q2, q3, q4, q5⟩ := hst.d0.six
  clear hst hn h hF
  unfold AD.syncR
  by_cases hd : d.down = true
  · rw [if_pos hd]
    simp only [hd] at q3 hW2 HS ⊢
    clear hd
    go_enter Try.func34, Try.ntmps34
    go_wp2_with (first
      | (refine wpList_load_row rfl 29 _ rfl w.heap.size rfl _ _ (0, 0) _ HS.out.d0.1 Try.underlying29 rfl HS.out.d0.info ?_)
      | (refine wpList_store_row rfl 29 _ _ rfl (w.heap.size + 1) #[.slice a n cap, .int .i64 d.cap, .int .i64 d.ops, .bool true, .bool d.told, .int .i64 d.after] rfl rfl _ dz HS.out.d1.1 disk_info (by rfl) (by simp [Value.oneCell']) ?_))
    obtain ⟨e1, e2, e3⟩ := HS.out.done (cs' := #[.slice a n cap, .int .i64 d.cap, .int .i64 d.ops, .bool true, .bool d.told, .int .i64 d.after]) HS.out.rd rfl
    exact bodyPost_ret_by (results_row_tmp rfl _ _ (w.heap.size + 1) _ rfl (disk_load e1.1 rfl)) rfl ⟨_, rfl, e2, e3⟩
  · rw [if_neg hd]
    rw [Bool.not_eq_true] at hd
    simp only [hd] at q3 hW2 HS ⊢
    obtain ⟨i, hi⟩ : ∃ i, findI d.L s = i := ⟨_, rfl⟩
    have HFD := Lib.hid fun W (hw : RD W (.agg #[.slice a n cap, .int .i64 d.cap, .int .i64 d.ops, .bool false, .bool d.told, .int .i64 d.after]) d) => rfind_any (.agg #[.slice a n cap, .int .i64 d.cap, .int .i64 d.ops, .bool false, .bool d.told, .int .i64 d.after]) d s W hw
    rw [hi] at HFD
    have HOP := Lib.hid fun W => rop_any a n cap d W
    unfold dv at HOP
    simp only [hd] at HOP
    by_cases hh : d.has s
    · rw [if_neg (by simpa using hh)]
      have hi0 : i = (idxN d.L s : Int) := by rw [← hi]; exact d.find_has s hh
      obtain ⟨j, hj⟩ : ∃ j, idxN d.L s = j := ⟨_, rfl⟩
      have hga := d.get_at s hh
      have hgn := d.get_name s hh
      rw [hj] at hga hi0
      subst hi0
      obtain ⟨f, hf⟩ : ∃ f, d.get s = f := ⟨_, rfl⟩
      rw [hf] at hga hgn ⊢
      have hjn : j < n := by rw [← HN.out]; exact (List.getElem?_eq_some_iff.1 hga).1
      rw [hf] at hfn
      have HGA := Lib.hid hga
      have HGN := Lib.hid hgn
      clear hi hh hf hgn hga
      by_cases ho : d.ope = 0
      · rw [AD.opR_done d _ ho]
        rw [ho] at HOP
        have HL2 := Lib.hid (AD.opd_L d)
        obtain ⟨d2, hd2⟩ : ∃ d2, d.opd = d2 := ⟨_, rfl⟩
        rw [hd2] at HOP HL2 ⊢
        have HLN := Lib.hid (show d2.L.length ≤ 1000000 from by rw [HL2.out]; exact hn1)
        have hmk := make_bools_run f.n (by omega)
        rw [show ({ f with las := f.seen, ws := List.replicate f.n false } : AF) = ⟨s, f.n, f.seen, f.seen, List.replicate f.n false⟩ from by rw [← HGN.out]]
        clear ho hn1 hd2 hd
        go_enter Try.func34, Try.ntmps34
        go_wp2_with (first
          | (refine wpList_load_row rfl 29 _ rfl w.heap.size rfl _ _ (0, 0) _ HS3.out.d0.1 Try.underlying29 rfl HS3.out.d0.info ?_)
          | (refine wpList_load_row rfl 29 _ rfl w.heap.size rfl _ _ (0, 0) _ HS.out.d0.1 Try.underlying29 rfl HS.out.d0.info ?_)
          | (go_at_call 63; (with_reducible refine (HFD.out _ (HS.out.rd.kin (unmask _ _))).mono ?_); rintro e w3 ⟨rfl, hb⟩; have HS3 := Lib.hid (HS.out.next hb); clear hb)
          | (go_at_call 64; (with_reducible refine (HOP.out _).mono ?_); rintro e w4 ⟨rfl, hb⟩; have HS4 := Lib.hid (HS3.out.next hb); clear hb)
          | (refine wpl_store_newD rfl _ _ rfl rfl w4.heap.size rfl #[.slice a n cap, .int .i64 d2.cap, .int .i64 d2.ops, .bool d2.down, .bool d2.told, .int .i64 d2.after] rfl (by simp [Value.oneCell']) rfl rfl ?_; intro w5 HX5 hb5; have HS5 := Lib.hid (HS4.out.next hb5.out); clear hb5; obtain ⟨b, off, a1, c1, a2, c2, a3, c3, rfl, k0, k1, k2, k3, f1, f2, f3⟩ := HS5.out.rd.fls.form4 j f HGA.out; have HK := Lib.hid (And.intro k0 (And.intro k1 (And.intro k2 k3))); have HF4 := Lib.hid (And.intro f1 (And.intro f2 f3)); clear k0 k1 k2 k3 f1 f2 f3; have HU := Lib.hid (unmask (boxF F w) w5); have k2 := HU.out _ _ HK.out.2.2.1; have p0 := HS5.out.d0.cell 0; simp only [List.getElem?_toArray, List.getElem?_cons_zero] at p0)
          | (refine wpList_load_row rfl 29 _ rfl w4.heap.size rfl _ _ (0, 0) _ HX5.out.1 Try.underlying29 rfl HX5.out.info ?_))
        have HS6 := Lib.hid (HS5.out.next (Below.refl _ _).drew)
        have HQ6 : Hid (Sk (boxF F w) w.heap.size (.slice (some ⟨b, off, none⟩) n cap) w4.heap.size #[.slice (some ⟨b, off, none⟩) n cap, .int .i64 d2.cap, .int .i64 d2.ops, .bool d2.down, .bool d2.told, .int .i64 d2.after] ⟨b, off + j * 4 + 2, none⟩ (.slice a2 f.n c2) w5.drew) := Lib.hid (Sk.next ⟨HX5.out, p0, HK.out.2.2.1⟩ (Below.refl _ _).drew)
        have HB6 : Hid (Below w5.heap.size w5 w5.drew) := Lib.hid (Below.refl _ _).drew
        refine wp_region_held_drew (S := (fun W' => Sk (boxF F w) w.heap.size (.slice (some ⟨b, off, none⟩) n cap) w4.heap.size #[.slice (some ⟨b, off, none⟩) n cap, .int .i64 d2.cap, .int .i64 d2.ops, .bool d2.down, .bool d2.told, .int .i64 d2.after] ⟨b, off + j * 4 + 2, none⟩ (.slice a2 f.n c2) W')) (by kernel_rfl) HQ6.out (fun hS => ?_)
        refine wpAnyH_take (i := 0) (oi := ({ dst := some 27, op := Op.load 29 (Operand.tmp 7), type := 29, pos := "ref.go:215", after := #[], guard := none } : Oper)) (v := ?_) rfl (by kernel_rfl) (by kernel_rfl) (by kernel_rfl) (fun _ _ _ h => h) (Or.inl ⟨by rfl, ?_⟩) hS ?_
        rotate_left
        · (intro w hSw; (try dsimp only at hSw); refine exec_load_db (.tmp 7) ?_ ?_ hSw.x <;> rfl)
        (try simp only [Act.put, List.setIfInBounds_toArray, List.set_cons_zero, List.set_cons_succ])
        refine wpAnyH_take (i := 1) (oi := ({ dst := some 28, op := Op.move (Operand.tmp 1), type := 9, pos := "ref.go:215", after := #[], guard := none } : Oper)) (v := ?_) rfl (by kernel_rfl) (by kernel_rfl) (by kernel_rfl) (fun _ _ _ h => h) (Or.inl ⟨by rfl, ?_⟩) hS ?_
        rotate_left
        · (intro w hSw; (try dsimp only at hSw); go_simp; try with_reducible rfl)
        (try simp only [Act.put, List.setIfInBounds_toArray, List.set_cons_zero, List.set_cons_succ])
        refine wpAnyH_take (i := 2) (oi := ({ dst := some 29, op := Op.fieldAddr 29 (Operand.tmp 2) 0, type := 0, pos := "ref.go:215", after := #[], guard := none } : Oper)) (v := ?_) rfl (by kernel_rfl) (by kernel_rfl) (by kernel_rfl) (fun _ _ _ h => h) (Or.inl ⟨by rfl, ?_⟩) hS ?_
        rotate_left
        · (intro w hSw; (try dsimp only at hSw); have z0 := hSw.c0; have z2 := unmask _ _ _ _ hSw.k; go_simp; try with_reducible rfl)
        (try simp only [Act.put, List.setIfInBounds_toArray, List.set_cons_zero, List.set_cons_succ])
        refine wpAnyH_take (i := 3) (oi := ({ dst := some 30, op := Op.load 27 (Operand.tmp 29), type := 27, pos := "ref.go:215", after := #[{ on := 2, ground := Ground.data }], guard := none } : Oper)) (v := ?_) rfl (by kernel_rfl) (by kernel_rfl) (by kernel_rfl) (fun _ _ _ h => h) (Or.inl ⟨by rfl, ?_⟩) hS ?_
        rotate_left
        · (intro w hSw; (try dsimp only at hSw); have z0 := hSw.c0; have z2 := unmask _ _ _ _ hSw.k; go_simp; try with_reducible rfl)
        (try simp only [Act.put, List.setIfInBounds_toArray, List.set_cons_zero, List.set_cons_succ])
        refine wpAnyH_take (i := 4) (oi := ({ dst := some 31, op := Op.move (Operand.tmp 6), type := 3, pos := "ref.go:215", after := #[], guard := none } : Oper)) (v := ?_) rfl (by kernel_rfl) (by kernel_rfl) (by kernel_rfl) (fun _ _ _ h => h) (Or.inl ⟨by rfl, ?_⟩) hS ?_
        rotate_left
        · (intro w hSw; (try dsimp only at hSw); go_simp; try with_reducible rfl)
        (try simp only [Act.put, List.setIfInBounds_toArray, List.set_cons_zero, List.set_cons_succ])
        refine wpAnyH_take (i := 5) (oi := ({ dst := some 32, op := Op.indexAddr 27 (Operand.tmp 30) (Operand.tmp 31), type := 0, pos := "ref.go:215", after := #[{ on := 3, ground := Ground.data }, { on := 4, ground := Ground.data }], guard := none } : Oper)) (v := ?_) rfl (by kernel_rfl) (by kernel_rfl) (by kernel_rfl) (fun _ _ _ h => h) (Or.inl ⟨by rfl, ?_⟩) hS ?_
        rotate_left
        · (intro w hSw; (try dsimp only at hSw); have z0 := hSw.c0; have z2 := unmask _ _ _ _ hSw.k; go_simp; try with_reducible rfl)
        (try simp only [Act.put, List.setIfInBounds_toArray, List.set_cons_zero, List.set_cons_succ])
        refine wpAnyH_take (i := 6) (oi := ({ dst := some 33, op := Op.fieldAddr 82 (Operand.tmp 32) 2, type := 0, pos := "ref.go:215", after := #[{ on := 5, ground := Ground.data }], guard := none } : Oper)) (v := ?_) rfl (by kernel_rfl) (by kernel_rfl) (by kernel_rfl) (fun _ _ _ h => h) (Or.inl ⟨by rfl, ?_⟩) hS ?_
        rotate_left
        · (intro w hSw; (try dsimp only at hSw); have z0 := hSw.c0; have z2 := unmask _ _ _ _ hSw.k; go_simp; try with_reducible rfl)
        (try simp only [Act.put, List.setIfInBounds_toArray, List.set_cons_zero, List.set_cons_succ])
        refine wpAnyH_take (i := 7) (oi := ({ dst := some 34, op := Op.load 42 (Operand.tmp 33), type := 42, pos := "ref.go:215", after := #[{ on := 6, ground := Ground.data }], guard := none } : Oper)) (v := ?_) rfl (by kernel_rfl) (by kernel_rfl) (by kernel_rfl) (fun _ _ _ h => h) (Or.inl ⟨by rfl, ?_⟩) hS ?_
        rotate_left
        · (intro w hSw; (try dsimp only at hSw); have z0 := hSw.c0; have z2 := unmask _ _ _ _ hSw.k; go_simp; try with_reducible rfl)
        (try simp only [Act.put, List.setIfInBounds_toArray, List.set_cons_zero, List.set_cons_succ])
        refine wpAnyH_take (i := 8) (oi := ({ dst := some 35, op := Op.fieldAddr 29 (Operand.tmp 2) 0, type := 0, pos := "ref.go:215", after := #[], guard := none } : Oper)) (v := ?_) rfl (by kernel_rfl) (by kernel_rfl) (by kernel_rfl) (fun _ _ _ h => h) (Or.inl ⟨by rfl, ?_⟩) hS ?_
        rotate_left
        · (intro w hSw; (try dsimp only at hSw); have z0 := hSw.c0; have z2 := unmask _ _ _ _ hSw.k; go_simp; try with_reducible rfl)
        (try simp only [Act.put, List.setIfInBounds_toArray, List.set_cons_zero, List.set_cons_succ])
        refine wpAnyH_take (i := 9) (oi := ({ dst := some 36, op := Op.load 27 (Operand.tmp 35), type := 27, pos := "ref.go:215", after := #[{ on := 8, ground := Ground.data }], guard := none } : Oper)) (v := ?_) rfl (by kernel_rfl) (by kernel_rfl) (by kernel_rfl) (fun _ _ _ h => h) (Or.inl ⟨by rfl, ?_⟩) hS ?_
        rotate_left
        · (intro w hSw; (try dsimp only at hSw); have z0 := hSw.c0; have z2 := unmask _ _ _ _ hSw.k; go_simp; try with_reducible rfl)
        (try simp only [Act.put, List.setIfInBounds_toArray, List.set_cons_zero, List.set_cons_succ])
        refine wpAnyH_take (i := 10) (oi := ({ dst := some 37, op := Op.move (Operand.tmp 6), type := 3, pos := "ref.go:215", after := #[], guard := none } : Oper)) (v := ?_) rfl (by kernel_rfl) (by kernel_rfl) (by kernel_rfl) (fun _ _ _ h => h) (Or.inl ⟨by rfl, ?_⟩) hS ?_
        rotate_left
        · (intro w hSw; (try dsimp only at hSw); go_simp; try with_reducible rfl)
        (try simp only [Act.put, List.setIfInBounds_toArray, List.set_cons_zero, List.set_cons_succ])
        refine wpAnyH_take (i := 11) (oi := ({ dst := some 38, op := Op.indexAddr 27 (Operand.tmp 36) (Operand.tmp 37), type := 0, pos := "ref.go:215", after := #[{ on := 9, ground := Ground.data }, { on := 10, ground := Ground.data }], guard := none } : Oper)) (v := ?_) rfl (by kernel_rfl) (by kernel_rfl) (by kernel_rfl) (fun _ _ _ h => h) (Or.inl ⟨by rfl, ?_⟩) hS ?_
        rotate_left
        · (intro w hSw; (try dsimp only at hSw); have z0 := hSw.c0; have z2 := unmask _ _ _ _ hSw.k; go_simp; try with_reducible rfl)
        (try simp only [Act.put, List.setIfInBounds_toArray, List.set_cons_zero, List.set_cons_succ])
        refine wpAnyH_take (i := 12) (oi := ({ dst := some 39, op := Op.fieldAddr 82 (Operand.tmp 38) 2, type := 0, pos := "ref.go:215", after := #[{ on := 11, ground := Ground.data }], guard := none } : Oper)) (v := ?_) rfl (by kernel_rfl) (by kernel_rfl) (by kernel_rfl) (fun _ _ _ h => h) (Or.inl ⟨by rfl, ?_⟩) hS ?_
        rotate_left
        · (intro w hSw; (try dsimp only at hSw); have z0 := hSw.c0; have z2 := unmask _ _ _ _ hSw.k; go_simp; try with_reducible rfl)
        (try simp only [Act.put, List.setIfInBounds_toArray, List.set_cons_zero, List.set_cons_succ])
        refine wpAnyH_take (i := 13) (oi := ({ dst := some 40, op := Op.load 42 (Operand.tmp 39), type := 42, pos := "ref.go:215", after := #[{ on := 12, ground := Ground.data }], guard := none } : Oper)) (v := ?_) rfl (by kernel_rfl) (by kernel_rfl) (by kernel_rfl) (fun _ _ _ h => h) (Or.inl ⟨by rfl, ?_⟩) hS ?_
        rotate_left
        · (intro w hSw; (try dsimp only at hSw); have z0 := hSw.c0; have z2 := unmask _ _ _ _ hSw.k; go_simp; try with_reducible rfl)
        (try simp only [Act.put, List.setIfInBounds_toArray, List.set_cons_zero, List.set_cons_succ])
        refine wpAnyH_take (i := 14) (oi := ({ dst := some 41, op := Op.fieldAddr 29 (Operand.tmp 2) 0, type := 0, pos := "ref.go:215", after := #[], guard := none } : Oper)) (v := ?_) rfl (by kernel_rfl) (by kernel_rfl) (by kernel_rfl) (fun _ _ _ h => h) (Or.inl ⟨by rfl, ?_⟩) hS ?_
        rotate_left
        · (intro w hSw; (try dsimp only at hSw); have z0 := hSw.c0; have z2 := unmask _ _ _ _ hSw.k; go_simp; try with_reducible rfl)
        (try simp only [Act.put, List.setIfInBounds_toArray, List.set_cons_zero, List.set_cons_succ])
        refine wpAnyH_take (i := 15) (oi := ({ dst := some 42, op := Op.load 27 (Operand.tmp 41), type := 27, pos := "ref.go:215", after := #[{ on := 14, ground := Ground.data }], guard := none } : Oper)) (v := ?_) rfl (by kernel_rfl) (by kernel_rfl) (by kernel_rfl) (fun _ _ _ h => h) (Or.inl ⟨by rfl, ?_⟩) hS ?_
        rotate_left
        · (intro w hSw; (try dsimp only at hSw); have z0 := hSw.c0; have z2 := unmask _ _ _ _ hSw.k; go_simp; try with_reducible rfl)
        (try simp only [Act.put, List.setIfInBounds_toArray, List.set_cons_zero, List.set_cons_succ])
        refine wpAnyH_take (i := 16) (oi := ({ dst := some 43, op := Op.move (Operand.tmp 6), type := 3, pos := "ref.go:215", after := #[], guard := none } : Oper)) (v := ?_) rfl (by kernel_rfl) (by kernel_rfl) (by kernel_rfl) (fun _ _ _ h => h) (Or.inl ⟨by rfl, ?_⟩) hS ?_
        rotate_left
        · (intro w hSw; (try dsimp only at hSw); go_simp; try with_reducible rfl)
        (try simp only [Act.put, List.setIfInBounds_toArray, List.set_cons_zero, List.set_cons_succ])
        refine wpAnyH_take (i := 17) (oi := ({ dst := some 44, op := Op.indexAddr 27 (Operand.tmp 42) (Operand.tmp 43), type := 0, pos := "ref.go:215", after := #[{ on := 15, ground := Ground.data }, { on := 16, ground := Ground.data }], guard := none } : Oper)) (v := ?_) rfl (by kernel_rfl) (by kernel_rfl) (by kernel_rfl) (fun _ _ _ h => h) (Or.inl ⟨by rfl, ?_⟩) hS ?_
        rotate_left
        · (intro w hSw; (try dsimp only at hSw); have z0 := hSw.c0; have z2 := unmask _ _ _ _ hSw.k; go_simp; try with_reducible rfl)
        (try simp only [Act.put, List.setIfInBounds_toArray, List.set_cons_zero, List.set_cons_succ])
        refine wpAnyH_take (i := 18) (oi := ({ dst := some 45, op := Op.fieldAddr 82 (Operand.tmp 44) 2, type := 0, pos := "ref.go:215", after := #[{ on := 17, ground := Ground.data }], guard := none } : Oper)) (v := ?_) rfl (by kernel_rfl) (by kernel_rfl) (by kernel_rfl) (fun _ _ _ h => h) (Or.inl ⟨by rfl, ?_⟩) hS ?_
        rotate_left
        · (intro w hSw; (try dsimp only at hSw); have z0 := hSw.c0; have z2 := unmask _ _ _ _ hSw.k; go_simp; try with_reducible rfl)
        (try simp only [Act.put, List.setIfInBounds_toArray, List.set_cons_zero, List.set_cons_succ])
        refine wpAnyH_take (i := 19) (oi := ({ dst := some 46, op := Op.load 42 (Operand.tmp 45), type := 42, pos := "ref.go:215", after := #[{ on := 18, ground := Ground.data }], guard := none } : Oper)) (v := ?_) rfl (by kernel_rfl) (by kernel_rfl) (by kernel_rfl) (fun _ _ _ h => h) (Or.inl ⟨by rfl, ?_⟩) hS ?_
        rotate_left
        · (intro w hSw; (try dsimp only at hSw); have z0 := hSw.c0; have z2 := unmask _ _ _ _ hSw.k; go_simp; try with_reducible rfl)
        (try simp only [Act.put, List.setIfInBounds_toArray, List.set_cons_zero, List.set_cons_succ])
        refine wpAnyH_take (i := 20) (oi := ({ dst := some 47, op := Op.call { callee := Callee.builtin Builtin.len, args := #[Operand.tmp 46], argTypes := #[42] }, type := 3, pos := "ref.go:215", after := #[{ on := 19, ground := Ground.data }], guard := none } : Oper)) (v := ?_) rfl (by kernel_rfl) (by kernel_rfl) (by kernel_rfl) (fun _ _ _ h => h) (Or.inl ⟨by rfl, ?_⟩) hS ?_
        rotate_left
        · (intro w hSw; (try dsimp only at hSw); go_simp; try with_reducible rfl)
        (try simp only [Act.put, List.setIfInBounds_toArray, List.set_cons_zero, List.set_cons_succ])
        refine rg_one 21 ({ dst := some 48, op := Op.makeSlice 80 (Operand.tmp 47) (Operand.tmp 47), type := 80, pos := "ref.go:215", after := #[{ on := 20, ground := Ground.data }, { on := 20, ground := Ground.data }], guard := none } : Oper) (by kernel_rfl) rfl (fun K hK => ?_)
        go_simp
        (have hb : Below w5.drew.heap.size w5.drew (w5.alloc (.cells (Array.replicate f.n (Value.bool false)) 4)).drew := below_drew_alloc w5 (.cells (Array.replicate f.n (Value.bool false)) 4); have HS7 := Lib.hid (HS6.out.next hb); have HB7 := Lib.hid (chain HB6.out hb); have HBS := Lib.hid ((BS.fresh HS5.out.foot f.n (by omega) 4).kin (kin_drew _ _)))
        refine hK.out _ _ ?_ (fun hS1 => ?_)
        · (first | exact hS | exact hS.next hb | exact hN)
        clear hK K hS; have hS := hS1; clear hS1
        (try simp only [Act.put, List.setIfInBounds_toArray, List.set_cons_zero, List.set_cons_succ])
        refine wpAnyH_take (i := 22) (oi := ({ dst := some 49, op := Op.build 82 #[(0, Operand.tmp 28), (1, Operand.tmp 34), (2, Operand.tmp 40), (3, Operand.tmp 48)], type := 82, pos := "ref.go:215", after := #[{ on := 1, ground := Ground.data }, { on := 7, ground := Ground.data }, { on := 13, ground := Ground.data }, { on := 21, ground := Ground.data }], guard := none } : Oper)) (v := ?_) rfl (by kernel_rfl) (by kernel_rfl) (by kernel_rfl) (fun _ _ _ h => h) (Or.inl ⟨by rfl, ?_⟩) hS ?_
        rotate_left
        · (intro w hSw; (try dsimp only at hSw); go_simp; try with_reducible rfl)
        (try simp only [Act.put, List.setIfInBounds_toArray, List.set_cons_zero, List.set_cons_succ])
        refine rg_one 23 ({ dst := some 50, op := Op.call { callee := Callee.value (Operand.func 47), args := #[Operand.tmp 27, Operand.tmp 49], argTypes := #[29, 82] }, type := 29, pos := "ref.go:215", after := #[{ on := 0, ground := Ground.data }, { on := 22, ground := Ground.data }], guard := none } : Oper) (by kernel_rfl) rfl (fun K hK => ?_)
        go_simp
        (go_at_call 47; (refine (rwith_any (boxF F w) _ d2 a2 c2 a2 c2 (some ⟨w5.heap.size, 0, none⟩) f.n ⟨s, f.n, f.seen, f.seen, List.replicate f.n false⟩ _ HS7.out.foot (HS7.out.rd.re HL2.out) ⟨_, _, _, rfl, HF4.out.2.1.kin (kin_mask HB7.out), HF4.out.2.1.kin (kin_mask HB7.out), HBS.out⟩ HLN.out).mono ?_); rintro e w8 ⟨v8, rfl, hr8, hb⟩; have HS8 := Lib.hid (HS7.out.next hb); obtain ⟨a7, n7, c7, rfl, _⟩ := hr8.agg; have HR8 := Lib.hid hr8)
        refine hK.out _ _ ?_ (fun hS1 => ?_)
        · (first | exact hS | exact hS.next hb | exact hN)
        clear hK K hS; have hS := hS1; clear hS1
        (try simp only [Act.put, List.setIfInBounds_toArray, List.set_cons_zero, List.set_cons_succ])
        refine rg_one 24 ({ dst := none, op := Op.store 29 (Operand.tmp 4) (Operand.tmp 50), type := 0, pos := "ref.go:215", after := #[{ on := 23, ground := Ground.data }, { on := 23, ground := Ground.chain }, { on := 0, ground := Ground.phase }, { on := 1, ground := Ground.phase }, { on := 2, ground := Ground.phase }, { on := 3, ground := Ground.phase }, { on := 4, ground := Ground.phase }, { on := 5, ground := Ground.phase }, { on := 6, ground := Ground.phase }, { on := 7, ground := Ground.phase }, { on := 8, ground := Ground.phase }, { on := 9, ground := Ground.phase }, { on := 10, ground := Ground.phase }, { on := 11, ground := Ground.phase }, { on := 12, ground := Ground.phase }, { on := 13, ground := Ground.phase }, { on := 14, ground := Ground.phase }, { on := 15, ground := Ground.phase }, { on := 16, ground := Ground.phase }, { on := 17, ground := Ground.phase }, { on := 18, ground := Ground.phase }, { on := 19, ground := Ground.phase }, { on := 20, ground := Ground.phase }, { on := 21, ground := Ground.phase }, { on := 22, ground := Ground.phase }, { on := 23, ground := Ground.phase }], guard := none } : Oper) (by kernel_rfl) rfl (fun K hK => ?_)
        rw [if_pos (by rfl)]; refine wp_store_row 29 (.tmp 4) (.tmp 50) rfl (w.heap.size + 1) #[.slice a7 n7 c7, .int .i64 (d2.withF ⟨s, f.n, f.seen, f.seen, List.replicate f.n false⟩).cap, .int .i64 (d2.withF ⟨s, f.n, f.seen, f.seen, List.replicate f.n false⟩).ops, .bool (d2.withF ⟨s, f.n, f.seen, f.seen, List.replicate f.n false⟩).down, .bool (d2.withF ⟨s, f.n, f.seen, f.seen, List.replicate f.n false⟩).told, .int .i64 (d2.withF ⟨s, f.n, f.seen, f.seen, List.replicate f.n false⟩).after] rfl rfl _ dz HS8.out.d1.1 disk_info (by rfl) (by simp [Value.oneCell']) ?_; have hN := hS.row (w.heap.size + 1) (by have := HS4.out.size; omega) (by omega) (box_in1 F w) #[.slice a7 n7 c7, .int .i64 (d2.withF ⟨s, f.n, f.seen, f.seen, List.replicate f.n false⟩).cap, .int .i64 (d2.withF ⟨s, f.n, f.seen, f.seen, List.replicate f.n false⟩).ops, .bool (d2.withF ⟨s, f.n, f.seen, f.seen, List.replicate f.n false⟩).down, .bool (d2.withF ⟨s, f.n, f.seen, f.seen, List.replicate f.n false⟩).told, .int .i64 (d2.withF ⟨s, f.n, f.seen, f.seen, List.replicate f.n false⟩).after]
        refine hK.out _ _ ?_ (fun hS1 => ?_)
        · (first | exact hS | exact hS.next hb | exact hN)
        clear hK K hS; have hS := hS1; clear hS1
        (try simp only [Act.put])
        refine wpAnyH_take (i := 25) (oi := ({ dst := some 5, op := Op.assign (Operand.const (Value.int IntKind.i64 0)), type := 45, pos := "ref.go:215", after := #[{ on := 24, ground := Ground.chain }, { on := 0, ground := Ground.phase }, { on := 1, ground := Ground.phase }, { on := 2, ground := Ground.phase }, { on := 3, ground := Ground.phase }, { on := 4, ground := Ground.phase }, { on := 5, ground := Ground.phase }, { on := 6, ground := Ground.phase }, { on := 7, ground := Ground.phase }, { on := 8, ground := Ground.phase }, { on := 9, ground := Ground.phase }, { on := 10, ground := Ground.phase }, { on := 11, ground := Ground.phase }, { on := 12, ground := Ground.phase }, { on := 13, ground := Ground.phase }, { on := 14, ground := Ground.phase }, { on := 15, ground := Ground.phase }, { on := 16, ground := Ground.phase }, { on := 17, ground := Ground.phase }, { on := 18, ground := Ground.phase }, { on := 19, ground := Ground.phase }, { on := 20, ground := Ground.phase }, { on := 21, ground := Ground.phase }, { on := 22, ground := Ground.phase }, { on := 23, ground := Ground.phase }, { on := 24, ground := Ground.phase }], guard := none } : Oper)) (v := ?_) rfl (by kernel_rfl) (by kernel_rfl) (by kernel_rfl) (fun _ _ _ h => h) (Or.inl ⟨by rfl, ?_⟩) hS ?_
        rotate_left
        · (intro w hSw; (try dsimp only at hSw); go_simp; try with_reducible rfl)
        (try simp only [Act.put, List.setIfInBounds_toArray, List.set_cons_zero, List.set_cons_succ])
        refine wpAnyH_done (by kernel_rfl) ?_ _
        clear hS
        go_wp2
        obtain ⟨e1, e2, e3⟩ := HS8.out.done (cs' := #[.slice a7 n7 c7, .int .i64 (d2.withF ⟨s, f.n, f.seen, f.seen, List.replicate f.n false⟩).cap, .int .i64 (d2.withF ⟨s, f.n, f.seen, f.seen, List.replicate f.n false⟩).ops, .bool (d2.withF ⟨s, f.n, f.seen, f.seen, List.replicate f.n false⟩).down, .bool (d2.withF ⟨s, f.n, f.seen, f.seen, List.replicate f.n false⟩).told, .int .i64 (d2.withF ⟨s, f.n, f.seen, f.seen, List.replicate f.n false⟩).after]) HR8.out rfl
        exact bodyPost_ret_by (results_row_tmp rfl _ _ (w.heap.size + 1) _ rfl (disk_load e1.1 rfl)) rfl ⟨_, rfl, e2, e3⟩
      · rw [AD.opR_not d _ ho]
        have h9 : d.ope = 9 := d.ope_or.resolve_left ho
        rw [h9] at HOP
        have HL2 := Lib.hid (AD.opd_L d)
        obtain ⟨d2, hd2⟩ : ∃ d2, d.opd = d2 := ⟨_, rfl⟩
        rw [hd2] at HOP HL2 ⊢
        have HLN := Lib.hid (show d2.L.length ≤ 1000000 from by rw [HL2.out]; exact hn1)
        clear ho hn1 hd2 hd h9
        go_enter Try.func34, Try.ntmps34
        go_wp2_with (first
          | (refine wpList_load_row rfl 29 _ rfl w.heap.size rfl _ _ (0, 0) _ HS3.out.d0.1 Try.underlying29 rfl HS3.out.d0.info ?_)
          | (refine wpList_load_row rfl 29 _ rfl w.heap.size rfl _ _ (0, 0) _ HS.out.d0.1 Try.underlying29 rfl HS.out.d0.info ?_)
          | (go_at_call 63; (with_reducible refine (HFD.out _ (HS.out.rd.kin (unmask _ _))).mono ?_); rintro e w3 ⟨rfl, hb⟩; have HS3 := Lib.hid (HS.out.next hb); clear hb)
          | (go_at_call 64; (with_reducible refine (HOP.out _).mono ?_); rintro e w4 ⟨rfl, hb⟩; have HS4 := Lib.hid (HS3.out.next hb); clear hb)
          | (refine wpl_store_newD rfl _ _ rfl rfl w4.heap.size rfl #[.slice a n cap, .int .i64 d2.cap, .int .i64 d2.ops, .bool d2.down, .bool d2.told, .int .i64 d2.after] rfl (by simp [Value.oneCell']) rfl rfl ?_; intro w5 HX5 hb5; have HS5 := Lib.hid (HS4.out.next hb5.out); clear hb5)
          | (refine wpList_load_row rfl 29 _ rfl w4.heap.size rfl _ _ (0, 0) _ HX5.out.1 Try.underlying29 rfl HX5.out.info ?_)
          | (refine wpList_store_row rfl 29 _ _ rfl (w.heap.size + 1) #[.slice a n cap, .int .i64 d2.cap, .int .i64 d2.ops, .bool d2.down, .bool d2.told, .int .i64 d2.after] rfl rfl _ dz HS5.out.d1.1 disk_info (by rfl) (by simp [Value.oneCell']) ?_))
        obtain ⟨e1, e2, e3⟩ := HS5.out.done (cs' := #[.slice a n cap, .int .i64 d2.cap, .int .i64 d2.ops, .bool d2.down, .bool d2.told, .int .i64 d2.after]) (HS5.out.rd.re HL2.out) rfl
        exact bodyPost_ret_by (results_row_tmp rfl _ _ (w.heap.size + 1) _ rfl (disk_load e1.1 rfl)) rfl ⟨_, rfl, e2, e3⟩
    · rw [if_pos (by simpa using hh)]
      have hi0 : i < 0 := by rw [← hi, AD.find_neg]; exact hh
      clear hi hh hd
      go_enter Try.func34, Try.ntmps34
      go_wp2_with (first
        | (refine wpList_load_row rfl 29 _ rfl w.heap.size rfl _ _ (0, 0) _ HS3.out.d0.1 Try.underlying29 rfl HS3.out.d0.info ?_)
        | (refine wpList_load_row rfl 29 _ rfl w.heap.size rfl _ _ (0, 0) _ HS.out.d0.1 Try.underlying29 rfl HS.out.d0.info ?_)
        | (go_at_call 63; (with_reducible refine (HFD.out _ (HS.out.rd.kin (unmask _ _))).mono ?_); rintro e w3 ⟨rfl, hb⟩; have HS3 := Lib.hid (HS.out.next hb); clear hb)
        | (refine wpList_store_row rfl 29 _ _ rfl (w.heap.size + 1) #[.slice a n cap, .int .i64 d.cap, .int .i64 d.ops, .bool false, .bool d.told, .int .i64 d.after] rfl rfl _ dz HS3.out.d1.1 disk_info (by rfl) (by simp [Value.oneCell']) ?_))
      obtain ⟨e1, e2, e3⟩ := HS3.out.done (cs' := #[.slice a n cap, .int .i64 d.cap, .int .i64 d.ops, .bool false, .bool d.told, .int .i64 d.after]) HS3.out.rd rfl
      exact bodyPost_ret_by (results_row_tmp rfl _ _ (w.heap.size + 1) _ rfl (disk_load e1.1 rfl)) rfl ⟨_, rfl, e2, e3⟩
end Go.Proofs.Ytpnialanmidekaa
