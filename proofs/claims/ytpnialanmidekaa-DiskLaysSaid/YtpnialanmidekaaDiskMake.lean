/-
  WHAT THE DOCUMENT'S ANSWERS OF LAYER 8 (disk) ANSWER: the reference's Make.
-/
import Derived.Test.YtpnialanmidekaaDiskSync
namespace Go.Proofs.Ytpnialanmidekaa
open Go.RowKit
set_option maxRecDepth 8000 in
set_option maxHeartbeats 4000000 in
theorem rmake_any (F : Nat → Bool) (vd : Value) (d : AD) (s : ByteArray) (k : Int) (w : World) (hF : Foot F w.heap.size) (h : RD (mask F w) vd d) (hn1 : d.L.length ≤ 1000000) (hu : usedN d.L ≤ 1000000000000) (hss : s.size ≤ 281474976710656) (hk63 : I63 k) :
    Calls Try.prog 31 #[vd, .string s, .int .i64 k] w fun e w' => ∃ v', e = .returned (.tuple #[v', .int .i64 (d.makeR s k).2]) ∧ RD (mask F w') v' (d.makeR s k).1 ∧ Below w.heap.size w w' := by
  obtain ⟨a, n, cap, rfl, hn, hc1, hc2⟩ := h.agg
  have hst := St.start hF rfl h
  obtain ⟨W2, hW2⟩ : ∃ W2, (w.alloc (.cells #[.slice a n cap, .int .i64 d.cap, .int .i64 d.ops, .bool d.down, .bool d.told, .int .i64 d.after] 29)).alloc (.cells #[.slice none 0 0, .int .i64 0, .int .i64 0, .bool false, .bool false, .int .i64 0] 29) = W2 := ⟨_, rfl⟩
  rw [hW2] at hst
  have HS := Lib.hid hst
  have HN := Lib.hid hn
  obtain ⟨q0, q1, q2, q3, q4, q5⟩ := hst.d0.six
  clear hst hn h hF
  unfold I63 at hk63
  unfold AD.makeR
  by_cases hd : d.down = true
  · rw [if_pos hd]
    simp only [hd] at q3 hW2 HS ⊢
    clear hd
    go_enter Try.func31, Try.ntmps31
    go_wp2_with (first
      | (refine wpList_load_row rfl 29 _ rfl w.heap.size rfl _ _ (0, 0) _ HS.out.d0.1 Try.underlying29 rfl HS.out.d0.info ?_)
      | (refine wpList_store_row rfl 29 _ _ rfl (w.heap.size + 1) #[.slice a n cap, .int .i64 d.cap, .int .i64 d.ops, .bool true, .bool d.told, .int .i64 d.after] rfl rfl _ dz HS.out.d1.1 disk_info (by rfl) (by simp [Value.oneCell']) ?_))
    obtain ⟨e1, e2, e3⟩ := HS.out.done (cs' := #[.slice a n cap, .int .i64 d.cap, .int .i64 d.ops, .bool true, .bool d.told, .int .i64 d.after]) HS.out.rd rfl
    exact bodyPost_ret_by (results_row_tmp rfl _ _ (w.heap.size + 1) _ rfl (disk_load e1.1 rfl)) rfl ⟨_, rfl, e2, e3⟩
  · rw [if_neg hd]
    rw [Bool.not_eq_true] at hd
    simp only [hd] at q3 hW2 HS ⊢
    obtain ⟨i, hi⟩ : ∃ i, findI d.L s = i := ⟨_, rfl⟩
    have HFD := Lib.hid fun W (hw : RD W (.agg #[.slice a n cap, .int .i64 d.cap, .int .i64 d.ops, .bool false, .bool d.told, .int .i64 d.after]) d) => rfind_any (.agg #[.slice a n cap, .int .i64 d.cap, .int .i64 d.ops, .bool false, .bool d.told, .int .i64 d.after]) d s W hw
    rw [hi] at HFD
    have HOP := Lib.hid fun W => rop_any a n cap d W
    unfold dv at HOP
    simp only [hd] at HOP
    cases hr : rightB s with
    | false =>
      rw [if_pos rfl]
      have HRT : Hid (nameN s.data.toList = false) := Lib.hid hr
      clear hr hd
      go_enter Try.func31, Try.ntmps31
      go_wp2_with (first
        | (refine wpList_load_row rfl 29 _ rfl w.heap.size rfl _ _ (0, 0) _ HS3.out.d0.1 Try.underlying29 rfl HS3.out.d0.info ?_)
        | (refine wpList_load_row rfl 29 _ rfl w.heap.size rfl _ _ (0, 0) _ HS.out.d0.1 Try.underlying29 rfl HS.out.d0.info ?_)
        | (go_at_call 62; (with_reducible refine (rright_any s _ hss).mono ?_); rintro e w' ⟨rfl, rfl⟩; rw [HRT.out])
        | (go_at_call 63; (with_reducible refine (HFD.out _ (HS.out.rd.kin (unmask _ _))).mono ?_); rintro e w3 ⟨rfl, hb⟩; have HS3 := Lib.hid (HS.out.next hb); clear hb)
        | (refine wpList_store_row rfl 29 _ _ rfl (w.heap.size + 1) #[.slice a n cap, .int .i64 d.cap, .int .i64 d.ops, .bool false, .bool d.told, .int .i64 d.after] rfl rfl _ dz HS.out.d1.1 disk_info (by rfl) (by simp [Value.oneCell']) ?_))
      obtain ⟨e1, e2, e3⟩ := HS.out.done (cs' := #[.slice a n cap, .int .i64 d.cap, .int .i64 d.ops, .bool false, .bool d.told, .int .i64 d.after]) HS.out.rd rfl
      exact bodyPost_ret_by (results_row_tmp rfl _ _ (w.heap.size + 1) _ rfl (disk_load e1.1 rfl)) rfl ⟨_, rfl, e2, e3⟩
    | true =>
      rw [if_neg (by simp)]
      have HRT : Hid (nameN s.data.toList = true) := Lib.hid hr
      clear hr
      by_cases hh : d.has s
      · rw [if_pos hh]
        have hi0 : ¬ i < 0 := by rw [← hi, AD.find_neg]; simpa using hh
        clear hi hh hd
        go_enter Try.func31, Try.ntmps31
        go_wp2_with (first
          | (refine wpList_load_row rfl 29 _ rfl w.heap.size rfl _ _ (0, 0) _ HS3.out.d0.1 Try.underlying29 rfl HS3.out.d0.info ?_)
          | (refine wpList_load_row rfl 29 _ rfl w.heap.size rfl _ _ (0, 0) _ HS.out.d0.1 Try.underlying29 rfl HS.out.d0.info ?_)
          | (go_at_call 62; (with_reducible refine (rright_any s _ hss).mono ?_); rintro e w' ⟨rfl, rfl⟩; rw [HRT.out])
          | (go_at_call 63; (with_reducible refine (HFD.out _ (HS.out.rd.kin (unmask _ _))).mono ?_); rintro e w3 ⟨rfl, hb⟩; have HS3 := Lib.hid (HS.out.next hb); clear hb)
          | (refine wpList_store_row rfl 29 _ _ rfl (w.heap.size + 1) #[.slice a n cap, .int .i64 d.cap, .int .i64 d.ops, .bool false, .bool d.told, .int .i64 d.after] rfl rfl _ dz HS3.out.d1.1 disk_info (by rfl) (by simp [Value.oneCell']) ?_))
        obtain ⟨e1, e2, e3⟩ := HS3.out.done (cs' := #[.slice a n cap, .int .i64 d.cap, .int .i64 d.ops, .bool false, .bool d.told, .int .i64 d.after]) HS3.out.rd rfl
        exact bodyPost_ret_by (results_row_tmp rfl _ _ (w.heap.size + 1) _ rfl (disk_load e1.1 rfl)) rfl ⟨_, rfl, e2, e3⟩
      · rw [if_neg hh]
        have hi0 : i < 0 := by rw [← hi, AD.find_neg]; exact hh
        clear hi hh
        by_cases hk1 : k < 1
        · rw [if_pos (.inl hk1)]
          clear hd
          go_enter Try.func31, Try.ntmps31
          go_wp2_with (first
            | (refine wpList_load_row rfl 29 _ rfl w.heap.size rfl _ _ (0, 0) _ HS3.out.d0.1 Try.underlying29 rfl HS3.out.d0.info ?_)
            | (refine wpList_load_row rfl 29 _ rfl w.heap.size rfl _ _ (0, 0) _ HS.out.d0.1 Try.underlying29 rfl HS.out.d0.info ?_)
            | (go_at_call 62; (with_reducible refine (rright_any s _ hss).mono ?_); rintro e w' ⟨rfl, rfl⟩; rw [HRT.out])
            | (go_at_call 63; (with_reducible refine (HFD.out _ (HS.out.rd.kin (unmask _ _))).mono ?_); rintro e w3 ⟨rfl, hb⟩; have HS3 := Lib.hid (HS.out.next hb); clear hb)
            | (refine wpList_store_row rfl 29 _ _ rfl (w.heap.size + 1) #[.slice a n cap, .int .i64 d.cap, .int .i64 d.ops, .bool false, .bool d.told, .int .i64 d.after] rfl rfl _ dz HS3.out.d1.1 disk_info (by rfl) (by simp [Value.oneCell']) ?_))
          obtain ⟨e1, e2, e3⟩ := HS3.out.done (cs' := #[.slice a n cap, .int .i64 d.cap, .int .i64 d.ops, .bool false, .bool d.told, .int .i64 d.after]) HS3.out.rd rfl
          exact bodyPost_ret_by (results_row_tmp rfl _ _ (w.heap.size + 1) _ rfl (disk_load e1.1 rfl)) rfl ⟨_, rfl, e2, e3⟩
        by_cases hk2 : 64 < k
        · rw [if_pos (.inr hk2)]
          clear hd
          go_enter Try.func31, Try.ntmps31
          go_wp2_with (first
            | (refine wpList_load_row rfl 29 _ rfl w.heap.size rfl _ _ (0, 0) _ HS3.out.d0.1 Try.underlying29 rfl HS3.out.d0.info ?_)
            | (refine wpList_load_row rfl 29 _ rfl w.heap.size rfl _ _ (0, 0) _ HS.out.d0.1 Try.underlying29 rfl HS.out.d0.info ?_)
            | (go_at_call 62; (with_reducible refine (rright_any s _ hss).mono ?_); rintro e w' ⟨rfl, rfl⟩; rw [HRT.out])
            | (go_at_call 63; (with_reducible refine (HFD.out _ (HS.out.rd.kin (unmask _ _))).mono ?_); rintro e w3 ⟨rfl, hb⟩; have HS3 := Lib.hid (HS.out.next hb); clear hb)
            | (refine wpList_store_row rfl 29 _ _ rfl (w.heap.size + 1) #[.slice a n cap, .int .i64 d.cap, .int .i64 d.ops, .bool false, .bool d.told, .int .i64 d.after] rfl rfl _ dz HS3.out.d1.1 disk_info (by rfl) (by simp [Value.oneCell']) ?_))
          obtain ⟨e1, e2, e3⟩ := HS3.out.done (cs' := #[.slice a n cap, .int .i64 d.cap, .int .i64 d.ops, .bool false, .bool d.told, .int .i64 d.after]) HS3.out.rd rfl
          exact bodyPost_ret_by (results_row_tmp rfl _ _ (w.heap.size + 1) _ rfl (disk_load e1.1 rfl)) rfl ⟨_, rfl, e2, e3⟩
        rw [if_neg (by omega)]
        obtain ⟨kq, rfl⟩ : ∃ kq : Nat, k = (kq : Int) := ⟨k.toNat, by omega⟩
        obtain ⟨u, hu1⟩ : ∃ u, usedN d.L = u := ⟨_, rfl⟩
        have HUS := Lib.hid fun W (hw : RD W (.agg #[.slice a n cap, .int .i64 d.cap, .int .i64 d.ops, .bool false, .bool d.told, .int .i64 d.after]) d) => rused_any (.agg #[.slice a n cap, .int .i64 d.cap, .int .i64 d.ops, .bool false, .bool d.told, .int .i64 d.after]) d W hw hu
        rw [hu1] at HUS hu
        have hwu : IntKind.i64.wrap ((u : Int) + (kq : Int)) = (u : Int) + (kq : Int) := IntWalk.i64_in _ (by omega)
        have hkk : (kq : Int) ≤ 64 := by omega
        rw [Int.toNat_natCast, hu1]
        by_cases hc : d.cap < (u : Int) + (kq : Int)
        · rw [if_pos (.inl hc)]
          have HDC := Lib.hid (show decide (d.cap < (u : Int) + (kq : Int)) = true from decide_eq_true hc)
          clear hd hu1
          go_enter Try.func31, Try.ntmps31
          go_wp2_with (first
            | (refine wpList_load_row rfl 29 _ rfl w.heap.size rfl _ _ (0, 0) _ HS3.out.d0.1 Try.underlying29 rfl HS3.out.d0.info ?_)
            | (refine wpList_load_row rfl 29 _ rfl w.heap.size rfl _ _ (0, 0) _ HS.out.d0.1 Try.underlying29 rfl HS.out.d0.info ?_)
            | (go_at_call 62; (with_reducible refine (rright_any s _ hss).mono ?_); rintro e w' ⟨rfl, rfl⟩; rw [HRT.out])
            | (go_at_call 63; (with_reducible refine (HFD.out _ (HS.out.rd.kin (unmask _ _))).mono ?_); rintro e w3 ⟨rfl, hb⟩; have HS3 := Lib.hid (HS.out.next hb); clear hb))
          refine wp_region_held_drew (S := (fun W' => DB W' w.heap.size #[.slice a n cap, .int .i64 d.cap, .int .i64 d.ops, .bool false, .bool d.told, .int .i64 d.after])) (by kernel_rfl) (HS3.out.d0.next (Below.refl _ _).drew) (fun hS => ?_)
          refine wpAnyH_take (i := 0) (oi := ({ dst := some 29, op := Op.load 29 (Operand.tmp 3), type := 29, pos := "ref.go:130", after := #[], guard := none } : Oper)) (v := ?_) rfl (by kernel_rfl) (by kernel_rfl) (by kernel_rfl) (fun _ _ _ h => h) (Or.inl ⟨by rfl, ?_⟩) hS ?_
          rotate_left
          · (intro w hSw; (try dsimp only at hSw); refine exec_load_db (.tmp 3) ?_ ?_ hSw <;> rfl)
          (try simp only [Act.put, List.setIfInBounds_toArray, List.set_cons_zero, List.set_cons_succ])
          refine wpAnyH_take (i := 2) (oi := ({ dst := some 31, op := Op.move (Operand.tmp 2), type := 3, pos := "ref.go:130", after := #[], guard := none } : Oper)) (v := ?_) rfl (by kernel_rfl) (by kernel_rfl) (by kernel_rfl) (fun _ _ _ h => h) (Or.inl ⟨by rfl, ?_⟩) hS ?_
          rotate_left
          · (intro w hSw; (try dsimp only at hSw); go_simp; try with_reducible rfl)
          (try simp only [Act.put, List.setIfInBounds_toArray, List.set_cons_zero, List.set_cons_succ])
          refine wpAnyH_take (i := 4) (oi := ({ dst := some 33, op := Op.fieldAddr 29 (Operand.tmp 3) 1, type := 0, pos := "ref.go:130", after := #[], guard := none } : Oper)) (v := ?_) rfl (by kernel_rfl) (by kernel_rfl) (by kernel_rfl) (fun _ _ _ h => h) (Or.inl ⟨by rfl, ?_⟩) hS ?_
          rotate_left
          · (intro w hSw; (try dsimp only at hSw); obtain ⟨z0, z1, z2, z3, z4, z5⟩ := hSw.six; go_simp; try with_reducible rfl)
          (try simp only [Act.put, List.setIfInBounds_toArray, List.set_cons_zero, List.set_cons_succ])
          refine wpAnyH_take (i := 5) (oi := ({ dst := some 34, op := Op.load 3 (Operand.tmp 33), type := 3, pos := "ref.go:130", after := #[{ on := 4, ground := Ground.data }], guard := none } : Oper)) (v := ?_) rfl (by kernel_rfl) (by kernel_rfl) (by kernel_rfl) (fun _ _ _ h => h) (Or.inl ⟨by rfl, ?_⟩) hS ?_
          rotate_left
          · (intro w hSw; (try dsimp only at hSw); obtain ⟨z0, z1, z2, z3, z4, z5⟩ := hSw.six; go_simp; try with_reducible rfl)
          (try simp only [Act.put, List.setIfInBounds_toArray, List.set_cons_zero, List.set_cons_succ])
          refine rg_one 1 ({ dst := some 30, op := Op.call { callee := Callee.value (Operand.func 41), args := #[Operand.tmp 29], argTypes := #[29] }, type := 3, pos := "ref.go:130", after := #[{ on := 0, ground := Ground.data }], guard := none } : Oper) (by kernel_rfl) rfl (fun K hK => ?_)
          go_simp
          (go_at_call 41; (with_reducible refine (HUS.out _ (HS3.out.rd.kin ((unmask _ _).trans (Kin.below (Below.refl _ _).drew)))).mono ?_); rintro e w3b ⟨rfl, hb⟩; have HS3b := Lib.hid ((HS3.out.next (Below.refl _ _).drew).next hb))
          refine hK.out _ _ ?_ (fun hS1 => ?_)
          · (first | exact hS | exact hS.next hb)
          clear hK K hS; have hS := hS1; clear hS1
          (try simp only [Act.put, List.setIfInBounds_toArray, List.set_cons_zero, List.set_cons_succ])
          refine wpAnyH_take (i := 3) (oi := ({ dst := some 32, op := Op.binOp BinOp.add 3 (Operand.tmp 30) (Operand.tmp 31) 3, type := 3, pos := "ref.go:130", after := #[{ on := 1, ground := Ground.data }, { on := 2, ground := Ground.data }], guard := none } : Oper)) (v := ?_) rfl (by kernel_rfl) (by kernel_rfl) (by kernel_rfl) (fun _ _ _ h => h) (Or.inl ⟨by rfl, ?_⟩) hS ?_
          rotate_left
          · (intro w hSw; (try dsimp only at hSw); go_simp; try with_reducible rfl)
          (try simp only [Act.put, List.setIfInBounds_toArray, List.set_cons_zero, List.set_cons_succ])
          refine wpAnyH_take (i := 6) (oi := ({ dst := some 35, op := Op.binOp BinOp.gtr 3 (Operand.tmp 32) (Operand.tmp 34) 3, type := 4, pos := "ref.go:130", after := #[{ on := 3, ground := Ground.data }, { on := 5, ground := Ground.data }], guard := none } : Oper)) (v := ?_) rfl (by kernel_rfl) (by kernel_rfl) (by kernel_rfl) (fun _ _ _ h => h) (Or.inl ⟨by rfl, ?_⟩) hS ?_
          rotate_left
          · (intro w hSw; (try dsimp only at hSw); go_simp; (try rw [HDC.out]); try with_reducible rfl)
          (try simp only [Act.put, List.setIfInBounds_toArray, List.set_cons_zero, List.set_cons_succ])
          refine wpAnyH_take (i := 7) (oi := ({ dst := some 36, op := Op.move (Operand.tmp 35), type := 4, pos := "ref.go:130", after := #[{ on := 6, ground := Ground.data }, { on := 1, ground := Ground.chain }], guard := none } : Oper)) (v := ?_) rfl (by kernel_rfl) (by kernel_rfl) (by kernel_rfl) (fun _ _ _ h => h) (Or.inl ⟨by rfl, ?_⟩) hS ?_
          rotate_left
          · (intro w hSw; (try dsimp only at hSw); go_simp; try with_reducible rfl)
          (try simp only [Act.put, List.setIfInBounds_toArray, List.set_cons_zero, List.set_cons_succ])
          refine wpAnyH_take (i := 8) (oi := ({ dst := some 37, op := Op.fieldAddr 29 (Operand.tmp 3) 0, type := 0, pos := "ref.go:130", after := #[{ on := 7, ground := Ground.guard }], guard := some (7, false) } : Oper)) (v := undef) rfl (by kernel_rfl) (by kernel_rfl) (by kernel_rfl) (fun _ _ _ h => h) (Or.inr ⟨by rfl, rfl⟩) hS ?_
          (try simp only [Act.put, List.setIfInBounds_toArray, List.set_cons_zero, List.set_cons_succ])
          refine wpAnyH_take (i := 9) (oi := ({ dst := some 38, op := Op.load 27 (Operand.tmp 37), type := 27, pos := "ref.go:130", after := #[{ on := 8, ground := Ground.data }, { on := 7, ground := Ground.guard }], guard := some (7, false) } : Oper)) (v := undef) rfl (by kernel_rfl) (by kernel_rfl) (by kernel_rfl) (fun _ _ _ h => h) (Or.inr ⟨by rfl, rfl⟩) hS ?_
          (try simp only [Act.put, List.setIfInBounds_toArray, List.set_cons_zero, List.set_cons_succ])
          refine wpAnyH_take (i := 10) (oi := ({ dst := some 39, op := Op.call { callee := Callee.builtin Builtin.len, args := #[Operand.tmp 38], argTypes := #[27] }, type := 3, pos := "ref.go:130", after := #[{ on := 9, ground := Ground.data }, { on := 7, ground := Ground.guard }], guard := some (7, false) } : Oper)) (v := undef) rfl (by kernel_rfl) (by kernel_rfl) (by kernel_rfl) (fun _ _ _ h => h) (Or.inr ⟨by rfl, rfl⟩) hS ?_
          (try simp only [Act.put, List.setIfInBounds_toArray, List.set_cons_zero, List.set_cons_succ])
          refine wpAnyH_take (i := 11) (oi := ({ dst := some 40, op := Op.binOp BinOp.geq 3 (Operand.tmp 39) (Operand.const (Value.int IntKind.i64 64)) 3, type := 4, pos := "ref.go:130", after := #[{ on := 10, ground := Ground.data }, { on := 7, ground := Ground.guard }], guard := some (7, false) } : Oper)) (v := undef) rfl (by kernel_rfl) (by kernel_rfl) (by kernel_rfl) (fun _ _ _ h => h) (Or.inr ⟨by rfl, rfl⟩) hS ?_
          (try simp only [Act.put, List.setIfInBounds_toArray, List.set_cons_zero, List.set_cons_succ])
          refine wpAnyH_take (i := 12) (oi := ({ dst := some 41, op := Op.pick (Operand.tmp 36) (Operand.const (Value.bool true)) (Operand.tmp 40), type := 4, pos := "ref.go:130", after := #[{ on := 7, ground := Ground.data }, { on := 11, ground := Ground.data }], guard := none } : Oper)) (v := ?_) rfl (by kernel_rfl) (by kernel_rfl) (by kernel_rfl) (fun _ _ _ h => h) (Or.inl ⟨by rfl, ?_⟩) hS ?_
          rotate_left
          · (intro w hSw; (try dsimp only at hSw); go_simp; try with_reducible rfl)
          (try simp only [Act.put, List.setIfInBounds_toArray, List.set_cons_zero, List.set_cons_succ])
          refine wpAnyH_done (by kernel_rfl) ?_ _
          clear hS
          go_wp2_with (first
            | (refine wpList_load_row rfl 29 _ rfl w.heap.size rfl _ _ (0, 0) _ HS3b.out.d0.1 Try.underlying29 rfl HS3b.out.d0.info ?_)
            | (refine wpList_store_row rfl 29 _ _ rfl (w.heap.size + 1) #[.slice a n cap, .int .i64 d.cap, .int .i64 d.ops, .bool false, .bool d.told, .int .i64 d.after] rfl rfl _ dz HS3b.out.d1.1 disk_info (by rfl) (by simp [Value.oneCell']) ?_))
          obtain ⟨e1, e2, e3⟩ := HS3b.out.done (cs' := #[.slice a n cap, .int .i64 d.cap, .int .i64 d.ops, .bool false, .bool d.told, .int .i64 d.after]) HS3b.out.rd rfl
          exact bodyPost_ret_by (results_row_tmp rfl _ _ (w.heap.size + 1) _ rfl (disk_load e1.1 rfl)) rfl ⟨_, rfl, e2, e3⟩
        · have HDC := Lib.hid (show decide (d.cap < (u : Int) + (kq : Int)) = false from decide_eq_false hc)
          by_cases hn64 : 64 ≤ d.L.length
          · rw [if_pos (.inr hn64)]
            have hn64' : 64 ≤ (n : Int) := by have := HN.out; omega
            clear hd hu1 hc
            go_enter Try.func31, Try.ntmps31
            go_wp2_with (first
              | (refine wpList_load_row rfl 29 _ rfl w.heap.size rfl _ _ (0, 0) _ HS3.out.d0.1 Try.underlying29 rfl HS3.out.d0.info ?_)
              | (refine wpList_load_row rfl 29 _ rfl w.heap.size rfl _ _ (0, 0) _ HS.out.d0.1 Try.underlying29 rfl HS.out.d0.info ?_)
              | (go_at_call 62; (with_reducible refine (rright_any s _ hss).mono ?_); rintro e w' ⟨rfl, rfl⟩; rw [HRT.out])
              | (go_at_call 63; (with_reducible refine (HFD.out _ (HS.out.rd.kin (unmask _ _))).mono ?_); rintro e w3 ⟨rfl, hb⟩; have HS3 := Lib.hid (HS.out.next hb); clear hb))
            refine wp_region_held_drew (S := (fun W' => DB W' w.heap.size #[.slice a n cap, .int .i64 d.cap, .int .i64 d.ops, .bool false, .bool d.told, .int .i64 d.after])) (by kernel_rfl) (HS3.out.d0.next (Below.refl _ _).drew) (fun hS => ?_)
            refine wpAnyH_take (i := 0) (oi := ({ dst := some 29, op := Op.load 29 (Operand.tmp 3), type := 29, pos := "ref.go:130", after := #[], guard := none } : Oper)) (v := ?_) rfl (by kernel_rfl) (by kernel_rfl) (by kernel_rfl) (fun _ _ _ h => h) (Or.inl ⟨by rfl, ?_⟩) hS ?_
            rotate_left
            · (intro w hSw; (try dsimp only at hSw); refine exec_load_db (.tmp 3) ?_ ?_ hSw <;> rfl)
            (try simp only [Act.put, List.setIfInBounds_toArray, List.set_cons_zero, List.set_cons_succ])
            refine wpAnyH_take (i := 2) (oi := ({ dst := some 31, op := Op.move (Operand.tmp 2), type := 3, pos := "ref.go:130", after := #[], guard := none } : Oper)) (v := ?_) rfl (by kernel_rfl) (by kernel_rfl) (by kernel_rfl) (fun _ _ _ h => h) (Or.inl ⟨by rfl, ?_⟩) hS ?_
            rotate_left
            · (intro w hSw; (try dsimp only at hSw); go_simp; try with_reducible rfl)
            (try simp only [Act.put, List.setIfInBounds_toArray, List.set_cons_zero, List.set_cons_succ])
            refine wpAnyH_take (i := 4) (oi := ({ dst := some 33, op := Op.fieldAddr 29 (Operand.tmp 3) 1, type := 0, pos := "ref.go:130", after := #[], guard := none } : Oper)) (v := ?_) rfl (by kernel_rfl) (by kernel_rfl) (by kernel_rfl) (fun _ _ _ h => h) (Or.inl ⟨by rfl, ?_⟩) hS ?_
            rotate_left
            · (intro w hSw; (try dsimp only at hSw); obtain ⟨z0, z1, z2, z3, z4, z5⟩ := hSw.six; go_simp; try with_reducible rfl)
            (try simp only [Act.put, List.setIfInBounds_toArray, List.set_cons_zero, List.set_cons_succ])
            refine wpAnyH_take (i := 5) (oi := ({ dst := some 34, op := Op.load 3 (Operand.tmp 33), type := 3, pos := "ref.go:130", after := #[{ on := 4, ground := Ground.data }], guard := none } : Oper)) (v := ?_) rfl (by kernel_rfl) (by kernel_rfl) (by kernel_rfl) (fun _ _ _ h => h) (Or.inl ⟨by rfl, ?_⟩) hS ?_
            rotate_left
            · (intro w hSw; (try dsimp only at hSw); obtain ⟨z0, z1, z2, z3, z4, z5⟩ := hSw.six; go_simp; try with_reducible rfl)
            (try simp only [Act.put, List.setIfInBounds_toArray, List.set_cons_zero, List.set_cons_succ])
            refine rg_one 1 ({ dst := some 30, op := Op.call { callee := Callee.value (Operand.func 41), args := #[Operand.tmp 29], argTypes := #[29] }, type := 3, pos := "ref.go:130", after := #[{ on := 0, ground := Ground.data }], guard := none } : Oper) (by kernel_rfl) rfl (fun K hK => ?_)
            go_simp
            (go_at_call 41; (with_reducible refine (HUS.out _ (HS3.out.rd.kin ((unmask _ _).trans (Kin.below (Below.refl _ _).drew)))).mono ?_); rintro e w3b ⟨rfl, hb⟩; have HS3b := Lib.hid ((HS3.out.next (Below.refl _ _).drew).next hb))
            refine hK.out _ _ ?_ (fun hS1 => ?_)
            · (first | exact hS | exact hS.next hb)
            clear hK K hS; have hS := hS1; clear hS1
            (try simp only [Act.put, List.setIfInBounds_toArray, List.set_cons_zero, List.set_cons_succ])
            refine wpAnyH_take (i := 3) (oi := ({ dst := some 32, op := Op.binOp BinOp.add 3 (Operand.tmp 30) (Operand.tmp 31) 3, type := 3, pos := "ref.go:130", after := #[{ on := 1, ground := Ground.data }, { on := 2, ground := Ground.data }], guard := none } : Oper)) (v := ?_) rfl (by kernel_rfl) (by kernel_rfl) (by kernel_rfl) (fun _ _ _ h => h) (Or.inl ⟨by rfl, ?_⟩) hS ?_
            rotate_left
            · (intro w hSw; (try dsimp only at hSw); go_simp; try with_reducible rfl)
            (try simp only [Act.put, List.setIfInBounds_toArray, List.set_cons_zero, List.set_cons_succ])
            refine wpAnyH_take (i := 6) (oi := ({ dst := some 35, op := Op.binOp BinOp.gtr 3 (Operand.tmp 32) (Operand.tmp 34) 3, type := 4, pos := "ref.go:130", after := #[{ on := 3, ground := Ground.data }, { on := 5, ground := Ground.data }], guard := none } : Oper)) (v := ?_) rfl (by kernel_rfl) (by kernel_rfl) (by kernel_rfl) (fun _ _ _ h => h) (Or.inl ⟨by rfl, ?_⟩) hS ?_
            rotate_left
            · (intro w hSw; (try dsimp only at hSw); go_simp; (try rw [HDC.out]); try with_reducible rfl)
            (try simp only [Act.put, List.setIfInBounds_toArray, List.set_cons_zero, List.set_cons_succ])
            refine wpAnyH_take (i := 7) (oi := ({ dst := some 36, op := Op.move (Operand.tmp 35), type := 4, pos := "ref.go:130", after := #[{ on := 6, ground := Ground.data }, { on := 1, ground := Ground.chain }], guard := none } : Oper)) (v := ?_) rfl (by kernel_rfl) (by kernel_rfl) (by kernel_rfl) (fun _ _ _ h => h) (Or.inl ⟨by rfl, ?_⟩) hS ?_
            rotate_left
            · (intro w hSw; (try dsimp only at hSw); go_simp; try with_reducible rfl)
            (try simp only [Act.put, List.setIfInBounds_toArray, List.set_cons_zero, List.set_cons_succ])
            refine wpAnyH_take (i := 8) (oi := ({ dst := some 37, op := Op.fieldAddr 29 (Operand.tmp 3) 0, type := 0, pos := "ref.go:130", after := #[{ on := 7, ground := Ground.guard }], guard := some (7, false) } : Oper)) (v := ?_) rfl (by kernel_rfl) (by kernel_rfl) (by kernel_rfl) (fun _ _ _ h => h) (Or.inl ⟨by rfl, ?_⟩) hS ?_
            rotate_left
            · (intro w hSw; (try dsimp only at hSw); obtain ⟨z0, z1, z2, z3, z4, z5⟩ := hSw.six; go_simp; try with_reducible rfl)
            (try simp only [Act.put, List.setIfInBounds_toArray, List.set_cons_zero, List.set_cons_succ])
            refine wpAnyH_take (i := 9) (oi := ({ dst := some 38, op := Op.load 27 (Operand.tmp 37), type := 27, pos := "ref.go:130", after := #[{ on := 8, ground := Ground.data }, { on := 7, ground := Ground.guard }], guard := some (7, false) } : Oper)) (v := ?_) rfl (by kernel_rfl) (by kernel_rfl) (by kernel_rfl) (fun _ _ _ h => h) (Or.inl ⟨by rfl, ?_⟩) hS ?_
            rotate_left
            · (intro w hSw; (try dsimp only at hSw); obtain ⟨z0, z1, z2, z3, z4, z5⟩ := hSw.six; go_simp; try with_reducible rfl)
            (try simp only [Act.put, List.setIfInBounds_toArray, List.set_cons_zero, List.set_cons_succ])
            refine wpAnyH_take (i := 10) (oi := ({ dst := some 39, op := Op.call { callee := Callee.builtin Builtin.len, args := #[Operand.tmp 38], argTypes := #[27] }, type := 3, pos := "ref.go:130", after := #[{ on := 9, ground := Ground.data }, { on := 7, ground := Ground.guard }], guard := some (7, false) } : Oper)) (v := ?_) rfl (by kernel_rfl) (by kernel_rfl) (by kernel_rfl) (fun _ _ _ h => h) (Or.inl ⟨by rfl, ?_⟩) hS ?_
            rotate_left
            · (intro w hSw; (try dsimp only at hSw); obtain ⟨z0, z1, z2, z3, z4, z5⟩ := hSw.six; go_simp; try with_reducible rfl)
            (try simp only [Act.put, List.setIfInBounds_toArray, List.set_cons_zero, List.set_cons_succ])
            refine wpAnyH_take (i := 11) (oi := ({ dst := some 40, op := Op.binOp BinOp.geq 3 (Operand.tmp 39) (Operand.const (Value.int IntKind.i64 64)) 3, type := 4, pos := "ref.go:130", after := #[{ on := 10, ground := Ground.data }, { on := 7, ground := Ground.guard }], guard := some (7, false) } : Oper)) (v := ?_) rfl (by kernel_rfl) (by kernel_rfl) (by kernel_rfl) (fun _ _ _ h => h) (Or.inl ⟨by rfl, ?_⟩) hS ?_
            rotate_left
            · (intro w hSw; (try dsimp only at hSw); obtain ⟨z0, z1, z2, z3, z4, z5⟩ := hSw.six; go_simp; try with_reducible rfl)
            (try simp only [Act.put, List.setIfInBounds_toArray, List.set_cons_zero, List.set_cons_succ])
            refine wpAnyH_take (i := 12) (oi := ({ dst := some 41, op := Op.pick (Operand.tmp 36) (Operand.const (Value.bool true)) (Operand.tmp 40), type := 4, pos := "ref.go:130", after := #[{ on := 7, ground := Ground.data }, { on := 11, ground := Ground.data }], guard := none } : Oper)) (v := ?_) rfl (by kernel_rfl) (by kernel_rfl) (by kernel_rfl) (fun _ _ _ h => h) (Or.inl ⟨by rfl, ?_⟩) hS ?_
            rotate_left
            · (intro w hSw; (try dsimp only at hSw); go_simp; try with_reducible rfl)
            (try simp only [Act.put, List.setIfInBounds_toArray, List.set_cons_zero, List.set_cons_succ])
            refine wpAnyH_done (by kernel_rfl) ?_ _
            clear hS
            go_wp2_with (first
              | (refine wpList_load_row rfl 29 _ rfl w.heap.size rfl _ _ (0, 0) _ HS3b.out.d0.1 Try.underlying29 rfl HS3b.out.d0.info ?_)
              | (refine wpList_store_row rfl 29 _ _ rfl (w.heap.size + 1) #[.slice a n cap, .int .i64 d.cap, .int .i64 d.ops, .bool false, .bool d.told, .int .i64 d.after] rfl rfl _ dz HS3b.out.d1.1 disk_info (by rfl) (by simp [Value.oneCell']) ?_))
            obtain ⟨e1, e2, e3⟩ := HS3b.out.done (cs' := #[.slice a n cap, .int .i64 d.cap, .int .i64 d.ops, .bool false, .bool d.told, .int .i64 d.after]) HS3b.out.rd rfl
            exact bodyPost_ret_by (results_row_tmp rfl _ _ (w.heap.size + 1) _ rfl (disk_load e1.1 rfl)) rfl ⟨_, rfl, e2, e3⟩
          · rw [if_neg (by omega)]
            have hn64' : ¬ 64 ≤ (n : Int) := by have := HN.out; omega
            clear hu1 hc hn64
            by_cases ho : d.ope = 0
            · rw [AD.opR_done d _ ho]
              rw [ho] at HOP
              have HL2 := Lib.hid (AD.opd_L d)
              obtain ⟨d2, hd2⟩ : ∃ d2, d.opd = d2 := ⟨_, rfl⟩
              rw [hd2] at HOP HL2 ⊢
              have HLN := Lib.hid (show d2.L.length ≤ 1000000 from by rw [HL2.out]; exact hn1)
              have hmk := make_secs_run kq (by omega)
              have hmk2 := make_bools_run kq (by omega)
              clear ho hn1 hd2 hd
              go_enter Try.func31, Try.ntmps31
              go_wp2_with (first
                | (refine wpList_load_row rfl 29 _ rfl w.heap.size rfl _ _ (0, 0) _ HS3.out.d0.1 Try.underlying29 rfl HS3.out.d0.info ?_)
                | (refine wpList_load_row rfl 29 _ rfl w.heap.size rfl _ _ (0, 0) _ HS.out.d0.1 Try.underlying29 rfl HS.out.d0.info ?_)
                | (go_at_call 62; (with_reducible refine (rright_any s _ hss).mono ?_); rintro e w' ⟨rfl, rfl⟩; rw [HRT.out])
                | (go_at_call 63; (with_reducible refine (HFD.out _ (HS.out.rd.kin (unmask _ _))).mono ?_); rintro e w3 ⟨rfl, hb⟩; have HS3 := Lib.hid (HS.out.next hb); clear hb))
              refine wp_region_held_drew (S := (fun W' => DB W' w.heap.size #[.slice a n cap, .int .i64 d.cap, .int .i64 d.ops, .bool false, .bool d.told, .int .i64 d.after])) (by kernel_rfl) (HS3.out.d0.next (Below.refl _ _).drew) (fun hS => ?_)
              refine wpAnyH_take (i := 0) (oi := ({ dst := some 29, op := Op.load 29 (Operand.tmp 3), type := 29, pos := "ref.go:130", after := #[], guard := none } : Oper)) (v := ?_) rfl (by kernel_rfl) (by kernel_rfl) (by kernel_rfl) (fun _ _ _ h => h) (Or.inl ⟨by rfl, ?_⟩) hS ?_
              rotate_left
              · (intro w hSw; (try dsimp only at hSw); refine exec_load_db (.tmp 3) ?_ ?_ hSw <;> rfl)
              (try simp only [Act.put, List.setIfInBounds_toArray, List.set_cons_zero, List.set_cons_succ])
              refine wpAnyH_take (i := 2) (oi := ({ dst := some 31, op := Op.move (Operand.tmp 2), type := 3, pos := "ref.go:130", after := #[], guard := none } : Oper)) (v := ?_) rfl (by kernel_rfl) (by kernel_rfl) (by kernel_rfl) (fun _ _ _ h => h) (Or.inl ⟨by rfl, ?_⟩) hS ?_
              rotate_left
              · (intro w hSw; (try dsimp only at hSw); go_simp; try with_reducible rfl)
              (try simp only [Act.put, List.setIfInBounds_toArray, List.set_cons_zero, List.set_cons_succ])
              refine wpAnyH_take (i := 4) (oi := ({ dst := some 33, op := Op.fieldAddr 29 (Operand.tmp 3) 1, type := 0, pos := "ref.go:130", after := #[], guard := none } : Oper)) (v := ?_) rfl (by kernel_rfl) (by kernel_rfl) (by kernel_rfl) (fun _ _ _ h => h) (Or.inl ⟨by rfl, ?_⟩) hS ?_
              rotate_left
              · (intro w hSw; (try dsimp only at hSw); obtain ⟨z0, z1, z2, z3, z4, z5⟩ := hSw.six; go_simp; try with_reducible rfl)
              (try simp only [Act.put, List.setIfInBounds_toArray, List.set_cons_zero, List.set_cons_succ])
              refine wpAnyH_take (i := 5) (oi := ({ dst := some 34, op := Op.load 3 (Operand.tmp 33), type := 3, pos := "ref.go:130", after := #[{ on := 4, ground := Ground.data }], guard := none } : Oper)) (v := ?_) rfl (by kernel_rfl) (by kernel_rfl) (by kernel_rfl) (fun _ _ _ h => h) (Or.inl ⟨by rfl, ?_⟩) hS ?_
              rotate_left
              · (intro w hSw; (try dsimp only at hSw); obtain ⟨z0, z1, z2, z3, z4, z5⟩ := hSw.six; go_simp; try with_reducible rfl)
              (try simp only [Act.put, List.setIfInBounds_toArray, List.set_cons_zero, List.set_cons_succ])
              refine rg_one 1 ({ dst := some 30, op := Op.call { callee := Callee.value (Operand.func 41), args := #[Operand.tmp 29], argTypes := #[29] }, type := 3, pos := "ref.go:130", after := #[{ on := 0, ground := Ground.data }], guard := none } : Oper) (by kernel_rfl) rfl (fun K hK => ?_)
              go_simp
              (go_at_call 41; (with_reducible refine (HUS.out _ (HS3.out.rd.kin ((unmask _ _).trans (Kin.below (Below.refl _ _).drew)))).mono ?_); rintro e w3b ⟨rfl, hb⟩; have HS3b := Lib.hid ((HS3.out.next (Below.refl _ _).drew).next hb))
              refine hK.out _ _ ?_ (fun hS1 => ?_)
              · (first | exact hS | exact hS.next hb)
              clear hK K hS; have hS := hS1; clear hS1
              (try simp only [Act.put, List.setIfInBounds_toArray, List.set_cons_zero, List.set_cons_succ])
              refine wpAnyH_take (i := 3) (oi := ({ dst := some 32, op := Op.binOp BinOp.add 3 (Operand.tmp 30) (Operand.tmp 31) 3, type := 3, pos := "ref.go:130", after := #[{ on := 1, ground := Ground.data }, { on := 2, ground := Ground.data }], guard := none } : Oper)) (v := ?_) rfl (by kernel_rfl) (by kernel_rfl) (by kernel_rfl) (fun _ _ _ h => h) (Or.inl ⟨by rfl, ?_⟩) hS ?_
              rotate_left
              · (intro w hSw; (try dsimp only at hSw); go_simp; try with_reducible rfl)
              (try simp only [Act.put, List.setIfInBounds_toArray, List.set_cons_zero, List.set_cons_succ])
              refine wpAnyH_take (i := 6) (oi := ({ dst := some 35, op := Op.binOp BinOp.gtr 3 (Operand.tmp 32) (Operand.tmp 34) 3, type := 4, pos := "ref.go:130", after := #[{ on := 3, ground := Ground.data }, { on := 5, ground := Ground.data }], guard := none } : Oper)) (v := ?_) rfl (by kernel_rfl) (by kernel_rfl) (by kernel_rfl) (fun _ _ _ h => h) (Or.inl ⟨by rfl, ?_⟩) hS ?_
              rotate_left
              · (intro w hSw; (try dsimp only at hSw); go_simp; (try rw [HDC.out]); try with_reducible rfl)
              (try simp only [Act.put, List.setIfInBounds_toArray, List.set_cons_zero, List.set_cons_succ])
              refine wpAnyH_take (i := 7) (oi := ({ dst := some 36, op := Op.move (Operand.tmp 35), type := 4, pos := "ref.go:130", after := #[{ on := 6, ground := Ground.data }, { on := 1, ground := Ground.chain }], guard := none } : Oper)) (v := ?_) rfl (by kernel_rfl) (by kernel_rfl) (by kernel_rfl) (fun _ _ _ h => h) (Or.inl ⟨by rfl, ?_⟩) hS ?_
              rotate_left
              · (intro w hSw; (try dsimp only at hSw); go_simp; try with_reducible rfl)
              (try simp only [Act.put, List.setIfInBounds_toArray, List.set_cons_zero, List.set_cons_succ])
              refine wpAnyH_take (i := 8) (oi := ({ dst := some 37, op := Op.fieldAddr 29 (Operand.tmp 3) 0, type := 0, pos := "ref.go:130", after := #[{ on := 7, ground := Ground.guard }], guard := some (7, false) } : Oper)) (v := ?_) rfl (by kernel_rfl) (by kernel_rfl) (by kernel_rfl) (fun _ _ _ h => h) (Or.inl ⟨by rfl, ?_⟩) hS ?_
              rotate_left
              · (intro w hSw; (try dsimp only at hSw); obtain ⟨z0, z1, z2, z3, z4, z5⟩ := hSw.six; go_simp; try with_reducible rfl)
              (try simp only [Act.put, List.setIfInBounds_toArray, List.set_cons_zero, List.set_cons_succ])
              refine wpAnyH_take (i := 9) (oi := ({ dst := some 38, op := Op.load 27 (Operand.tmp 37), type := 27, pos := "ref.go:130", after := #[{ on := 8, ground := Ground.data }, { on := 7, ground := Ground.guard }], guard := some (7, false) } : Oper)) (v := ?_) rfl (by kernel_rfl) (by kernel_rfl) (by kernel_rfl) (fun _ _ _ h => h) (Or.inl ⟨by rfl, ?_⟩) hS ?_
              rotate_left
              · (intro w hSw; (try dsimp only at hSw); obtain ⟨z0, z1, z2, z3, z4, z5⟩ := hSw.six; go_simp; try with_reducible rfl)
              (try simp only [Act.put, List.setIfInBounds_toArray, List.set_cons_zero, List.set_cons_succ])
              refine wpAnyH_take (i := 10) (oi := ({ dst := some 39, op := Op.call { callee := Callee.builtin Builtin.len, args := #[Operand.tmp 38], argTypes := #[27] }, type := 3, pos := "ref.go:130", after := #[{ on := 9, ground := Ground.data }, { on := 7, ground := Ground.guard }], guard := some (7, false) } : Oper)) (v := ?_) rfl (by kernel_rfl) (by kernel_rfl) (by kernel_rfl) (fun _ _ _ h => h) (Or.inl ⟨by rfl, ?_⟩) hS ?_
              rotate_left
              · (intro w hSw; (try dsimp only at hSw); obtain ⟨z0, z1, z2, z3, z4, z5⟩ := hSw.six; go_simp; try with_reducible rfl)
              (try simp only [Act.put, List.setIfInBounds_toArray, List.set_cons_zero, List.set_cons_succ])
              refine wpAnyH_take (i := 11) (oi := ({ dst := some 40, op := Op.binOp BinOp.geq 3 (Operand.tmp 39) (Operand.const (Value.int IntKind.i64 64)) 3, type := 4, pos := "ref.go:130", after := #[{ on := 10, ground := Ground.data }, { on := 7, ground := Ground.guard }], guard := some (7, false) } : Oper)) (v := ?_) rfl (by kernel_rfl) (by kernel_rfl) (by kernel_rfl) (fun _ _ _ h => h) (Or.inl ⟨by rfl, ?_⟩) hS ?_
              rotate_left
              · (intro w hSw; (try dsimp only at hSw); obtain ⟨z0, z1, z2, z3, z4, z5⟩ := hSw.six; go_simp; try with_reducible rfl)
              (try simp only [Act.put, List.setIfInBounds_toArray, List.set_cons_zero, List.set_cons_succ])
              refine wpAnyH_take (i := 12) (oi := ({ dst := some 41, op := Op.pick (Operand.tmp 36) (Operand.const (Value.bool true)) (Operand.tmp 40), type := 4, pos := "ref.go:130", after := #[{ on := 7, ground := Ground.data }, { on := 11, ground := Ground.data }], guard := none } : Oper)) (v := ?_) rfl (by kernel_rfl) (by kernel_rfl) (by kernel_rfl) (fun _ _ _ h => h) (Or.inl ⟨by rfl, ?_⟩) hS ?_
              rotate_left
              · (intro w hSw; (try dsimp only at hSw); go_simp; try with_reducible rfl)
              (try simp only [Act.put, List.setIfInBounds_toArray, List.set_cons_zero, List.set_cons_succ])
              refine wpAnyH_done (by kernel_rfl) ?_ _
              clear hS
              go_wp2_with (first
                | (refine wpList_load_row rfl 29 _ rfl w.heap.size rfl _ _ (0, 0) _ HS3b.out.d0.1 Try.underlying29 rfl HS3b.out.d0.info ?_)
                | (go_at_call 64; (with_reducible refine (HOP.out _).mono ?_); rintro e w4 ⟨rfl, hb⟩; have HS4 := Lib.hid (HS3b.out.next hb); clear hb)
                | (refine wpl_store_newD rfl _ _ rfl rfl w4.heap.size rfl #[.slice a n cap, .int .i64 d2.cap, .int .i64 d2.ops, .bool d2.down, .bool d2.told, .int .i64 d2.after] rfl (by simp [Value.oneCell']) rfl rfl ?_; intro w5 HX5 hb5; have HS5 := Lib.hid (HS4.out.next hb5.out); clear hb5)
                | (refine wpList_load_row rfl 29 _ rfl w4.heap.size rfl _ _ (0, 0) _ HX5.out.1 Try.underlying29 rfl HX5.out.info ?_))
              have HS6 := Lib.hid (HS5.out.next (Below.refl _ _).drew)
              have HQ6 := Lib.hid (HX5.out.next (Below.refl _ _).drew)
              refine wp_region_held_drew (S := (fun W' => DB W' w4.heap.size #[.slice a n cap, .int .i64 d2.cap, .int .i64 d2.ops, .bool d2.down, .bool d2.told, .int .i64 d2.after])) (by kernel_rfl) HQ6.out (fun hS => ?_)
              refine wpAnyH_take (i := 0) (oi := ({ dst := some 52, op := Op.load 29 (Operand.tmp 8), type := 29, pos := "ref.go:137", after := #[], guard := none } : Oper)) (v := ?_) rfl (by kernel_rfl) (by kernel_rfl) (by kernel_rfl) (fun _ _ _ h => h) (Or.inl ⟨by rfl, ?_⟩) hS ?_
              rotate_left
              · (intro w hSw; (try dsimp only at hSw); refine exec_load_db (.tmp 8) ?_ ?_ hSw <;> rfl)
              (try simp only [Act.put, List.setIfInBounds_toArray, List.set_cons_zero, List.set_cons_succ])
              refine wpAnyH_take (i := 1) (oi := ({ dst := some 53, op := Op.move (Operand.tmp 1), type := 9, pos := "ref.go:137", after := #[], guard := none } : Oper)) (v := ?_) rfl (by kernel_rfl) (by kernel_rfl) (by kernel_rfl) (fun _ _ _ h => h) (Or.inl ⟨by rfl, ?_⟩) hS ?_
              rotate_left
              · (intro w hSw; (try dsimp only at hSw); go_simp; try with_reducible rfl)
              (try simp only [Act.put, List.setIfInBounds_toArray, List.set_cons_zero, List.set_cons_succ])
              refine wpAnyH_take (i := 2) (oi := ({ dst := some 54, op := Op.move (Operand.tmp 2), type := 3, pos := "ref.go:137", after := #[], guard := none } : Oper)) (v := ?_) rfl (by kernel_rfl) (by kernel_rfl) (by kernel_rfl) (fun _ _ _ h => h) (Or.inl ⟨by rfl, ?_⟩) hS ?_
              rotate_left
              · (intro w hSw; (try dsimp only at hSw); go_simp; try with_reducible rfl)
              (try simp only [Act.put, List.setIfInBounds_toArray, List.set_cons_zero, List.set_cons_succ])
              refine wpAnyH_take (i := 4) (oi := ({ dst := some 56, op := Op.move (Operand.tmp 2), type := 3, pos := "ref.go:137", after := #[], guard := none } : Oper)) (v := ?_) rfl (by kernel_rfl) (by kernel_rfl) (by kernel_rfl) (fun _ _ _ h => h) (Or.inl ⟨by rfl, ?_⟩) hS ?_
              rotate_left
              · (intro w hSw; (try dsimp only at hSw); go_simp; try with_reducible rfl)
              (try simp only [Act.put, List.setIfInBounds_toArray, List.set_cons_zero, List.set_cons_succ])
              refine wpAnyH_take (i := 6) (oi := ({ dst := some 58, op := Op.move (Operand.tmp 2), type := 3, pos := "ref.go:137", after := #[], guard := none } : Oper)) (v := ?_) rfl (by kernel_rfl) (by kernel_rfl) (by kernel_rfl) (fun _ _ _ h => h) (Or.inl ⟨by rfl, ?_⟩) hS ?_
              rotate_left
              · (intro w hSw; (try dsimp only at hSw); go_simp; try with_reducible rfl)
              (try simp only [Act.put, List.setIfInBounds_toArray, List.set_cons_zero, List.set_cons_succ])
              refine rg_three 3 5 7 ({ dst := some 55, op := Op.makeSlice 42 (Operand.tmp 54) (Operand.tmp 54), type := 42, pos := "ref.go:137", after := #[{ on := 2, ground := Ground.data }, { on := 2, ground := Ground.data }], guard := none } : Oper) ({ dst := some 57, op := Op.makeSlice 42 (Operand.tmp 56) (Operand.tmp 56), type := 42, pos := "ref.go:137", after := #[{ on := 4, ground := Ground.data }, { on := 4, ground := Ground.data }], guard := none } : Oper) ({ dst := some 59, op := Op.makeSlice 80 (Operand.tmp 58) (Operand.tmp 58), type := 80, pos := "ref.go:137", after := #[{ on := 6, ground := Ground.data }, { on := 6, ground := Ground.data }], guard := none } : Oper) (by kernel_rfl) rfl rfl rfl (fun K hK => ?_) (fun K hK => ?_) (fun K hK => ?_)
              · skip
                go_simp
                (have hb : Below w5.drew.heap.size w5.drew (w5.alloc (.cells (il .u8 (List.replicate (kq * 64) 0)).toArray 67)).drew := below_drew_alloc w5 (.cells (il .u8 (List.replicate (kq * 64) 0)).toArray 67); have HM0 := Lib.hid (HS6.out.next hb); have hm := (FS.new (F := boxF F w) (w := w5) HS5.out.foot kq (List.replicate (kq * 64) 0) (by simp) (by omega) 67).kin (kin_drew _ _); have HX3 := Lib.hid hm; clear hm)
                refine hK.out _ _ ?_ (fun hS1 => ?_)
                · (first | exact hS | exact hS.next hb | exact hN)
                clear hK K hS; have hS := hS1; clear hS1
                (try simp only [Act.put, List.setIfInBounds_toArray, List.set_cons_zero, List.set_cons_succ])
                refine rg_both 5 7 ({ dst := some 57, op := Op.makeSlice 42 (Operand.tmp 56) (Operand.tmp 56), type := 42, pos := "ref.go:137", after := #[{ on := 4, ground := Ground.data }, { on := 4, ground := Ground.data }], guard := none } : Oper) ({ dst := some 59, op := Op.makeSlice 80 (Operand.tmp 58) (Operand.tmp 58), type := 80, pos := "ref.go:137", after := #[{ on := 6, ground := Ground.data }, { on := 6, ground := Ground.data }], guard := none } : Oper) (by kernel_rfl) rfl rfl (fun K hK => ?_) (fun K hK => ?_)
                · skip
                  go_simp
                  (have hb : Below (w5.alloc (.cells (il .u8 (List.replicate (kq * 64) 0)).toArray 67)).drew.heap.size (w5.alloc (.cells (il .u8 (List.replicate (kq * 64) 0)).toArray 67)).drew ((w5.alloc (.cells (il .u8 (List.replicate (kq * 64) 0)).toArray 67)).alloc (.cells (il .u8 (List.replicate (kq * 64) 0)).toArray 67)).drew := below_drew_alloc (w5.alloc (.cells (il .u8 (List.replicate (kq * 64) 0)).toArray 67)) (.cells (il .u8 (List.replicate (kq * 64) 0)).toArray 67); have HM1 := Lib.hid (HM0.out.next hb); have hm := (FS.new (F := boxF F w) (w := (w5.alloc (.cells (il .u8 (List.replicate (kq * 64) 0)).toArray 67))) (HM0.out.foot) kq (List.replicate (kq * 64) 0) (by simp) (by omega) 67).kin (kin_drew _ _); rw [alloc_size] at hm; have HX5 := Lib.hid hm; clear hm; replace HX3 := Lib.hid (HX3.out.kin (kin_mask hb)))
                  refine hK.out _ _ ?_ (fun hS1 => ?_)
                  · (first | exact hS | exact hS.next hb | exact hN)
                  clear hK K hS; have hS := hS1; clear hS1
                  (try simp only [Act.put, List.setIfInBounds_toArray, List.set_cons_zero, List.set_cons_succ])
                  refine rg_one 7 ({ dst := some 59, op := Op.makeSlice 80 (Operand.tmp 58) (Operand.tmp 58), type := 80, pos := "ref.go:137", after := #[{ on := 6, ground := Ground.data }, { on := 6, ground := Ground.data }], guard := none } : Oper) (by kernel_rfl) rfl (fun K hK => ?_)
                  go_simp
                  (have hb : Below ((w5.alloc (.cells (il .u8 (List.replicate (kq * 64) 0)).toArray 67)).alloc (.cells (il .u8 (List.replicate (kq * 64) 0)).toArray 67)).drew.heap.size ((w5.alloc (.cells (il .u8 (List.replicate (kq * 64) 0)).toArray 67)).alloc (.cells (il .u8 (List.replicate (kq * 64) 0)).toArray 67)).drew (((w5.alloc (.cells (il .u8 (List.replicate (kq * 64) 0)).toArray 67)).alloc (.cells (il .u8 (List.replicate (kq * 64) 0)).toArray 67)).alloc (.cells (Array.replicate kq (Value.bool false)) 4)).drew := below_drew_alloc ((w5.alloc (.cells (il .u8 (List.replicate (kq * 64) 0)).toArray 67)).alloc (.cells (il .u8 (List.replicate (kq * 64) 0)).toArray 67)) (.cells (Array.replicate kq (Value.bool false)) 4); have HM2 := Lib.hid (HM1.out.next hb); have hm := (BS.fresh (F := boxF F w) (w := ((w5.alloc (.cells (il .u8 (List.replicate (kq * 64) 0)).toArray 67)).alloc (.cells (il .u8 (List.replicate (kq * 64) 0)).toArray 67))) (HM1.out.foot) kq (by omega) 4).kin (kin_drew _ _); rw [alloc_size, alloc_size] at hm; have HX7 := Lib.hid hm; clear hm; replace HX3 := Lib.hid (HX3.out.kin (kin_mask hb)); replace HX5 := Lib.hid (HX5.out.kin (kin_mask hb)))
                  refine hK.out _ _ ?_ (fun hS1 => ?_)
                  · (first | exact hS | exact hS.next hb | exact hN)
                  clear hK K hS; have hS := hS1; clear hS1
                  (try simp only [Act.put, List.setIfInBounds_toArray, List.set_cons_zero, List.set_cons_succ])
                  refine wpAnyH_take (i := 8) (oi := ({ dst := some 60, op := Op.build 82 #[(0, Operand.tmp 53), (1, Operand.tmp 55), (2, Operand.tmp 57), (3, Operand.tmp 59)], type := 82, pos := "ref.go:137", after := #[{ on := 1, ground := Ground.data }, { on := 3, ground := Ground.data }, { on := 5, ground := Ground.data }, { on := 7, ground := Ground.data }], guard := none } : Oper)) (v := ?_) rfl (by kernel_rfl) (by kernel_rfl) (by kernel_rfl) (fun _ _ _ h => h) (Or.inl ⟨by rfl, ?_⟩) hS ?_
                  rotate_left
                  · (intro w hSw; (try dsimp only at hSw); go_simp; try with_reducible rfl)
                  (try simp only [Act.put, List.setIfInBounds_toArray, List.set_cons_zero, List.set_cons_succ])
                  refine rg_one 9 ({ dst := some 61, op := Op.call { callee := Callee.value (Operand.func 47), args := #[Operand.tmp 52, Operand.tmp 60], argTypes := #[29, 82] }, type := 29, pos := "ref.go:137", after := #[{ on := 0, ground := Ground.data }, { on := 8, ground := Ground.data }], guard := none } : Oper) (by kernel_rfl) rfl (fun K hK => ?_)
                  go_simp
                  (go_at_call 47; (refine (rwith_any (boxF F w) _ d2 (some ⟨w5.heap.size, 0, none⟩) kq (some ⟨w5.heap.size + 1, 0, none⟩) kq (some ⟨w5.heap.size + 1 + 1, 0, none⟩) kq (newF s kq) _ HM2.out.foot (HM2.out.rd.re HL2.out) ⟨_, _, _, rfl, HX3.out, HX5.out, HX7.out⟩ HLN.out).mono ?_); rintro e w8 ⟨v8, rfl, hr8, hb⟩; have HS8 := Lib.hid (HM2.out.next hb); obtain ⟨a7, n7, c7, rfl, _⟩ := hr8.agg; have HR8 := Lib.hid hr8)
                  refine hK.out _ _ ?_ (fun hS1 => ?_)
                  · (first | exact hS | exact hS.next hb | exact hN)
                  clear hK K hS; have hS := hS1; clear hS1
                  (try simp only [Act.put, List.setIfInBounds_toArray, List.set_cons_zero, List.set_cons_succ])
                  refine rg_one 10 ({ dst := none, op := Op.store 29 (Operand.tmp 6) (Operand.tmp 61), type := 0, pos := "ref.go:137", after := #[{ on := 9, ground := Ground.data }, { on := 9, ground := Ground.chain }, { on := 0, ground := Ground.phase }, { on := 1, ground := Ground.phase }, { on := 2, ground := Ground.phase }, { on := 3, ground := Ground.phase }, { on := 4, ground := Ground.phase }, { on := 5, ground := Ground.phase }, { on := 6, ground := Ground.phase }, { on := 7, ground := Ground.phase }, { on := 8, ground := Ground.phase }, { on := 9, ground := Ground.phase }], guard := none } : Oper) (by kernel_rfl) rfl (fun K hK => ?_)
                  rw [if_pos (by rfl)]; refine wp_store_row 29 (.tmp 6) (.tmp 61) rfl (w.heap.size + 1) #[.slice a7 n7 c7, .int .i64 (d2.withF (newF s kq)).cap, .int .i64 (d2.withF (newF s kq)).ops, .bool (d2.withF (newF s kq)).down, .bool (d2.withF (newF s kq)).told, .int .i64 (d2.withF (newF s kq)).after] rfl rfl _ dz HS8.out.d1.1 disk_info (by rfl) (by simp [Value.oneCell']) ?_; have hN := hS.over (w.heap.size + 1) (by have := HS4.out.size; omega) #[.slice a7 n7 c7, .int .i64 (d2.withF (newF s kq)).cap, .int .i64 (d2.withF (newF s kq)).ops, .bool (d2.withF (newF s kq)).down, .bool (d2.withF (newF s kq)).told, .int .i64 (d2.withF (newF s kq)).after]
                  refine hK.out _ _ ?_ (fun hS1 => ?_)
                  · (first | exact hS | exact hS.next hb | exact hN)
                  clear hK K hS; have hS := hS1; clear hS1
                  (try simp only [Act.put])
                  refine wpAnyH_take (i := 11) (oi := ({ dst := some 7, op := Op.assign (Operand.const (Value.int IntKind.i64 0)), type := 45, pos := "ref.go:137", after := #[{ on := 10, ground := Ground.chain }, { on := 0, ground := Ground.phase }, { on := 1, ground := Ground.phase }, { on := 2, ground := Ground.phase }, { on := 3, ground := Ground.phase }, { on := 4, ground := Ground.phase }, { on := 5, ground := Ground.phase }, { on := 6, ground := Ground.phase }, { on := 7, ground := Ground.phase }, { on := 8, ground := Ground.phase }, { on := 9, ground := Ground.phase }, { on := 10, ground := Ground.phase }], guard := none } : Oper)) (v := ?_) rfl (by kernel_rfl) (by kernel_rfl) (by kernel_rfl) (fun _ _ _ h => h) (Or.inl ⟨by rfl, ?_⟩) hS ?_
                  rotate_left
                  · (intro w hSw; (try dsimp only at hSw); go_simp; try with_reducible rfl)
                  (try simp only [Act.put, List.setIfInBounds_toArray, List.set_cons_zero, List.set_cons_succ])
                  refine wpAnyH_done (by kernel_rfl) ?_ _
                  clear hS
                  go_wp2
                  obtain ⟨e1, e2, e3⟩ := HS8.out.done (cs' := #[.slice a7 n7 c7, .int .i64 (d2.withF (newF s kq)).cap, .int .i64 (d2.withF (newF s kq)).ops, .bool (d2.withF (newF s kq)).down, .bool (d2.withF (newF s kq)).told, .int .i64 (d2.withF (newF s kq)).after]) HR8.out rfl
                  exact bodyPost_ret_by (results_row_tmp rfl _ _ (w.heap.size + 1) _ rfl (disk_load e1.1 rfl)) rfl ⟨_, rfl, e2, e3⟩
                · skip
                  go_simp
                  (have hb : Below (w5.alloc (.cells (il .u8 (List.replicate (kq * 64) 0)).toArray 67)).drew.heap.size (w5.alloc (.cells (il .u8 (List.replicate (kq * 64) 0)).toArray 67)).drew ((w5.alloc (.cells (il .u8 (List.replicate (kq * 64) 0)).toArray 67)).alloc (.cells (Array.replicate kq (Value.bool false)) 4)).drew := below_drew_alloc (w5.alloc (.cells (il .u8 (List.replicate (kq * 64) 0)).toArray 67)) (.cells (Array.replicate kq (Value.bool false)) 4); have HM1 := Lib.hid (HM0.out.next hb); have hm := (BS.fresh (F := boxF F w) (w := (w5.alloc (.cells (il .u8 (List.replicate (kq * 64) 0)).toArray 67))) (HM0.out.foot) kq (by omega) 4).kin (kin_drew _ _); rw [alloc_size] at hm; have HX7 := Lib.hid hm; clear hm; replace HX3 := Lib.hid (HX3.out.kin (kin_mask hb)))
                  refine hK.out _ _ ?_ (fun hS1 => ?_)
                  · (first | exact hS | exact hS.next hb | exact hN)
                  clear hK K hS; have hS := hS1; clear hS1
                  (try simp only [Act.put, List.setIfInBounds_toArray, List.set_cons_zero, List.set_cons_succ])
                  refine rg_one 5 ({ dst := some 57, op := Op.makeSlice 42 (Operand.tmp 56) (Operand.tmp 56), type := 42, pos := "ref.go:137", after := #[{ on := 4, ground := Ground.data }, { on := 4, ground := Ground.data }], guard := none } : Oper) (by kernel_rfl) rfl (fun K hK => ?_)
                  go_simp
                  (have hb : Below ((w5.alloc (.cells (il .u8 (List.replicate (kq * 64) 0)).toArray 67)).alloc (.cells (Array.replicate kq (Value.bool false)) 4)).drew.heap.size ((w5.alloc (.cells (il .u8 (List.replicate (kq * 64) 0)).toArray 67)).alloc (.cells (Array.replicate kq (Value.bool false)) 4)).drew (((w5.alloc (.cells (il .u8 (List.replicate (kq * 64) 0)).toArray 67)).alloc (.cells (Array.replicate kq (Value.bool false)) 4)).alloc (.cells (il .u8 (List.replicate (kq * 64) 0)).toArray 67)).drew := below_drew_alloc ((w5.alloc (.cells (il .u8 (List.replicate (kq * 64) 0)).toArray 67)).alloc (.cells (Array.replicate kq (Value.bool false)) 4)) (.cells (il .u8 (List.replicate (kq * 64) 0)).toArray 67); have HM2 := Lib.hid (HM1.out.next hb); have hm := (FS.new (F := boxF F w) (w := ((w5.alloc (.cells (il .u8 (List.replicate (kq * 64) 0)).toArray 67)).alloc (.cells (Array.replicate kq (Value.bool false)) 4))) (HM1.out.foot) kq (List.replicate (kq * 64) 0) (by simp) (by omega) 67).kin (kin_drew _ _); rw [alloc_size, alloc_size] at hm; have HX5 := Lib.hid hm; clear hm; replace HX3 := Lib.hid (HX3.out.kin (kin_mask hb)); replace HX7 := Lib.hid (HX7.out.kin (kin_mask hb)))
                  refine hK.out _ _ ?_ (fun hS1 => ?_)
                  · (first | exact hS | exact hS.next hb | exact hN)
                  clear hK K hS; have hS := hS1; clear hS1
                  (try simp only [Act.put, List.setIfInBounds_toArray, List.set_cons_zero, List.set_cons_succ])
                  refine wpAnyH_take (i := 8) (oi := ({ dst := some 60, op := Op.build 82 #[(0, Operand.tmp 53), (1, Operand.tmp 55), (2, Operand.tmp 57), (3, Operand.tmp 59)], type := 82, pos := "ref.go:137", after := #[{ on := 1, ground := Ground.data }, { on := 3, ground := Ground.data }, { on := 5, ground := Ground.data }, { on := 7, ground := Ground.data }], guard := none } : Oper)) (v := ?_) rfl (by kernel_rfl) (by kernel_rfl) (by kernel_rfl) (fun _ _ _ h => h) (Or.inl ⟨by rfl, ?_⟩) hS ?_
                  rotate_left
                  · (intro w hSw; (try dsimp only at hSw); go_simp; try with_reducible rfl)
                  (try simp only [Act.put, List.setIfInBounds_toArray, List.set_cons_zero, List.set_cons_succ])
                  refine rg_one 9 ({ dst := some 61, op := Op.call { callee := Callee.value (Operand.func 47), args := #[Operand.tmp 52, Operand.tmp 60], argTypes := #[29, 82] }, type := 29, pos := "ref.go:137", after := #[{ on := 0, ground := Ground.data }, { on := 8, ground := Ground.data }], guard := none } : Oper) (by kernel_rfl) rfl (fun K hK => ?_)
                  go_simp
                  (go_at_call 47; (refine (rwith_any (boxF F w) _ d2 (some ⟨w5.heap.size, 0, none⟩) kq (some ⟨w5.heap.size + 1 + 1, 0, none⟩) kq (some ⟨w5.heap.size + 1, 0, none⟩) kq (newF s kq) _ HM2.out.foot (HM2.out.rd.re HL2.out) ⟨_, _, _, rfl, HX3.out, HX5.out, HX7.out⟩ HLN.out).mono ?_); rintro e w8 ⟨v8, rfl, hr8, hb⟩; have HS8 := Lib.hid (HM2.out.next hb); obtain ⟨a7, n7, c7, rfl, _⟩ := hr8.agg; have HR8 := Lib.hid hr8)
                  refine hK.out _ _ ?_ (fun hS1 => ?_)
                  · (first | exact hS | exact hS.next hb | exact hN)
                  clear hK K hS; have hS := hS1; clear hS1
                  (try simp only [Act.put, List.setIfInBounds_toArray, List.set_cons_zero, List.set_cons_succ])
                  refine rg_one 10 ({ dst := none, op := Op.store 29 (Operand.tmp 6) (Operand.tmp 61), type := 0, pos := "ref.go:137", after := #[{ on := 9, ground := Ground.data }, { on := 9, ground := Ground.chain }, { on := 0, ground := Ground.phase }, { on := 1, ground := Ground.phase }, { on := 2, ground := Ground.phase }, { on := 3, ground := Ground.phase }, { on := 4, ground := Ground.phase }, { on := 5, ground := Ground.phase }, { on := 6, ground := Ground.phase }, { on := 7, ground := Ground.phase }, { on := 8, ground := Ground.phase }, { on := 9, ground := Ground.phase }], guard := none } : Oper) (by kernel_rfl) rfl (fun K hK => ?_)
                  rw [if_pos (by rfl)]; refine wp_store_row 29 (.tmp 6) (.tmp 61) rfl (w.heap.size + 1) #[.slice a7 n7 c7, .int .i64 (d2.withF (newF s kq)).cap, .int .i64 (d2.withF (newF s kq)).ops, .bool (d2.withF (newF s kq)).down, .bool (d2.withF (newF s kq)).told, .int .i64 (d2.withF (newF s kq)).after] rfl rfl _ dz HS8.out.d1.1 disk_info (by rfl) (by simp [Value.oneCell']) ?_; have hN := hS.over (w.heap.size + 1) (by have := HS4.out.size; omega) #[.slice a7 n7 c7, .int .i64 (d2.withF (newF s kq)).cap, .int .i64 (d2.withF (newF s kq)).ops, .bool (d2.withF (newF s kq)).down, .bool (d2.withF (newF s kq)).told, .int .i64 (d2.withF (newF s kq)).after]
                  refine hK.out _ _ ?_ (fun hS1 => ?_)
                  · (first | exact hS | exact hS.next hb | exact hN)
                  clear hK K hS; have hS := hS1; clear hS1
                  (try simp only [Act.put])
                  refine wpAnyH_take (i := 11) (oi := ({ dst := some 7, op := Op.assign (Operand.const (Value.int IntKind.i64 0)), type := 45, pos := "ref.go:137", after := #[{ on := 10, ground := Ground.chain }, { on := 0, ground := Ground.phase }, { on := 1, ground := Ground.phase }, { on := 2, ground := Ground.phase }, { on := 3, ground := Ground.phase }, { on := 4, ground := Ground.phase }, { on := 5, ground := Ground.phase }, { on := 6, ground := Ground.phase }, { on := 7, ground := Ground.phase }, { on := 8, ground := Ground.phase }, { on := 9, ground := Ground.phase }, { on := 10, ground := Ground.phase }], guard := none } : Oper)) (v := ?_) rfl (by kernel_rfl) (by kernel_rfl) (by kernel_rfl) (fun _ _ _ h => h) (Or.inl ⟨by rfl, ?_⟩) hS ?_
                  rotate_left
                  · (intro w hSw; (try dsimp only at hSw); go_simp; try with_reducible rfl)
                  (try simp only [Act.put, List.setIfInBounds_toArray, List.set_cons_zero, List.set_cons_succ])
                  refine wpAnyH_done (by kernel_rfl) ?_ _
                  clear hS
                  go_wp2
                  obtain ⟨e1, e2, e3⟩ := HS8.out.done (cs' := #[.slice a7 n7 c7, .int .i64 (d2.withF (newF s kq)).cap, .int .i64 (d2.withF (newF s kq)).ops, .bool (d2.withF (newF s kq)).down, .bool (d2.withF (newF s kq)).told, .int .i64 (d2.withF (newF s kq)).after]) HR8.out rfl
                  exact bodyPost_ret_by (results_row_tmp rfl _ _ (w.heap.size + 1) _ rfl (disk_load e1.1 rfl)) rfl ⟨_, rfl, e2, e3⟩
              · skip
                go_simp
                (have hb : Below w5.drew.heap.size w5.drew (w5.alloc (.cells (il .u8 (List.replicate (kq * 64) 0)).toArray 67)).drew := below_drew_alloc w5 (.cells (il .u8 (List.replicate (kq * 64) 0)).toArray 67); have HM0 := Lib.hid (HS6.out.next hb); have hm := (FS.new (F := boxF F w) (w := w5) HS5.out.foot kq (List.replicate (kq * 64) 0) (by simp) (by omega) 67).kin (kin_drew _ _); have HX5 := Lib.hid hm; clear hm)
                refine hK.out _ _ ?_ (fun hS1 => ?_)
                · (first | exact hS | exact hS.next hb | exact hN)
                clear hK K hS; have hS := hS1; clear hS1
                (try simp only [Act.put, List.setIfInBounds_toArray, List.set_cons_zero, List.set_cons_succ])
                refine rg_both 3 7 ({ dst := some 55, op := Op.makeSlice 42 (Operand.tmp 54) (Operand.tmp 54), type := 42, pos := "ref.go:137", after := #[{ on := 2, ground := Ground.data }, { on := 2, ground := Ground.data }], guard := none } : Oper) ({ dst := some 59, op := Op.makeSlice 80 (Operand.tmp 58) (Operand.tmp 58), type := 80, pos := "ref.go:137", after := #[{ on := 6, ground := Ground.data }, { on := 6, ground := Ground.data }], guard := none } : Oper) (by kernel_rfl) rfl rfl (fun K hK => ?_) (fun K hK => ?_)
                · skip
                  go_simp
                  (have hb : Below (w5.alloc (.cells (il .u8 (List.replicate (kq * 64) 0)).toArray 67)).drew.heap.size (w5.alloc (.cells (il .u8 (List.replicate (kq * 64) 0)).toArray 67)).drew ((w5.alloc (.cells (il .u8 (List.replicate (kq * 64) 0)).toArray 67)).alloc (.cells (il .u8 (List.replicate (kq * 64) 0)).toArray 67)).drew := below_drew_alloc (w5.alloc (.cells (il .u8 (List.replicate (kq * 64) 0)).toArray 67)) (.cells (il .u8 (List.replicate (kq * 64) 0)).toArray 67); have HM1 := Lib.hid (HM0.out.next hb); have hm := (FS.new (F := boxF F w) (w := (w5.alloc (.cells (il .u8 (List.replicate (kq * 64) 0)).toArray 67))) (HM0.out.foot) kq (List.replicate (kq * 64) 0) (by simp) (by omega) 67).kin (kin_drew _ _); rw [alloc_size] at hm; have HX3 := Lib.hid hm; clear hm; replace HX5 := Lib.hid (HX5.out.kin (kin_mask hb)))
                  refine hK.out _ _ ?_ (fun hS1 => ?_)
                  · (first | exact hS | exact hS.next hb | exact hN)
                  clear hK K hS; have hS := hS1; clear hS1
                  (try simp only [Act.put, List.setIfInBounds_toArray, List.set_cons_zero, List.set_cons_succ])
                  refine rg_one 7 ({ dst := some 59, op := Op.makeSlice 80 (Operand.tmp 58) (Operand.tmp 58), type := 80, pos := "ref.go:137", after := #[{ on := 6, ground := Ground.data }, { on := 6, ground := Ground.data }], guard := none } : Oper) (by kernel_rfl) rfl (fun K hK => ?_)
                  go_simp
                  (have hb : Below ((w5.alloc (.cells (il .u8 (List.replicate (kq * 64) 0)).toArray 67)).alloc (.cells (il .u8 (List.replicate (kq * 64) 0)).toArray 67)).drew.heap.size ((w5.alloc (.cells (il .u8 (List.replicate (kq * 64) 0)).toArray 67)).alloc (.cells (il .u8 (List.replicate (kq * 64) 0)).toArray 67)).drew (((w5.alloc (.cells (il .u8 (List.replicate (kq * 64) 0)).toArray 67)).alloc (.cells (il .u8 (List.replicate (kq * 64) 0)).toArray 67)).alloc (.cells (Array.replicate kq (Value.bool false)) 4)).drew := below_drew_alloc ((w5.alloc (.cells (il .u8 (List.replicate (kq * 64) 0)).toArray 67)).alloc (.cells (il .u8 (List.replicate (kq * 64) 0)).toArray 67)) (.cells (Array.replicate kq (Value.bool false)) 4); have HM2 := Lib.hid (HM1.out.next hb); have hm := (BS.fresh (F := boxF F w) (w := ((w5.alloc (.cells (il .u8 (List.replicate (kq * 64) 0)).toArray 67)).alloc (.cells (il .u8 (List.replicate (kq * 64) 0)).toArray 67))) (HM1.out.foot) kq (by omega) 4).kin (kin_drew _ _); rw [alloc_size, alloc_size] at hm; have HX7 := Lib.hid hm; clear hm; replace HX5 := Lib.hid (HX5.out.kin (kin_mask hb)); replace HX3 := Lib.hid (HX3.out.kin (kin_mask hb)))
                  refine hK.out _ _ ?_ (fun hS1 => ?_)
                  · (first | exact hS | exact hS.next hb | exact hN)
                  clear hK K hS; have hS := hS1; clear hS1
                  (try simp only [Act.put, List.setIfInBounds_toArray, List.set_cons_zero, List.set_cons_succ])
                  refine wpAnyH_take (i := 8) (oi := ({ dst := some 60, op := Op.build 82 #[(0, Operand.tmp 53), (1, Operand.tmp 55), (2, Operand.tmp 57), (3, Operand.tmp 59)], type := 82, pos := "ref.go:137", after := #[{ on := 1, ground := Ground.data }, { on := 3, ground := Ground.data }, { on := 5, ground := Ground.data }, { on := 7, ground := Ground.data }], guard := none } : Oper)) (v := ?_) rfl (by kernel_rfl) (by kernel_rfl) (by kernel_rfl) (fun _ _ _ h => h) (Or.inl ⟨by rfl, ?_⟩) hS ?_
                  rotate_left
                  · (intro w hSw; (try dsimp only at hSw); go_simp; try with_reducible rfl)
                  (try simp only [Act.put, List.setIfInBounds_toArray, List.set_cons_zero, List.set_cons_succ])
                  refine rg_one 9 ({ dst := some 61, op := Op.call { callee := Callee.value (Operand.func 47), args := #[Operand.tmp 52, Operand.tmp 60], argTypes := #[29, 82] }, type := 29, pos := "ref.go:137", after := #[{ on := 0, ground := Ground.data }, { on := 8, ground := Ground.data }], guard := none } : Oper) (by kernel_rfl) rfl (fun K hK => ?_)
                  go_simp
                  (go_at_call 47; (refine (rwith_any (boxF F w) _ d2 (some ⟨w5.heap.size + 1, 0, none⟩) kq (some ⟨w5.heap.size, 0, none⟩) kq (some ⟨w5.heap.size + 1 + 1, 0, none⟩) kq (newF s kq) _ HM2.out.foot (HM2.out.rd.re HL2.out) ⟨_, _, _, rfl, HX3.out, HX5.out, HX7.out⟩ HLN.out).mono ?_); rintro e w8 ⟨v8, rfl, hr8, hb⟩; have HS8 := Lib.hid (HM2.out.next hb); obtain ⟨a7, n7, c7, rfl, _⟩ := hr8.agg; have HR8 := Lib.hid hr8)
                  refine hK.out _ _ ?_ (fun hS1 => ?_)
                  · (first | exact hS | exact hS.next hb | exact hN)
                  clear hK K hS; have hS := hS1; clear hS1
                  (try simp only [Act.put, List.setIfInBounds_toArray, List.set_cons_zero, List.set_cons_succ])
                  refine rg_one 10 ({ dst := none, op := Op.store 29 (Operand.tmp 6) (Operand.tmp 61), type := 0, pos := "ref.go:137", after := #[{ on := 9, ground := Ground.data }, { on := 9, ground := Ground.chain }, { on := 0, ground := Ground.phase }, { on := 1, ground := Ground.phase }, { on := 2, ground := Ground.phase }, { on := 3, ground := Ground.phase }, { on := 4, ground := Ground.phase }, { on := 5, ground := Ground.phase }, { on := 6, ground := Ground.phase }, { on := 7, ground := Ground.phase }, { on := 8, ground := Ground.phase }, { on := 9, ground := Ground.phase }], guard := none } : Oper) (by kernel_rfl) rfl (fun K hK => ?_)
                  rw [if_pos (by rfl)]; refine wp_store_row 29 (.tmp 6) (.tmp 61) rfl (w.heap.size + 1) #[.slice a7 n7 c7, .int .i64 (d2.withF (newF s kq)).cap, .int .i64 (d2.withF (newF s kq)).ops, .bool (d2.withF (newF s kq)).down, .bool (d2.withF (newF s kq)).told, .int .i64 (d2.withF (newF s kq)).after] rfl rfl _ dz HS8.out.d1.1 disk_info (by rfl) (by simp [Value.oneCell']) ?_; have hN := hS.over (w.heap.size + 1) (by have := HS4.out.size; omega) #[.slice a7 n7 c7, .int .i64 (d2.withF (newF s kq)).cap, .int .i64 (d2.withF (newF s kq)).ops, .bool (d2.withF (newF s kq)).down, .bool (d2.withF (newF s kq)).told, .int .i64 (d2.withF (newF s kq)).after]
                  refine hK.out _ _ ?_ (fun hS1 => ?_)
                  · (first | exact hS | exact hS.next hb | exact hN)
                  clear hK K hS; have hS := hS1; clear hS1
                  (try simp only [Act.put])
                  refine wpAnyH_take (i := 11) (oi := ({ dst := some 7, op := Op.assign (Operand.const (Value.int IntKind.i64 0)), type := 45, pos := "ref.go:137", after := #[{ on := 10, ground := Ground.chain }, { on := 0, ground := Ground.phase }, { on := 1, ground := Ground.phase }, { on := 2, ground := Ground.phase }, { on := 3, ground := Ground.phase }, { on := 4, ground := Ground.phase }, { on := 5, ground := Ground.phase }, { on := 6, ground := Ground.phase }, { on := 7, ground := Ground.phase }, { on := 8, ground := Ground.phase }, { on := 9, ground := Ground.phase }, { on := 10, ground := Ground.phase }], guard := none } : Oper)) (v := ?_) rfl (by kernel_rfl) (by kernel_rfl) (by kernel_rfl) (fun _ _ _ h => h) (Or.inl ⟨by rfl, ?_⟩) hS ?_
                  rotate_left
                  · (intro w hSw; (try dsimp only at hSw); go_simp; try with_reducible rfl)
                  (try simp only [Act.put, List.setIfInBounds_toArray, List.set_cons_zero, List.set_cons_succ])
                  refine wpAnyH_done (by kernel_rfl) ?_ _
                  clear hS
                  go_wp2
                  obtain ⟨e1, e2, e3⟩ := HS8.out.done (cs' := #[.slice a7 n7 c7, .int .i64 (d2.withF (newF s kq)).cap, .int .i64 (d2.withF (newF s kq)).ops, .bool (d2.withF (newF s kq)).down, .bool (d2.withF (newF s kq)).told, .int .i64 (d2.withF (newF s kq)).after]) HR8.out rfl
                  exact bodyPost_ret_by (results_row_tmp rfl _ _ (w.heap.size + 1) _ rfl (disk_load e1.1 rfl)) rfl ⟨_, rfl, e2, e3⟩
                · skip
                  go_simp
                  (have hb : Below (w5.alloc (.cells (il .u8 (List.replicate (kq * 64) 0)).toArray 67)).drew.heap.size (w5.alloc (.cells (il .u8 (List.replicate (kq * 64) 0)).toArray 67)).drew ((w5.alloc (.cells (il .u8 (List.replicate (kq * 64) 0)).toArray 67)).alloc (.cells (Array.replicate kq (Value.bool false)) 4)).drew := below_drew_alloc (w5.alloc (.cells (il .u8 (List.replicate (kq * 64) 0)).toArray 67)) (.cells (Array.replicate kq (Value.bool false)) 4); have HM1 := Lib.hid (HM0.out.next hb); have hm := (BS.fresh (F := boxF F w) (w := (w5.alloc (.cells (il .u8 (List.replicate (kq * 64) 0)).toArray 67))) (HM0.out.foot) kq (by omega) 4).kin (kin_drew _ _); rw [alloc_size] at hm; have HX7 := Lib.hid hm; clear hm; replace HX5 := Lib.hid (HX5.out.kin (kin_mask hb)))
                  refine hK.out _ _ ?_ (fun hS1 => ?_)
                  · (first | exact hS | exact hS.next hb | exact hN)
                  clear hK K hS; have hS := hS1; clear hS1
                  (try simp only [Act.put, List.setIfInBounds_toArray, List.set_cons_zero, List.set_cons_succ])
                  refine rg_one 3 ({ dst := some 55, op := Op.makeSlice 42 (Operand.tmp 54) (Operand.tmp 54), type := 42, pos := "ref.go:137", after := #[{ on := 2, ground := Ground.data }, { on := 2, ground := Ground.data }], guard := none } : Oper) (by kernel_rfl) rfl (fun K hK => ?_)
                  go_simp
                  (have hb : Below ((w5.alloc (.cells (il .u8 (List.replicate (kq * 64) 0)).toArray 67)).alloc (.cells (Array.replicate kq (Value.bool false)) 4)).drew.heap.size ((w5.alloc (.cells (il .u8 (List.replicate (kq * 64) 0)).toArray 67)).alloc (.cells (Array.replicate kq (Value.bool false)) 4)).drew (((w5.alloc (.cells (il .u8 (List.replicate (kq * 64) 0)).toArray 67)).alloc (.cells (Array.replicate kq (Value.bool false)) 4)).alloc (.cells (il .u8 (List.replicate (kq * 64) 0)).toArray 67)).drew := below_drew_alloc ((w5.alloc (.cells (il .u8 (List.replicate (kq * 64) 0)).toArray 67)).alloc (.cells (Array.replicate kq (Value.bool false)) 4)) (.cells (il .u8 (List.replicate (kq * 64) 0)).toArray 67); have HM2 := Lib.hid (HM1.out.next hb); have hm := (FS.new (F := boxF F w) (w := ((w5.alloc (.cells (il .u8 (List.replicate (kq * 64) 0)).toArray 67)).alloc (.cells (Array.replicate kq (Value.bool false)) 4))) (HM1.out.foot) kq (List.replicate (kq * 64) 0) (by simp) (by omega) 67).kin (kin_drew _ _); rw [alloc_size, alloc_size] at hm; have HX3 := Lib.hid hm; clear hm; replace HX5 := Lib.hid (HX5.out.kin (kin_mask hb)); replace HX7 := Lib.hid (HX7.out.kin (kin_mask hb)))
                  refine hK.out _ _ ?_ (fun hS1 => ?_)
                  · (first | exact hS | exact hS.next hb | exact hN)
                  clear hK K hS; have hS := hS1; clear hS1
                  (try simp only [Act.put, List.setIfInBounds_toArray, List.set_cons_zero, List.set_cons_succ])
                  refine wpAnyH_take (i := 8) (oi := ({ dst := some 60, op := Op.build 82 #[(0, Operand.tmp 53), (1, Operand.tmp 55), (2, Operand.tmp 57), (3, Operand.tmp 59)], type := 82, pos := "ref.go:137", after := #[{ on := 1, ground := Ground.data }, { on := 3, ground := Ground.data }, { on := 5, ground := Ground.data }, { on := 7, ground := Ground.data }], guard := none } : Oper)) (v := ?_) rfl (by kernel_rfl) (by kernel_rfl) (by kernel_rfl) (fun _ _ _ h => h) (Or.inl ⟨by rfl, ?_⟩) hS ?_
                  rotate_left
                  · (intro w hSw; (try dsimp only at hSw); go_simp; try with_reducible rfl)
                  (try simp only [Act.put, List.setIfInBounds_toArray, List.set_cons_zero, List.set_cons_succ])
                  refine rg_one 9 ({ dst := some 61, op := Op.call { callee := Callee.value (Operand.func 47), args := #[Operand.tmp 52, Operand.tmp 60], argTypes := #[29, 82] }, type := 29, pos := "ref.go:137", after := #[{ on := 0, ground := Ground.data }, { on := 8, ground := Ground.data }], guard := none } : Oper) (by kernel_rfl) rfl (fun K hK => ?_)
                  go_simp
                  (go_at_call 47; (refine (rwith_any (boxF F w) _ d2 (some ⟨w5.heap.size + 1 + 1, 0, none⟩) kq (some ⟨w5.heap.size, 0, none⟩) kq (some ⟨w5.heap.size + 1, 0, none⟩) kq (newF s kq) _ HM2.out.foot (HM2.out.rd.re HL2.out) ⟨_, _, _, rfl, HX3.out, HX5.out, HX7.out⟩ HLN.out).mono ?_); rintro e w8 ⟨v8, rfl, hr8, hb⟩; have HS8 := Lib.hid (HM2.out.next hb); obtain ⟨a7, n7, c7, rfl, _⟩ := hr8.agg; have HR8 := Lib.hid hr8)
                  refine hK.out _ _ ?_ (fun hS1 => ?_)
                  · (first | exact hS | exact hS.next hb | exact hN)
                  clear hK K hS; have hS := hS1; clear hS1
                  (try simp only [Act.put, List.setIfInBounds_toArray, List.set_cons_zero, List.set_cons_succ])
                  refine rg_one 10 ({ dst := none, op := Op.store 29 (Operand.tmp 6) (Operand.tmp 61), type := 0, pos := "ref.go:137", after := #[{ on := 9, ground := Ground.data }, { on := 9, ground := Ground.chain }, { on := 0, ground := Ground.phase }, { on := 1, ground := Ground.phase }, { on := 2, ground := Ground.phase }, { on := 3, ground := Ground.phase }, { on := 4, ground := Ground.phase }, { on := 5, ground := Ground.phase }, { on := 6, ground := Ground.phase }, { on := 7, ground := Ground.phase }, { on := 8, ground := Ground.phase }, { on := 9, ground := Ground.phase }], guard := none } : Oper) (by kernel_rfl) rfl (fun K hK => ?_)
                  rw [if_pos (by rfl)]; refine wp_store_row 29 (.tmp 6) (.tmp 61) rfl (w.heap.size + 1) #[.slice a7 n7 c7, .int .i64 (d2.withF (newF s kq)).cap, .int .i64 (d2.withF (newF s kq)).ops, .bool (d2.withF (newF s kq)).down, .bool (d2.withF (newF s kq)).told, .int .i64 (d2.withF (newF s kq)).after] rfl rfl _ dz HS8.out.d1.1 disk_info (by rfl) (by simp [Value.oneCell']) ?_; have hN := hS.over (w.heap.size + 1) (by have := HS4.out.size; omega) #[.slice a7 n7 c7, .int .i64 (d2.withF (newF s kq)).cap, .int .i64 (d2.withF (newF s kq)).ops, .bool (d2.withF (newF s kq)).down, .bool (d2.withF (newF s kq)).told, .int .i64 (d2.withF (newF s kq)).after]
                  refine hK.out _ _ ?_ (fun hS1 => ?_)
                  · (first | exact hS | exact hS.next hb | exact hN)
                  clear hK K hS; have hS := hS1; clear hS1
                  (try simp only [Act.put])
                  refine wpAnyH_take (i := 11) (oi := ({ dst := some 7, op := Op.assign (Operand.const (Value.int IntKind.i64 0)), type := 45, pos := "ref.go:137", after := #[{ on := 10, ground := Ground.chain }, { on := 0, ground := Ground.phase }, { on := 1, ground := Ground.phase }, { on := 2, ground := Ground.phase }, { on := 3, ground := Ground.phase }, { on := 4, ground := Ground.phase }, { on := 5, ground := Ground.phase }, { on := 6, ground := Ground.phase }, { on := 7, ground := Ground.phase }, { on := 8, ground := Ground.phase }, { on := 9, ground := Ground.phase }, { on := 10, ground := Ground.phase }], guard := none } : Oper)) (v := ?_) rfl (by kernel_rfl) (by kernel_rfl) (by kernel_rfl) (fun _ _ _ h => h) (Or.inl ⟨by rfl, ?_⟩) hS ?_
                  rotate_left
                  · (intro w hSw; (try dsimp only at hSw); go_simp; try with_reducible rfl)
                  (try simp only [Act.put, List.setIfInBounds_toArray, List.set_cons_zero, List.set_cons_succ])
                  refine wpAnyH_done (by kernel_rfl) ?_ _
                  clear hS
                  go_wp2
                  obtain ⟨e1, e2, e3⟩ := HS8.out.done (cs' := #[.slice a7 n7 c7, .int .i64 (d2.withF (newF s kq)).cap, .int .i64 (d2.withF (newF s kq)).ops, .bool (d2.withF (newF s kq)).down, .bool (d2.withF (newF s kq)).told, .int .i64 (d2.withF (newF s kq)).after]) HR8.out rfl
                  exact bodyPost_ret_by (results_row_tmp rfl _ _ (w.heap.size + 1) _ rfl (disk_load e1.1 rfl)) rfl ⟨_, rfl, e2, e3⟩
              · skip
                go_simp
                (have hb : Below w5.drew.heap.size w5.drew (w5.alloc (.cells (Array.replicate kq (Value.bool false)) 4)).drew := below_drew_alloc w5 (.cells (Array.replicate kq (Value.bool false)) 4); have HM0 := Lib.hid (HS6.out.next hb); have hm := (BS.fresh (F := boxF F w) (w := w5) HS5.out.foot kq (by omega) 4).kin (kin_drew _ _); have HX7 := Lib.hid hm; clear hm)
                refine hK.out _ _ ?_ (fun hS1 => ?_)
                · (first | exact hS | exact hS.next hb | exact hN)
                clear hK K hS; have hS := hS1; clear hS1
                (try simp only [Act.put, List.setIfInBounds_toArray, List.set_cons_zero, List.set_cons_succ])
                refine rg_both 3 5 ({ dst := some 55, op := Op.makeSlice 42 (Operand.tmp 54) (Operand.tmp 54), type := 42, pos := "ref.go:137", after := #[{ on := 2, ground := Ground.data }, { on := 2, ground := Ground.data }], guard := none } : Oper) ({ dst := some 57, op := Op.makeSlice 42 (Operand.tmp 56) (Operand.tmp 56), type := 42, pos := "ref.go:137", after := #[{ on := 4, ground := Ground.data }, { on := 4, ground := Ground.data }], guard := none } : Oper) (by kernel_rfl) rfl rfl (fun K hK => ?_) (fun K hK => ?_)
                · skip
                  go_simp
                  (have hb : Below (w5.alloc (.cells (Array.replicate kq (Value.bool false)) 4)).drew.heap.size (w5.alloc (.cells (Array.replicate kq (Value.bool false)) 4)).drew ((w5.alloc (.cells (Array.replicate kq (Value.bool false)) 4)).alloc (.cells (il .u8 (List.replicate (kq * 64) 0)).toArray 67)).drew := below_drew_alloc (w5.alloc (.cells (Array.replicate kq (Value.bool false)) 4)) (.cells (il .u8 (List.replicate (kq * 64) 0)).toArray 67); have HM1 := Lib.hid (HM0.out.next hb); have hm := (FS.new (F := boxF F w) (w := (w5.alloc (.cells (Array.replicate kq (Value.bool false)) 4))) (HM0.out.foot) kq (List.replicate (kq * 64) 0) (by simp) (by omega) 67).kin (kin_drew _ _); rw [alloc_size] at hm; have HX3 := Lib.hid hm; clear hm; replace HX7 := Lib.hid (HX7.out.kin (kin_mask hb)))
                  refine hK.out _ _ ?_ (fun hS1 => ?_)
                  · (first | exact hS | exact hS.next hb | exact hN)
                  clear hK K hS; have hS := hS1; clear hS1
                  (try simp only [Act.put, List.setIfInBounds_toArray, List.set_cons_zero, List.set_cons_succ])
                  refine rg_one 5 ({ dst := some 57, op := Op.makeSlice 42 (Operand.tmp 56) (Operand.tmp 56), type := 42, pos := "ref.go:137", after := #[{ on := 4, ground := Ground.data }, { on := 4, ground := Ground.data }], guard := none } : Oper) (by kernel_rfl) rfl (fun K hK => ?_)
                  go_simp
                  (have hb : Below ((w5.alloc (.cells (Array.replicate kq (Value.bool false)) 4)).alloc (.cells (il .u8 (List.replicate (kq * 64) 0)).toArray 67)).drew.heap.size ((w5.alloc (.cells (Array.replicate kq (Value.bool false)) 4)).alloc (.cells (il .u8 (List.replicate (kq * 64) 0)).toArray 67)).drew (((w5.alloc (.cells (Array.replicate kq (Value.bool false)) 4)).alloc (.cells (il .u8 (List.replicate (kq * 64) 0)).toArray 67)).alloc (.cells (il .u8 (List.replicate (kq * 64) 0)).toArray 67)).drew := below_drew_alloc ((w5.alloc (.cells (Array.replicate kq (Value.bool false)) 4)).alloc (.cells (il .u8 (List.replicate (kq * 64) 0)).toArray 67)) (.cells (il .u8 (List.replicate (kq * 64) 0)).toArray 67); have HM2 := Lib.hid (HM1.out.next hb); have hm := (FS.new (F := boxF F w) (w := ((w5.alloc (.cells (Array.replicate kq (Value.bool false)) 4)).alloc (.cells (il .u8 (List.replicate (kq * 64) 0)).toArray 67))) (HM1.out.foot) kq (List.replicate (kq * 64) 0) (by simp) (by omega) 67).kin (kin_drew _ _); rw [alloc_size, alloc_size] at hm; have HX5 := Lib.hid hm; clear hm; replace HX7 := Lib.hid (HX7.out.kin (kin_mask hb)); replace HX3 := Lib.hid (HX3.out.kin (kin_mask hb)))
                  refine hK.out _ _ ?_ (fun hS1 => ?_)
                  · (first | exact hS | exact hS.next hb | exact hN)
                  clear hK K hS; have hS := hS1; clear hS1
                  (try simp only [Act.put, List.setIfInBounds_toArray, List.set_cons_zero, List.set_cons_succ])
                  refine wpAnyH_take (i := 8) (oi := ({ dst := some 60, op := Op.build 82 #[(0, Operand.tmp 53), (1, Operand.tmp 55), (2, Operand.tmp 57), (3, Operand.tmp 59)], type := 82, pos := "ref.go:137", after := #[{ on := 1, ground := Ground.data }, { on := 3, ground := Ground.data }, { on := 5, ground := Ground.data }, { on := 7, ground := Ground.data }], guard := none } : Oper)) (v := ?_) rfl (by kernel_rfl) (by kernel_rfl) (by kernel_rfl) (fun _ _ _ h => h) (Or.inl ⟨by rfl, ?_⟩) hS ?_
                  rotate_left
                  · (intro w hSw; (try dsimp only at hSw); go_simp; try with_reducible rfl)
                  (try simp only [Act.put, List.setIfInBounds_toArray, List.set_cons_zero, List.set_cons_succ])
                  refine rg_one 9 ({ dst := some 61, op := Op.call { callee := Callee.value (Operand.func 47), args := #[Operand.tmp 52, Operand.tmp 60], argTypes := #[29, 82] }, type := 29, pos := "ref.go:137", after := #[{ on := 0, ground := Ground.data }, { on := 8, ground := Ground.data }], guard := none } : Oper) (by kernel_rfl) rfl (fun K hK => ?_)
                  go_simp
                  (go_at_call 47; (refine (rwith_any (boxF F w) _ d2 (some ⟨w5.heap.size + 1, 0, none⟩) kq (some ⟨w5.heap.size + 1 + 1, 0, none⟩) kq (some ⟨w5.heap.size, 0, none⟩) kq (newF s kq) _ HM2.out.foot (HM2.out.rd.re HL2.out) ⟨_, _, _, rfl, HX3.out, HX5.out, HX7.out⟩ HLN.out).mono ?_); rintro e w8 ⟨v8, rfl, hr8, hb⟩; have HS8 := Lib.hid (HM2.out.next hb); obtain ⟨a7, n7, c7, rfl, _⟩ := hr8.agg; have HR8 := Lib.hid hr8)
                  refine hK.out _ _ ?_ (fun hS1 => ?_)
                  · (first | exact hS | exact hS.next hb | exact hN)
                  clear hK K hS; have hS := hS1; clear hS1
                  (try simp only [Act.put, List.setIfInBounds_toArray, List.set_cons_zero, List.set_cons_succ])
                  refine rg_one 10 ({ dst := none, op := Op.store 29 (Operand.tmp 6) (Operand.tmp 61), type := 0, pos := "ref.go:137", after := #[{ on := 9, ground := Ground.data }, { on := 9, ground := Ground.chain }, { on := 0, ground := Ground.phase }, { on := 1, ground := Ground.phase }, { on := 2, ground := Ground.phase }, { on := 3, ground := Ground.phase }, { on := 4, ground := Ground.phase }, { on := 5, ground := Ground.phase }, { on := 6, ground := Ground.phase }, { on := 7, ground := Ground.phase }, { on := 8, ground := Ground.phase }, { on := 9, ground := Ground.phase }], guard := none } : Oper) (by kernel_rfl) rfl (fun K hK => ?_)
                  rw [if_pos (by rfl)]; refine wp_store_row 29 (.tmp 6) (.tmp 61) rfl (w.heap.size + 1) #[.slice a7 n7 c7, .int .i64 (d2.withF (newF s kq)).cap, .int .i64 (d2.withF (newF s kq)).ops, .bool (d2.withF (newF s kq)).down, .bool (d2.withF (newF s kq)).told, .int .i64 (d2.withF (newF s kq)).after] rfl rfl _ dz HS8.out.d1.1 disk_info (by rfl) (by simp [Value.oneCell']) ?_; have hN := hS.over (w.heap.size + 1) (by have := HS4.out.size; omega) #[.slice a7 n7 c7, .int .i64 (d2.withF (newF s kq)).cap, .int .i64 (d2.withF (newF s kq)).ops, .bool (d2.withF (newF s kq)).down, .bool (d2.withF (newF s kq)).told, .int .i64 (d2.withF (newF s kq)).after]
                  refine hK.out _ _ ?_ (fun hS1 => ?_)
                  · (first | exact hS | exact hS.next hb | exact hN)
                  clear hK K hS; have hS := hS1; clear hS1
                  (try simp only [Act.put])
                  refine wpAnyH_take (i := 11) (oi := ({ dst := some 7, op := Op.assign (Operand.const (Value.int IntKind.i64 0)), type := 45, pos := "ref.go:137", after := #[{ on := 10, ground := Ground.chain }, { on := 0, ground := Ground.phase }, { on := 1, ground := Ground.phase }, { on := 2, ground := Ground.phase }, { on := 3, ground := Ground.phase }, { on := 4, ground := Ground.phase }, { on := 5, ground := Ground.phase }, { on := 6, ground := Ground.phase }, { on := 7, ground := Ground.phase }, { on := 8, ground := Ground.phase }, { on := 9, ground := Ground.phase }, { on := 10, ground := Ground.phase }], guard := none } : Oper)) (v := ?_) rfl (by kernel_rfl) (by kernel_rfl) (by kernel_rfl) (fun _ _ _ h => h) (Or.inl ⟨by rfl, ?_⟩) hS ?_
                  rotate_left
                  · (intro w hSw; (try dsimp only at hSw); go_simp; try with_reducible rfl)
                  (try simp only [Act.put, List.setIfInBounds_toArray, List.set_cons_zero, List.set_cons_succ])
                  refine wpAnyH_done (by kernel_rfl) ?_ _
                  clear hS
                  go_wp2
                  obtain ⟨e1, e2, e3⟩ := HS8.out.done (cs' := #[.slice a7 n7 c7, .int .i64 (d2.withF (newF s kq)).cap, .int .i64 (d2.withF (newF s kq)).ops, .bool (d2.withF (newF s kq)).down, .bool (d2.withF (newF s kq)).told, .int .i64 (d2.withF (newF s kq)).after]) HR8.out rfl
                  exact bodyPost_ret_by (results_row_tmp rfl _ _ (w.heap.size + 1) _ rfl (disk_load e1.1 rfl)) rfl ⟨_, rfl, e2, e3⟩
                · skip
                  go_simp
                  (have hb : Below (w5.alloc (.cells (Array.replicate kq (Value.bool false)) 4)).drew.heap.size (w5.alloc (.cells (Array.replicate kq (Value.bool false)) 4)).drew ((w5.alloc (.cells (Array.replicate kq (Value.bool false)) 4)).alloc (.cells (il .u8 (List.replicate (kq * 64) 0)).toArray 67)).drew := below_drew_alloc (w5.alloc (.cells (Array.replicate kq (Value.bool false)) 4)) (.cells (il .u8 (List.replicate (kq * 64) 0)).toArray 67); have HM1 := Lib.hid (HM0.out.next hb); have hm := (FS.new (F := boxF F w) (w := (w5.alloc (.cells (Array.replicate kq (Value.bool false)) 4))) (HM0.out.foot) kq (List.replicate (kq * 64) 0) (by simp) (by omega) 67).kin (kin_drew _ _); rw [alloc_size] at hm; have HX5 := Lib.hid hm; clear hm; replace HX7 := Lib.hid (HX7.out.kin (kin_mask hb)))
                  refine hK.out _ _ ?_ (fun hS1 => ?_)
                  · (first | exact hS | exact hS.next hb | exact hN)
                  clear hK K hS; have hS := hS1; clear hS1
                  (try simp only [Act.put, List.setIfInBounds_toArray, List.set_cons_zero, List.set_cons_succ])
                  refine rg_one 3 ({ dst := some 55, op := Op.makeSlice 42 (Operand.tmp 54) (Operand.tmp 54), type := 42, pos := "ref.go:137", after := #[{ on := 2, ground := Ground.data }, { on := 2, ground := Ground.data }], guard := none } : Oper) (by kernel_rfl) rfl (fun K hK => ?_)
                  go_simp
                  (have hb : Below ((w5.alloc (.cells (Array.replicate kq (Value.bool false)) 4)).alloc (.cells (il .u8 (List.replicate (kq * 64) 0)).toArray 67)).drew.heap.size ((w5.alloc (.cells (Array.replicate kq (Value.bool false)) 4)).alloc (.cells (il .u8 (List.replicate (kq * 64) 0)).toArray 67)).drew (((w5.alloc (.cells (Array.replicate kq (Value.bool false)) 4)).alloc (.cells (il .u8 (List.replicate (kq * 64) 0)).toArray 67)).alloc (.cells (il .u8 (List.replicate (kq * 64) 0)).toArray 67)).drew := below_drew_alloc ((w5.alloc (.cells (Array.replicate kq (Value.bool false)) 4)).alloc (.cells (il .u8 (List.replicate (kq * 64) 0)).toArray 67)) (.cells (il .u8 (List.replicate (kq * 64) 0)).toArray 67); have HM2 := Lib.hid (HM1.out.next hb); have hm := (FS.new (F := boxF F w) (w := ((w5.alloc (.cells (Array.replicate kq (Value.bool false)) 4)).alloc (.cells (il .u8 (List.replicate (kq * 64) 0)).toArray 67))) (HM1.out.foot) kq (List.replicate (kq * 64) 0) (by simp) (by omega) 67).kin (kin_drew _ _); rw [alloc_size, alloc_size] at hm; have HX3 := Lib.hid hm; clear hm; replace HX7 := Lib.hid (HX7.out.kin (kin_mask hb)); replace HX5 := Lib.hid (HX5.out.kin (kin_mask hb)))
                  refine hK.out _ _ ?_ (fun hS1 => ?_)
                  · (first | exact hS | exact hS.next hb | exact hN)
                  clear hK K hS; have hS := hS1; clear hS1
                  (try simp only [Act.put, List.setIfInBounds_toArray, List.set_cons_zero, List.set_cons_succ])
                  refine wpAnyH_take (i := 8) (oi := ({ dst := some 60, op := Op.build 82 #[(0, Operand.tmp 53), (1, Operand.tmp 55), (2, Operand.tmp 57), (3, Operand.tmp 59)], type := 82, pos := "ref.go:137", after := #[{ on := 1, ground := Ground.data }, { on := 3, ground := Ground.data }, { on := 5, ground := Ground.data }, { on := 7, ground := Ground.data }], guard := none } : Oper)) (v := ?_) rfl (by kernel_rfl) (by kernel_rfl) (by kernel_rfl) (fun _ _ _ h => h) (Or.inl ⟨by rfl, ?_⟩) hS ?_
                  rotate_left
                  · (intro w hSw; (try dsimp only at hSw); go_simp; try with_reducible rfl)
                  (try simp only [Act.put, List.setIfInBounds_toArray, List.set_cons_zero, List.set_cons_succ])
                  refine rg_one 9 ({ dst := some 61, op := Op.call { callee := Callee.value (Operand.func 47), args := #[Operand.tmp 52, Operand.tmp 60], argTypes := #[29, 82] }, type := 29, pos := "ref.go:137", after := #[{ on := 0, ground := Ground.data }, { on := 8, ground := Ground.data }], guard := none } : Oper) (by kernel_rfl) rfl (fun K hK => ?_)
                  go_simp
                  (go_at_call 47; (refine (rwith_any (boxF F w) _ d2 (some ⟨w5.heap.size + 1 + 1, 0, none⟩) kq (some ⟨w5.heap.size + 1, 0, none⟩) kq (some ⟨w5.heap.size, 0, none⟩) kq (newF s kq) _ HM2.out.foot (HM2.out.rd.re HL2.out) ⟨_, _, _, rfl, HX3.out, HX5.out, HX7.out⟩ HLN.out).mono ?_); rintro e w8 ⟨v8, rfl, hr8, hb⟩; have HS8 := Lib.hid (HM2.out.next hb); obtain ⟨a7, n7, c7, rfl, _⟩ := hr8.agg; have HR8 := Lib.hid hr8)
                  refine hK.out _ _ ?_ (fun hS1 => ?_)
                  · (first | exact hS | exact hS.next hb | exact hN)
                  clear hK K hS; have hS := hS1; clear hS1
                  (try simp only [Act.put, List.setIfInBounds_toArray, List.set_cons_zero, List.set_cons_succ])
                  refine rg_one 10 ({ dst := none, op := Op.store 29 (Operand.tmp 6) (Operand.tmp 61), type := 0, pos := "ref.go:137", after := #[{ on := 9, ground := Ground.data }, { on := 9, ground := Ground.chain }, { on := 0, ground := Ground.phase }, { on := 1, ground := Ground.phase }, { on := 2, ground := Ground.phase }, { on := 3, ground := Ground.phase }, { on := 4, ground := Ground.phase }, { on := 5, ground := Ground.phase }, { on := 6, ground := Ground.phase }, { on := 7, ground := Ground.phase }, { on := 8, ground := Ground.phase }, { on := 9, ground := Ground.phase }], guard := none } : Oper) (by kernel_rfl) rfl (fun K hK => ?_)
                  rw [if_pos (by rfl)]; refine wp_store_row 29 (.tmp 6) (.tmp 61) rfl (w.heap.size + 1) #[.slice a7 n7 c7, .int .i64 (d2.withF (newF s kq)).cap, .int .i64 (d2.withF (newF s kq)).ops, .bool (d2.withF (newF s kq)).down, .bool (d2.withF (newF s kq)).told, .int .i64 (d2.withF (newF s kq)).after] rfl rfl _ dz HS8.out.d1.1 disk_info (by rfl) (by simp [Value.oneCell']) ?_; have hN := hS.over (w.heap.size + 1) (by have := HS4.out.size; omega) #[.slice a7 n7 c7, .int .i64 (d2.withF (newF s kq)).cap, .int .i64 (d2.withF (newF s kq)).ops, .bool (d2.withF (newF s kq)).down, .bool (d2.withF (newF s kq)).told, .int .i64 (d2.withF (newF s kq)).after]
                  refine hK.out _ _ ?_ (fun hS1 => ?_)
                  · (first | exact hS | exact hS.next hb | exact hN)
                  clear hK K hS; have hS := hS1; clear hS1
                  (try simp only [Act.put])
                  refine wpAnyH_take (i := 11) (oi := ({ dst := some 7, op := Op.assign (Operand.const (Value.int IntKind.i64 0)), type := 45, pos := "ref.go:137", after := #[{ on := 10, ground := Ground.chain }, { on := 0, ground := Ground.phase }, { on := 1, ground := Ground.phase }, { on := 2, ground := Ground.phase }, { on := 3, ground := Ground.phase }, { on := 4, ground := Ground.phase }, { on := 5, ground := Ground.phase }, { on := 6, ground := Ground.phase }, { on := 7, ground := Ground.phase }, { on := 8, ground := Ground.phase }, { on := 9, ground := Ground.phase }, { on := 10, ground := Ground.phase }], guard := none } : Oper)) (v := ?_) rfl (by kernel_rfl) (by kernel_rfl) (by kernel_rfl) (fun _ _ _ h => h) (Or.inl ⟨by rfl, ?_⟩) hS ?_
                  rotate_left
                  · (intro w hSw; (try dsimp only at hSw); go_simp; try with_reducible rfl)
                  (try simp only [Act.put, List.setIfInBounds_toArray, List.set_cons_zero, List.set_cons_succ])
                  refine wpAnyH_done (by kernel_rfl) ?_ _
                  clear hS
                  go_wp2
                  obtain ⟨e1, e2, e3⟩ := HS8.out.done (cs' := #[.slice a7 n7 c7, .int .i64 (d2.withF (newF s kq)).cap, .int .i64 (d2.withF (newF s kq)).ops, .bool (d2.withF (newF s kq)).down, .bool (d2.withF (newF s kq)).told, .int .i64 (d2.withF (newF s kq)).after]) HR8.out rfl
                  exact bodyPost_ret_by (results_row_tmp rfl _ _ (w.heap.size + 1) _ rfl (disk_load e1.1 rfl)) rfl ⟨_, rfl, e2, e3⟩
            · rw [AD.opR_not d _ ho]
              have h9 : d.ope = 9 := d.ope_or.resolve_left ho
              rw [h9] at HOP
              have HL2 := Lib.hid (AD.opd_L d)
              obtain ⟨d2, hd2⟩ : ∃ d2, d.opd = d2 := ⟨_, rfl⟩
              rw [hd2] at HOP HL2 ⊢
              have HLN := Lib.hid (show d2.L.length ≤ 1000000 from by rw [HL2.out]; exact hn1)
              clear ho hn1 hd2 hd h9
              go_enter Try.func31, Try.ntmps31
              go_wp2_with (first
                | (refine wpList_load_row rfl 29 _ rfl w.heap.size rfl _ _ (0, 0) _ HS3.out.d0.1 Try.underlying29 rfl HS3.out.d0.info ?_)
                | (refine wpList_load_row rfl 29 _ rfl w.heap.size rfl _ _ (0, 0) _ HS.out.d0.1 Try.underlying29 rfl HS.out.d0.info ?_)
                | (go_at_call 62; (with_reducible refine (rright_any s _ hss).mono ?_); rintro e w' ⟨rfl, rfl⟩; rw [HRT.out])
                | (go_at_call 63; (with_reducible refine (HFD.out _ (HS.out.rd.kin (unmask _ _))).mono ?_); rintro e w3 ⟨rfl, hb⟩; have HS3 := Lib.hid (HS.out.next hb); clear hb))
              refine wp_region_held_drew (S := (fun W' => DB W' w.heap.size #[.slice a n cap, .int .i64 d.cap, .int .i64 d.ops, .bool false, .bool d.told, .int .i64 d.after])) (by kernel_rfl) (HS3.out.d0.next (Below.refl _ _).drew) (fun hS => ?_)
              refine wpAnyH_take (i := 0) (oi := ({ dst := some 29, op := Op.load 29 (Operand.tmp 3), type := 29, pos := "ref.go:130", after := #[], guard := none } : Oper)) (v := ?_) rfl (by kernel_rfl) (by kernel_rfl) (by kernel_rfl) (fun _ _ _ h => h) (Or.inl ⟨by rfl, ?_⟩) hS ?_
              rotate_left
              · (intro w hSw; (try dsimp only at hSw); refine exec_load_db (.tmp 3) ?_ ?_ hSw <;> rfl)
              (try simp only [Act.put, List.setIfInBounds_toArray, List.set_cons_zero, List.set_cons_succ])
              refine wpAnyH_take (i := 2) (oi := ({ dst := some 31, op := Op.move (Operand.tmp 2), type := 3, pos := "ref.go:130", after := #[], guard := none } : Oper)) (v := ?_) rfl (by kernel_rfl) (by kernel_rfl) (by kernel_rfl) (fun _ _ _ h => h) (Or.inl ⟨by rfl, ?_⟩) hS ?_
              rotate_left
              · (intro w hSw; (try dsimp only at hSw); go_simp; try with_reducible rfl)
              (try simp only [Act.put, List.setIfInBounds_toArray, List.set_cons_zero, List.set_cons_succ])
              refine wpAnyH_take (i := 4) (oi := ({ dst := some 33, op := Op.fieldAddr 29 (Operand.tmp 3) 1, type := 0, pos := "ref.go:130", after := #[], guard := none } : Oper)) (v := ?_) rfl (by kernel_rfl) (by kernel_rfl) (by kernel_rfl) (fun _ _ _ h => h) (Or.inl ⟨by rfl, ?_⟩) hS ?_
              rotate_left
              · (intro w hSw; (try dsimp only at hSw); obtain ⟨z0, z1, z2, z3, z4, z5⟩ := hSw.six; go_simp; try with_reducible rfl)
              (try simp only [Act.put, List.setIfInBounds_toArray, List.set_cons_zero, List.set_cons_succ])
              refine wpAnyH_take (i := 5) (oi := ({ dst := some 34, op := Op.load 3 (Operand.tmp 33), type := 3, pos := "ref.go:130", after := #[{ on := 4, ground := Ground.data }], guard := none } : Oper)) (v := ?_) rfl (by kernel_rfl) (by kernel_rfl) (by kernel_rfl) (fun _ _ _ h => h) (Or.inl ⟨by rfl, ?_⟩) hS ?_
              rotate_left
              · (intro w hSw; (try dsimp only at hSw); obtain ⟨z0, z1, z2, z3, z4, z5⟩ := hSw.six; go_simp; try with_reducible rfl)
              (try simp only [Act.put, List.setIfInBounds_toArray, List.set_cons_zero, List.set_cons_succ])
              refine rg_one 1 ({ dst := some 30, op := Op.call { callee := Callee.value (Operand.func 41), args := #[Operand.tmp 29], argTypes := #[29] }, type := 3, pos := "ref.go:130", after := #[{ on := 0, ground := Ground.data }], guard := none } : Oper) (by kernel_rfl) rfl (fun K hK => ?_)
              go_simp
              (go_at_call 41; (with_reducible refine (HUS.out _ (HS3.out.rd.kin ((unmask _ _).trans (Kin.below (Below.refl _ _).drew)))).mono ?_); rintro e w3b ⟨rfl, hb⟩; have HS3b := Lib.hid ((HS3.out.next (Below.refl _ _).drew).next hb))
              refine hK.out _ _ ?_ (fun hS1 => ?_)
              · (first | exact hS | exact hS.next hb)
              clear hK K hS; have hS := hS1; clear hS1
              (try simp only [Act.put, List.setIfInBounds_toArray, List.set_cons_zero, List.set_cons_succ])
              refine wpAnyH_take (i := 3) (oi := ({ dst := some 32, op := Op.binOp BinOp.add 3 (Operand.tmp 30) (Operand.tmp 31) 3, type := 3, pos := "ref.go:130", after := #[{ on := 1, ground := Ground.data }, { on := 2, ground := Ground.data }], guard := none } : Oper)) (v := ?_) rfl (by kernel_rfl) (by kernel_rfl) (by kernel_rfl) (fun _ _ _ h => h) (Or.inl ⟨by rfl, ?_⟩) hS ?_
              rotate_left
              · (intro w hSw; (try dsimp only at hSw); go_simp; try with_reducible rfl)
              (try simp only [Act.put, List.setIfInBounds_toArray, List.set_cons_zero, List.set_cons_succ])
              refine wpAnyH_take (i := 6) (oi := ({ dst := some 35, op := Op.binOp BinOp.gtr 3 (Operand.tmp 32) (Operand.tmp 34) 3, type := 4, pos := "ref.go:130", after := #[{ on := 3, ground := Ground.data }, { on := 5, ground := Ground.data }], guard := none } : Oper)) (v := ?_) rfl (by kernel_rfl) (by kernel_rfl) (by kernel_rfl) (fun _ _ _ h => h) (Or.inl ⟨by rfl, ?_⟩) hS ?_
              rotate_left
              · (intro w hSw; (try dsimp only at hSw); go_simp; (try rw [HDC.out]); try with_reducible rfl)
              (try simp only [Act.put, List.setIfInBounds_toArray, List.set_cons_zero, List.set_cons_succ])
              refine wpAnyH_take (i := 7) (oi := ({ dst := some 36, op := Op.move (Operand.tmp 35), type := 4, pos := "ref.go:130", after := #[{ on := 6, ground := Ground.data }, { on := 1, ground := Ground.chain }], guard := none } : Oper)) (v := ?_) rfl (by kernel_rfl) (by kernel_rfl) (by kernel_rfl) (fun _ _ _ h => h) (Or.inl ⟨by rfl, ?_⟩) hS ?_
              rotate_left
              · (intro w hSw; (try dsimp only at hSw); go_simp; try with_reducible rfl)
              (try simp only [Act.put, List.setIfInBounds_toArray, List.set_cons_zero, List.set_cons_succ])
              refine wpAnyH_take (i := 8) (oi := ({ dst := some 37, op := Op.fieldAddr 29 (Operand.tmp 3) 0, type := 0, pos := "ref.go:130", after := #[{ on := 7, ground := Ground.guard }], guard := some (7, false) } : Oper)) (v := ?_) rfl (by kernel_rfl) (by kernel_rfl) (by kernel_rfl) (fun _ _ _ h => h) (Or.inl ⟨by rfl, ?_⟩) hS ?_
              rotate_left
              · (intro w hSw; (try dsimp only at hSw); obtain ⟨z0, z1, z2, z3, z4, z5⟩ := hSw.six; go_simp; try with_reducible rfl)
              (try simp only [Act.put, List.setIfInBounds_toArray, List.set_cons_zero, List.set_cons_succ])
              refine wpAnyH_take (i := 9) (oi := ({ dst := some 38, op := Op.load 27 (Operand.tmp 37), type := 27, pos := "ref.go:130", after := #[{ on := 8, ground := Ground.data }, { on := 7, ground := Ground.guard }], guard := some (7, false) } : Oper)) (v := ?_) rfl (by kernel_rfl) (by kernel_rfl) (by kernel_rfl) (fun _ _ _ h => h) (Or.inl ⟨by rfl, ?_⟩) hS ?_
              rotate_left
              · (intro w hSw; (try dsimp only at hSw); obtain ⟨z0, z1, z2, z3, z4, z5⟩ := hSw.six; go_simp; try with_reducible rfl)
              (try simp only [Act.put, List.setIfInBounds_toArray, List.set_cons_zero, List.set_cons_succ])
              refine wpAnyH_take (i := 10) (oi := ({ dst := some 39, op := Op.call { callee := Callee.builtin Builtin.len, args := #[Operand.tmp 38], argTypes := #[27] }, type := 3, pos := "ref.go:130", after := #[{ on := 9, ground := Ground.data }, { on := 7, ground := Ground.guard }], guard := some (7, false) } : Oper)) (v := ?_) rfl (by kernel_rfl) (by kernel_rfl) (by kernel_rfl) (fun _ _ _ h => h) (Or.inl ⟨by rfl, ?_⟩) hS ?_
              rotate_left
              · (intro w hSw; (try dsimp only at hSw); obtain ⟨z0, z1, z2, z3, z4, z5⟩ := hSw.six; go_simp; try with_reducible rfl)
              (try simp only [Act.put, List.setIfInBounds_toArray, List.set_cons_zero, List.set_cons_succ])
              refine wpAnyH_take (i := 11) (oi := ({ dst := some 40, op := Op.binOp BinOp.geq 3 (Operand.tmp 39) (Operand.const (Value.int IntKind.i64 64)) 3, type := 4, pos := "ref.go:130", after := #[{ on := 10, ground := Ground.data }, { on := 7, ground := Ground.guard }], guard := some (7, false) } : Oper)) (v := ?_) rfl (by kernel_rfl) (by kernel_rfl) (by kernel_rfl) (fun _ _ _ h => h) (Or.inl ⟨by rfl, ?_⟩) hS ?_
              rotate_left
              · (intro w hSw; (try dsimp only at hSw); obtain ⟨z0, z1, z2, z3, z4, z5⟩ := hSw.six; go_simp; try with_reducible rfl)
              (try simp only [Act.put, List.setIfInBounds_toArray, List.set_cons_zero, List.set_cons_succ])
              refine wpAnyH_take (i := 12) (oi := ({ dst := some 41, op := Op.pick (Operand.tmp 36) (Operand.const (Value.bool true)) (Operand.tmp 40), type := 4, pos := "ref.go:130", after := #[{ on := 7, ground := Ground.data }, { on := 11, ground := Ground.data }], guard := none } : Oper)) (v := ?_) rfl (by kernel_rfl) (by kernel_rfl) (by kernel_rfl) (fun _ _ _ h => h) (Or.inl ⟨by rfl, ?_⟩) hS ?_
              rotate_left
              · (intro w hSw; (try dsimp only at hSw); go_simp; try with_reducible rfl)
              (try simp only [Act.put, List.setIfInBounds_toArray, List.set_cons_zero, List.set_cons_succ])
              refine wpAnyH_done (by kernel_rfl) ?_ _
              clear hS
              go_wp2_with (first
                | (refine wpList_load_row rfl 29 _ rfl w.heap.size rfl _ _ (0, 0) _ HS3b.out.d0.1 Try.underlying29 rfl HS3b.out.d0.info ?_)
                | (go_at_call 64; (with_reducible refine (HOP.out _).mono ?_); rintro e w4 ⟨rfl, hb⟩; have HS4 := Lib.hid (HS3b.out.next hb); clear hb)
                | (refine wpl_store_newD rfl _ _ rfl rfl w4.heap.size rfl #[.slice a n cap, .int .i64 d2.cap, .int .i64 d2.ops, .bool d2.down, .bool d2.told, .int .i64 d2.after] rfl (by simp [Value.oneCell']) rfl rfl ?_; intro w5 HX5 hb5; have HS5 := Lib.hid (HS4.out.next hb5.out); clear hb5)
                | (refine wpList_load_row rfl 29 _ rfl w4.heap.size rfl _ _ (0, 0) _ HX5.out.1 Try.underlying29 rfl HX5.out.info ?_)
                | (refine wpList_store_row rfl 29 _ _ rfl (w.heap.size + 1) #[.slice a n cap, .int .i64 d2.cap, .int .i64 d2.ops, .bool d2.down, .bool d2.told, .int .i64 d2.after] rfl rfl _ dz HS5.out.d1.1 disk_info (by rfl) (by simp [Value.oneCell']) ?_))
              obtain ⟨e1, e2, e3⟩ := HS5.out.done (cs' := #[.slice a n cap, .int .i64 d2.cap, .int .i64 d2.ops, .bool d2.down, .bool d2.told, .int .i64 d2.after]) (HS5.out.rd.re HL2.out) rfl
              exact bodyPost_ret_by (results_row_tmp rfl _ _ (w.heap.size + 1) _ rfl (disk_load e1.1 rfl)) rfl ⟨_, rfl, e2, e3⟩
end Go.Proofs.Ytpnialanmidekaa
