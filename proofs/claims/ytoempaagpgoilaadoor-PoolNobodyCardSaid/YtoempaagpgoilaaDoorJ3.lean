/-
  TEXTS JOINED: DiskMake, SecsB, DiskSecs, Mix, DiskMix, DiskLay, PutMath. Each one's own words stand at its head.
-/
import Derived.Test.YtoempaagpgoilaaDoorJ2
import Derived.Test.YtoempaagpgoilaaDoorJ1
import Derived.Great.BuildSlice
import Derived.Test.YtoempaagpgoilaaDoorJ0
/-
  WHAT THE DOCUMENT'S ANSWERS OF LAYER 8 (disk) ANSWER: the reference's Make.
-/
namespace Go.Proofs.YtoempaagpgoilaaDoor
open Go.RowKit
set_option maxRecDepth 8000 in
set_option maxHeartbeats 4000000 in
theorem rmake_any (F : Nat → Bool) (vd : Value) (d : AD) (s : ByteArray) (k : Int) (w : World) (hF : Foot F w.heap.size) (h : RD (mask F w) vd d) (hn1 : d.L.length ≤ 1000000) (hu : usedN d.L ≤ 1000000000000) (hss : s.size ≤ 281474976710656) (hk63 : I63 k) :
    Calls Tryd.prog 17 #[vd, .string s, .int .i64 k] w fun e w' => ∃ v', e = .returned (.tuple #[v', .int .i64 (d.makeR s k).2]) ∧ RD (mask F w') v' (d.makeR s k).1 ∧ Below w.heap.size w w' := by
  obtain ⟨a, n, cap, rfl, hn, hc1, hc2⟩ := h.agg
  have hst := St.start hF rfl h
  obtain ⟨W2, hW2⟩ : ∃ W2, (w.alloc (.cells #[.slice a n cap, .int .i64 d.cap, .int .i64 d.ops, .bool d.down, .bool d.told, .int .i64 d.after] 28)).alloc (.cells #[.slice none 0 0, .int .i64 0, .int .i64 0, .bool false, .bool false, .int .i64 0] 28) = W2 := ⟨_, rfl⟩
  rw [hW2] at hst
  have HS := Lib.hid hst
  have HN := Lib.hid hn
  obtain ⟨q0, q1, q2, q3, q4, q5⟩ := hst.d0.six
  clear hst hn h hF
  unfold I63 at hk63
  unfold AD.makeR
  by_cases hd : d.down = true
  · rw [if_pos hd]
    simp only [hd] at q3 hW2 HS ⊢
    clear hd
    go_enter Tryd.func17, Tryd.ntmps17
    go_wp2_with (first
      | (refine wpList_load_row rfl 28 _ rfl w.heap.size rfl _ _ (0, 0) _ HS.out.d0.1 Tryd.underlying28 rfl HS.out.d0.info ?_)
      | (refine wpList_store_row rfl 28 _ _ rfl (w.heap.size + 1) #[.slice a n cap, .int .i64 d.cap, .int .i64 d.ops, .bool true, .bool d.told, .int .i64 d.after] rfl rfl _ dz HS.out.d1.1 disk_info (by rfl) (by simp [Value.oneCell']) ?_))
    obtain ⟨e1, e2, e3⟩ := HS.out.done (cs' := #[.slice a n cap, .int .i64 d.cap, .int .i64 d.ops, .bool true, .bool d.told, .int .i64 d.after]) HS.out.rd rfl
    exact bodyPost_ret_by (results_row_tmp rfl _ _ (w.heap.size + 1) _ rfl (disk_load e1.1 rfl)) rfl ⟨_, rfl, e2, e3⟩
  · rw [if_neg hd]
    rw [Bool.not_eq_true] at hd
    simp only [hd] at q3 hW2 HS ⊢
    obtain ⟨i, hi⟩ : ∃ i, findI d.L s = i := ⟨_, rfl⟩
    have HFD := Lib.hid fun W (hw : RD W (.agg #[.slice a n cap, .int .i64 d.cap, .int .i64 d.ops, .bool false, .bool d.told, .int .i64 d.after]) d) => rfind_any (.agg #[.slice a n cap, .int .i64 d.cap, .int .i64 d.ops, .bool false, .bool d.told, .int .i64 d.after]) d s W hw
    rw [hi] at HFD
    have HOP := Lib.hid fun W => rop_any a n cap d W
    unfold dv at HOP
    simp only [hd] at HOP
    cases hr : rightB s with
    | false =>
      rw [if_pos rfl]
      have HRT : Hid (nameN s.data.toList = false) := Lib.hid hr
      clear hr hd
      go_enter Tryd.func17, Tryd.ntmps17
      go_wp2_with (first
        | (refine wpList_load_row rfl 28 _ rfl w.heap.size rfl _ _ (0, 0) _ HS3.out.d0.1 Tryd.underlying28 rfl HS3.out.d0.info ?_)
        | (refine wpList_load_row rfl 28 _ rfl w.heap.size rfl _ _ (0, 0) _ HS.out.d0.1 Tryd.underlying28 rfl HS.out.d0.info ?_)
        | (go_at_call 37; (with_reducible refine (rright_any s _ hss).mono ?_); rintro e w' ⟨rfl, rfl⟩; rw [HRT.out])
        | (go_at_call 38; (with_reducible refine (HFD.out _ (HS.out.rd.kin (unmask _ _))).mono ?_); rintro e w3 ⟨rfl, hb⟩; have HS3 := Lib.hid (HS.out.next hb); clear hb)
        | (refine wpList_store_row rfl 28 _ _ rfl (w.heap.size + 1) #[.slice a n cap, .int .i64 d.cap, .int .i64 d.ops, .bool false, .bool d.told, .int .i64 d.after] rfl rfl _ dz HS.out.d1.1 disk_info (by rfl) (by simp [Value.oneCell']) ?_))
      obtain ⟨e1, e2, e3⟩ := HS.out.done (cs' := #[.slice a n cap, .int .i64 d.cap, .int .i64 d.ops, .bool false, .bool d.told, .int .i64 d.after]) HS.out.rd rfl
      exact bodyPost_ret_by (results_row_tmp rfl _ _ (w.heap.size + 1) _ rfl (disk_load e1.1 rfl)) rfl ⟨_, rfl, e2, e3⟩
    | true =>
      rw [if_neg (by simp)]
      have HRT : Hid (nameN s.data.toList = true) := Lib.hid hr
      clear hr
      by_cases hh : d.has s
      · rw [if_pos hh]
        have hi0 : ¬ i < 0 := by rw [← hi, AD.find_neg]; simpa using hh
        clear hi hh hd
        go_enter Tryd.func17, Tryd.ntmps17
        go_wp2_with (first
          | (refine wpList_load_row rfl 28 _ rfl w.heap.size rfl _ _ (0, 0) _ HS3.out.d0.1 Tryd.underlying28 rfl HS3.out.d0.info ?_)
          | (refine wpList_load_row rfl 28 _ rfl w.heap.size rfl _ _ (0, 0) _ HS.out.d0.1 Tryd.underlying28 rfl HS.out.d0.info ?_)
          | (go_at_call 37; (with_reducible refine (rright_any s _ hss).mono ?_); rintro e w' ⟨rfl, rfl⟩; rw [HRT.out])
          | (go_at_call 38; (with_reducible refine (HFD.out _ (HS.out.rd.kin (unmask _ _))).mono ?_); rintro e w3 ⟨rfl, hb⟩; have HS3 := Lib.hid (HS.out.next hb); clear hb)
          | (refine wpList_store_row rfl 28 _ _ rfl (w.heap.size + 1) #[.slice a n cap, .int .i64 d.cap, .int .i64 d.ops, .bool false, .bool d.told, .int .i64 d.after] rfl rfl _ dz HS3.out.d1.1 disk_info (by rfl) (by simp [Value.oneCell']) ?_))
        obtain ⟨e1, e2, e3⟩ := HS3.out.done (cs' := #[.slice a n cap, .int .i64 d.cap, .int .i64 d.ops, .bool false, .bool d.told, .int .i64 d.after]) HS3.out.rd rfl
        exact bodyPost_ret_by (results_row_tmp rfl _ _ (w.heap.size + 1) _ rfl (disk_load e1.1 rfl)) rfl ⟨_, rfl, e2, e3⟩
      · rw [if_neg hh]
        have hi0 : i < 0 := by rw [← hi, AD.find_neg]; exact hh
        clear hi hh
        by_cases hk1 : k < 1
        · rw [if_pos (.inl hk1)]
          clear hd
          go_enter Tryd.func17, Tryd.ntmps17
          go_wp2_with (first
            | (refine wpList_load_row rfl 28 _ rfl w.heap.size rfl _ _ (0, 0) _ HS3.out.d0.1 Tryd.underlying28 rfl HS3.out.d0.info ?_)
            | (refine wpList_load_row rfl 28 _ rfl w.heap.size rfl _ _ (0, 0) _ HS.out.d0.1 Tryd.underlying28 rfl HS.out.d0.info ?_)
            | (go_at_call 37; (with_reducible refine (rright_any s _ hss).mono ?_); rintro e w' ⟨rfl, rfl⟩; rw [HRT.out])
            | (go_at_call 38; (with_reducible refine (HFD.out _ (HS.out.rd.kin (unmask _ _))).mono ?_); rintro e w3 ⟨rfl, hb⟩; have HS3 := Lib.hid (HS.out.next hb); clear hb)
            | (refine wpList_store_row rfl 28 _ _ rfl (w.heap.size + 1) #[.slice a n cap, .int .i64 d.cap, .int .i64 d.ops, .bool false, .bool d.told, .int .i64 d.after] rfl rfl _ dz HS3.out.d1.1 disk_info (by rfl) (by simp [Value.oneCell']) ?_))
          obtain ⟨e1, e2, e3⟩ := HS3.out.done (cs' := #[.slice a n cap, .int .i64 d.cap, .int .i64 d.ops, .bool false, .bool d.told, .int .i64 d.after]) HS3.out.rd rfl
          exact bodyPost_ret_by (results_row_tmp rfl _ _ (w.heap.size + 1) _ rfl (disk_load e1.1 rfl)) rfl ⟨_, rfl, e2, e3⟩
        by_cases hk2 : 64 < k
        · rw [if_pos (.inr hk2)]
          clear hd
          go_enter Tryd.func17, Tryd.ntmps17
          go_wp2_with (first
            | (refine wpList_load_row rfl 28 _ rfl w.heap.size rfl _ _ (0, 0) _ HS3.out.d0.1 Tryd.underlying28 rfl HS3.out.d0.info ?_)
            | (refine wpList_load_row rfl 28 _ rfl w.heap.size rfl _ _ (0, 0) _ HS.out.d0.1 Tryd.underlying28 rfl HS.out.d0.info ?_)
            | (go_at_call 37; (with_reducible refine (rright_any s _ hss).mono ?_); rintro e w' ⟨rfl, rfl⟩; rw [HRT.out])
            | (go_at_call 38; (with_reducible refine (HFD.out _ (HS.out.rd.kin (unmask _ _))).mono ?_); rintro e w3 ⟨rfl, hb⟩; have HS3 := Lib.hid (HS.out.next hb); clear hb)
            | (refine wpList_store_row rfl 28 _ _ rfl (w.heap.size + 1) #[.slice a n cap, .int .i64 d.cap, .int .i64 d.ops, .bool false, .bool d.told, .int .i64 d.after] rfl rfl _ dz HS3.out.d1.1 disk_info (by rfl) (by simp [Value.oneCell']) ?_))
          obtain ⟨e1, e2, e3⟩ := HS3.out.done (cs' := #[.slice a n cap, .int .i64 d.cap, .int .i64 d.ops, .bool false, .bool d.told, .int .i64 d.after]) HS3.out.rd rfl
          exact bodyPost_ret_by (results_row_tmp rfl _ _ (w.heap.size + 1) _ rfl (disk_load e1.1 rfl)) rfl ⟨_, rfl, e2, e3⟩
        rw [if_neg (by omega)]
        obtain ⟨kq, rfl⟩ : ∃ kq : Nat, k = (kq : Int) := ⟨k.toNat, by omega⟩
        obtain ⟨u, hu1⟩ : ∃ u, usedN d.L = u := ⟨_, rfl⟩
        have HUS := Lib.hid fun W (hw : RD W (.agg #[.slice a n cap, .int .i64 d.cap, .int .i64 d.ops, .bool false, .bool d.told, .int .i64 d.after]) d) => rused_any (.agg #[.slice a n cap, .int .i64 d.cap, .int .i64 d.ops, .bool false, .bool d.told, .int .i64 d.after]) d W hw hu
        rw [hu1] at HUS hu
        have hwu : IntKind.i64.wrap ((u : Int) + (kq : Int)) = (u : Int) + (kq : Int) := IntWalk.i64_in _ (by omega)
        have hkk : (kq : Int) ≤ 64 := by omega
        rw [Int.toNat_natCast, hu1]
        by_cases hc : d.cap < (u : Int) + (kq : Int)
        · rw [if_pos (.inl hc)]
          have HDC := Lib.hid (show decide (d.cap < (u : Int) + (kq : Int)) = true from decide_eq_true hc)
          clear hd hu1
          go_enter Tryd.func17, Tryd.ntmps17
          go_wp2_with (first
            | (refine wpList_load_row rfl 28 _ rfl w.heap.size rfl _ _ (0, 0) _ HS3.out.d0.1 Tryd.underlying28 rfl HS3.out.d0.info ?_)
            | (refine wpList_load_row rfl 28 _ rfl w.heap.size rfl _ _ (0, 0) _ HS.out.d0.1 Tryd.underlying28 rfl HS.out.d0.info ?_)
            | (go_at_call 37; (with_reducible refine (rright_any s _ hss).mono ?_); rintro e w' ⟨rfl, rfl⟩; rw [HRT.out])
            | (go_at_call 38; (with_reducible refine (HFD.out _ (HS.out.rd.kin (unmask _ _))).mono ?_); rintro e w3 ⟨rfl, hb⟩; have HS3 := Lib.hid (HS.out.next hb); clear hb))
          refine wp_region_held_drew (S := (fun W' => DB W' w.heap.size #[.slice a n cap, .int .i64 d.cap, .int .i64 d.ops, .bool false, .bool d.told, .int .i64 d.after])) (by kernel_rfl) (HS3.out.d0.next (Below.refl _ _).drew) (fun hS => ?_)
          refine wpAnyH_take (i := 0) (oi := ({ dst := some 29, op := Op.load 28 (Operand.tmp 3), type := 28, pos := "ref.go:130", after := #[], guard := none } : Oper)) (v := ?_) rfl (by kernel_rfl) (by kernel_rfl) (by kernel_rfl) (fun _ _ _ h => h) (Or.inl ⟨by rfl, ?_⟩) hS ?_
          rotate_left
          · (intro w hSw; (try dsimp only at hSw); refine exec_load_db (.tmp 3) ?_ ?_ hSw <;> rfl)
          (try simp only [Act.put, List.setIfInBounds_toArray, List.set_cons_zero, List.set_cons_succ])
          refine wpAnyH_take (i := 2) (oi := ({ dst := some 31, op := Op.move (Operand.tmp 2), type := 3, pos := "ref.go:130", after := #[], guard := none } : Oper)) (v := ?_) rfl (by kernel_rfl) (by kernel_rfl) (by kernel_rfl) (fun _ _ _ h => h) (Or.inl ⟨by rfl, ?_⟩) hS ?_
          rotate_left
          · (intro w hSw; (try dsimp only at hSw); go_simp; try with_reducible rfl)
          (try simp only [Act.put, List.setIfInBounds_toArray, List.set_cons_zero, List.set_cons_succ])
          refine wpAnyH_take (i := 4) (oi := ({ dst := some 33, op := Op.fieldAddr 28 (Operand.tmp 3) 1, type := 0, pos := "ref.go:130", after := #[], guard := none } : Oper)) (v := ?_) rfl (by kernel_rfl) (by kernel_rfl) (by kernel_rfl) (fun _ _ _ h => h) (Or.inl ⟨by rfl, ?_⟩) hS ?_
          rotate_left
          · (intro w hSw; (try dsimp only at hSw); obtain ⟨z0, z1, z2, z3, z4, z5⟩ := hSw.six; go_simp; try with_reducible rfl)
          (try simp only [Act.put, List.setIfInBounds_toArray, List.set_cons_zero, List.set_cons_succ])
          refine wpAnyH_take (i := 5) (oi := ({ dst := some 34, op := Op.load 3 (Operand.tmp 33), type := 3, pos := "ref.go:130", after := #[{ on := 4, ground := Ground.data }], guard := none } : Oper)) (v := ?_) rfl (by kernel_rfl) (by kernel_rfl) (by kernel_rfl) (fun _ _ _ h => h) (Or.inl ⟨by rfl, ?_⟩) hS ?_
          rotate_left
          · (intro w hSw; (try dsimp only at hSw); obtain ⟨z0, z1, z2, z3, z4, z5⟩ := hSw.six; go_simp; try with_reducible rfl)
          (try simp only [Act.put, List.setIfInBounds_toArray, List.set_cons_zero, List.set_cons_succ])
          refine rg_one 1 ({ dst := some 30, op := Op.call { callee := Callee.value (Operand.func 39), args := #[Operand.tmp 29], argTypes := #[28] }, type := 3, pos := "ref.go:130", after := #[{ on := 0, ground := Ground.data }], guard := none } : Oper) (by kernel_rfl) rfl (fun K hK => ?_)
          go_simp
          (go_at_call 39; (with_reducible refine (HUS.out _ (HS3.out.rd.kin ((unmask _ _).trans (Kin.below (Below.refl _ _).drew)))).mono ?_); rintro e w3b ⟨rfl, hb⟩; have HS3b := Lib.hid ((HS3.out.next (Below.refl _ _).drew).next hb))
          refine hK.out _ _ ?_ (fun hS1 => ?_)
          · (first | exact hS | exact hS.next hb)
          clear hK K hS; have hS := hS1; clear hS1
          (try simp only [Act.put, List.setIfInBounds_toArray, List.set_cons_zero, List.set_cons_succ])
          refine wpAnyH_take (i := 3) (oi := ({ dst := some 32, op := Op.binOp BinOp.add 3 (Operand.tmp 30) (Operand.tmp 31) 3, type := 3, pos := "ref.go:130", after := #[{ on := 1, ground := Ground.data }, { on := 2, ground := Ground.data }], guard := none } : Oper)) (v := ?_) rfl (by kernel_rfl) (by kernel_rfl) (by kernel_rfl) (fun _ _ _ h => h) (Or.inl ⟨by rfl, ?_⟩) hS ?_
          rotate_left
          · (intro w hSw; (try dsimp only at hSw); go_simp; try with_reducible rfl)
          (try simp only [Act.put, List.setIfInBounds_toArray, List.set_cons_zero, List.set_cons_succ])
          refine wpAnyH_take (i := 6) (oi := ({ dst := some 35, op := Op.binOp BinOp.gtr 3 (Operand.tmp 32) (Operand.tmp 34) 3, type := 4, pos := "ref.go:130", after := #[{ on := 3, ground := Ground.data }, { on := 5, ground := Ground.data }], guard := none } : Oper)) (v := ?_) rfl (by kernel_rfl) (by kernel_rfl) (by kernel_rfl) (fun _ _ _ h => h) (Or.inl ⟨by rfl, ?_⟩) hS ?_
          rotate_left
          · (intro w hSw; (try dsimp only at hSw); go_simp; (try rw [HDC.out]); try with_reducible rfl)
          (try simp only [Act.put, List.setIfInBounds_toArray, List.set_cons_zero, List.set_cons_succ])
          refine wpAnyH_take (i := 7) (oi := ({ dst := some 36, op := Op.move (Operand.tmp 35), type := 4, pos := "ref.go:130", after := #[{ on := 6, ground := Ground.data }, { on := 1, ground := Ground.chain }], guard := none } : Oper)) (v := ?_) rfl (by kernel_rfl) (by kernel_rfl) (by kernel_rfl) (fun _ _ _ h => h) (Or.inl ⟨by rfl, ?_⟩) hS ?_
          rotate_left
          · (intro w hSw; (try dsimp only at hSw); go_simp; try with_reducible rfl)
          (try simp only [Act.put, List.setIfInBounds_toArray, List.set_cons_zero, List.set_cons_succ])
          refine wpAnyH_take (i := 8) (oi := ({ dst := some 37, op := Op.fieldAddr 28 (Operand.tmp 3) 0, type := 0, pos := "ref.go:130", after := #[{ on := 7, ground := Ground.guard }], guard := some (7, false) } : Oper)) (v := undef) rfl (by kernel_rfl) (by kernel_rfl) (by kernel_rfl) (fun _ _ _ h => h) (Or.inr ⟨by rfl, rfl⟩) hS ?_
          (try simp only [Act.put, List.setIfInBounds_toArray, List.set_cons_zero, List.set_cons_succ])
          refine wpAnyH_take (i := 9) (oi := ({ dst := some 38, op := Op.load 26 (Operand.tmp 37), type := 26, pos := "ref.go:130", after := #[{ on := 8, ground := Ground.data }, { on := 7, ground := Ground.guard }], guard := some (7, false) } : Oper)) (v := undef) rfl (by kernel_rfl) (by kernel_rfl) (by kernel_rfl) (fun _ _ _ h => h) (Or.inr ⟨by rfl, rfl⟩) hS ?_
          (try simp only [Act.put, List.setIfInBounds_toArray, List.set_cons_zero, List.set_cons_succ])
          refine wpAnyH_take (i := 10) (oi := ({ dst := some 39, op := Op.call { callee := Callee.builtin Builtin.len, args := #[Operand.tmp 38], argTypes := #[26] }, type := 3, pos := "ref.go:130", after := #[{ on := 9, ground := Ground.data }, { on := 7, ground := Ground.guard }], guard := some (7, false) } : Oper)) (v := undef) rfl (by kernel_rfl) (by kernel_rfl) (by kernel_rfl) (fun _ _ _ h => h) (Or.inr ⟨by rfl, rfl⟩) hS ?_
          (try simp only [Act.put, List.setIfInBounds_toArray, List.set_cons_zero, List.set_cons_succ])
          refine wpAnyH_take (i := 11) (oi := ({ dst := some 40, op := Op.binOp BinOp.geq 3 (Operand.tmp 39) (Operand.const (Value.int IntKind.i64 64)) 3, type := 4, pos := "ref.go:130", after := #[{ on := 10, ground := Ground.data }, { on := 7, ground := Ground.guard }], guard := some (7, false) } : Oper)) (v := undef) rfl (by kernel_rfl) (by kernel_rfl) (by kernel_rfl) (fun _ _ _ h => h) (Or.inr ⟨by rfl, rfl⟩) hS ?_
          (try simp only [Act.put, List.setIfInBounds_toArray, List.set_cons_zero, List.set_cons_succ])
          refine wpAnyH_take (i := 12) (oi := ({ dst := some 41, op := Op.pick (Operand.tmp 36) (Operand.const (Value.bool true)) (Operand.tmp 40), type := 4, pos := "ref.go:130", after := #[{ on := 7, ground := Ground.data }, { on := 11, ground := Ground.data }], guard := none } : Oper)) (v := ?_) rfl (by kernel_rfl) (by kernel_rfl) (by kernel_rfl) (fun _ _ _ h => h) (Or.inl ⟨by rfl, ?_⟩) hS ?_
          rotate_left
          · (intro w hSw; (try dsimp only at hSw); go_simp; try with_reducible rfl)
          (try simp only [Act.put, List.setIfInBounds_toArray, List.set_cons_zero, List.set_cons_succ])
          refine wpAnyH_done (by kernel_rfl) ?_ _
          clear hS
          go_wp2_with (first
            | (refine wpList_load_row rfl 28 _ rfl w.heap.size rfl _ _ (0, 0) _ HS3b.out.d0.1 Tryd.underlying28 rfl HS3b.out.d0.info ?_)
            | (refine wpList_store_row rfl 28 _ _ rfl (w.heap.size + 1) #[.slice a n cap, .int .i64 d.cap, .int .i64 d.ops, .bool false, .bool d.told, .int .i64 d.after] rfl rfl _ dz HS3b.out.d1.1 disk_info (by rfl) (by simp [Value.oneCell']) ?_))
          obtain ⟨e1, e2, e3⟩ := HS3b.out.done (cs' := #[.slice a n cap, .int .i64 d.cap, .int .i64 d.ops, .bool false, .bool d.told, .int .i64 d.after]) HS3b.out.rd rfl
          exact bodyPost_ret_by (results_row_tmp rfl _ _ (w.heap.size + 1) _ rfl (disk_load e1.1 rfl)) rfl ⟨_, rfl, e2, e3⟩
        · have HDC := Lib.hid (show decide (d.cap < (u : Int) + (kq : Int)) = false from decide_eq_false hc)
          by_cases hn64 : 64 ≤ d.L.length
          · rw [if_pos (.inr hn64)]
            have hn64' : 64 ≤ (n : Int) := by have := HN.out; omega
            clear hd hu1 hc
            go_enter Tryd.func17, Tryd.ntmps17
            go_wp2_with (first
              | (refine wpList_load_row rfl 28 _ rfl w.heap.size rfl _ _ (0, 0) _ HS3.out.d0.1 Tryd.underlying28 rfl HS3.out.d0.info ?_)
              | (refine wpList_load_row rfl 28 _ rfl w.heap.size rfl _ _ (0, 0) _ HS.out.d0.1 Tryd.underlying28 rfl HS.out.d0.info ?_)
              | (go_at_call 37; (with_reducible refine (rright_any s _ hss).mono ?_); rintro e w' ⟨rfl, rfl⟩; rw [HRT.out])
              | (go_at_call 38; (with_reducible refine (HFD.out _ (HS.out.rd.kin (unmask _ _))).mono ?_); rintro e w3 ⟨rfl, hb⟩; have HS3 := Lib.hid (HS.out.next hb); clear hb))
            refine wp_region_held_drew (S := (fun W' => DB W' w.heap.size #[.slice a n cap, .int .i64 d.cap, .int .i64 d.ops, .bool false, .bool d.told, .int .i64 d.after])) (by kernel_rfl) (HS3.out.d0.next (Below.refl _ _).drew) (fun hS => ?_)
            refine wpAnyH_take (i := 0) (oi := ({ dst := some 29, op := Op.load 28 (Operand.tmp 3), type := 28, pos := "ref.go:130", after := #[], guard := none } : Oper)) (v := ?_) rfl (by kernel_rfl) (by kernel_rfl) (by kernel_rfl) (fun _ _ _ h => h) (Or.inl ⟨by rfl, ?_⟩) hS ?_
            rotate_left
            · (intro w hSw; (try dsimp only at hSw); refine exec_load_db (.tmp 3) ?_ ?_ hSw <;> rfl)
            (try simp only [Act.put, List.setIfInBounds_toArray, List.set_cons_zero, List.set_cons_succ])
            refine wpAnyH_take (i := 2) (oi := ({ dst := some 31, op := Op.move (Operand.tmp 2), type := 3, pos := "ref.go:130", after := #[], guard := none } : Oper)) (v := ?_) rfl (by kernel_rfl) (by kernel_rfl) (by kernel_rfl) (fun _ _ _ h => h) (Or.inl ⟨by rfl, ?_⟩) hS ?_
            rotate_left
            · (intro w hSw; (try dsimp only at hSw); go_simp; try with_reducible rfl)
            (try simp only [Act.put, List.setIfInBounds_toArray, List.set_cons_zero, List.set_cons_succ])
            refine wpAnyH_take (i := 4) (oi := ({ dst := some 33, op := Op.fieldAddr 28 (Operand.tmp 3) 1, type := 0, pos := "ref.go:130", after := #[], guard := none } : Oper)) (v := ?_) rfl (by kernel_rfl) (by kernel_rfl) (by kernel_rfl) (fun _ _ _ h => h) (Or.inl ⟨by rfl, ?_⟩) hS ?_
            rotate_left
            · (intro w hSw; (try dsimp only at hSw); obtain ⟨z0, z1, z2, z3, z4, z5⟩ := hSw.six; go_simp; try with_reducible rfl)
            (try simp only [Act.put, List.setIfInBounds_toArray, List.set_cons_zero, List.set_cons_succ])
            refine wpAnyH_take (i := 5) (oi := ({ dst := some 34, op := Op.load 3 (Operand.tmp 33), type := 3, pos := "ref.go:130", after := #[{ on := 4, ground := Ground.data }], guard := none } : Oper)) (v := ?_) rfl (by kernel_rfl) (by kernel_rfl) (by kernel_rfl) (fun _ _ _ h => h) (Or.inl ⟨by rfl, ?_⟩) hS ?_
            rotate_left
            · (intro w hSw; (try dsimp only at hSw); obtain ⟨z0, z1, z2, z3, z4, z5⟩ := hSw.six; go_simp; try with_reducible rfl)
            (try simp only [Act.put, List.setIfInBounds_toArray, List.set_cons_zero, List.set_cons_succ])
            refine rg_one 1 ({ dst := some 30, op := Op.call { callee := Callee.value (Operand.func 39), args := #[Operand.tmp 29], argTypes := #[28] }, type := 3, pos := "ref.go:130", after := #[{ on := 0, ground := Ground.data }], guard := none } : Oper) (by kernel_rfl) rfl (fun K hK => ?_)
            go_simp
            (go_at_call 39; (with_reducible refine (HUS.out _ (HS3.out.rd.kin ((unmask _ _).trans (Kin.below (Below.refl _ _).drew)))).mono ?_); rintro e w3b ⟨rfl, hb⟩; have HS3b := Lib.hid ((HS3.out.next (Below.refl _ _).drew).next hb))
            refine hK.out _ _ ?_ (fun hS1 => ?_)
            · (first | exact hS | exact hS.next hb)
            clear hK K hS; have hS := hS1; clear hS1
            (try simp only [Act.put, List.setIfInBounds_toArray, List.set_cons_zero, List.set_cons_succ])
            refine wpAnyH_take (i := 3) (oi := ({ dst := some 32, op := Op.binOp BinOp.add 3 (Operand.tmp 30) (Operand.tmp 31) 3, type := 3, pos := "ref.go:130", after := #[{ on := 1, ground := Ground.data }, { on := 2, ground := Ground.data }], guard := none } : Oper)) (v := ?_) rfl (by kernel_rfl) (by kernel_rfl) (by kernel_rfl) (fun _ _ _ h => h) (Or.inl ⟨by rfl, ?_⟩) hS ?_
            rotate_left
            · (intro w hSw; (try dsimp only at hSw); go_simp; try with_reducible rfl)
            (try simp only [Act.put, List.setIfInBounds_toArray, List.set_cons_zero, List.set_cons_succ])
            refine wpAnyH_take (i := 6) (oi := ({ dst := some 35, op := Op.binOp BinOp.gtr 3 (Operand.tmp 32) (Operand.tmp 34) 3, type := 4, pos := "ref.go:130", after := #[{ on := 3, ground := Ground.data }, { on := 5, ground := Ground.data }], guard := none } : Oper)) (v := ?_) rfl (by kernel_rfl) (by kernel_rfl) (by kernel_rfl) (fun _ _ _ h => h) (Or.inl ⟨by rfl, ?_⟩) hS ?_
            rotate_left
            · (intro w hSw; (try dsimp only at hSw); go_simp; (try rw [HDC.out]); try with_reducible rfl)
            (try simp only [Act.put, List.setIfInBounds_toArray, List.set_cons_zero, List.set_cons_succ])
            refine wpAnyH_take (i := 7) (oi := ({ dst := some 36, op := Op.move (Operand.tmp 35), type := 4, pos := "ref.go:130", after := #[{ on := 6, ground := Ground.data }, { on := 1, ground := Ground.chain }], guard := none } : Oper)) (v := ?_) rfl (by kernel_rfl) (by kernel_rfl) (by kernel_rfl) (fun _ _ _ h => h) (Or.inl ⟨by rfl, ?_⟩) hS ?_
            rotate_left
            · (intro w hSw; (try dsimp only at hSw); go_simp; try with_reducible rfl)
            (try simp only [Act.put, List.setIfInBounds_toArray, List.set_cons_zero, List.set_cons_succ])
            refine wpAnyH_take (i := 8) (oi := ({ dst := some 37, op := Op.fieldAddr 28 (Operand.tmp 3) 0, type := 0, pos := "ref.go:130", after := #[{ on := 7, ground := Ground.guard }], guard := some (7, false) } : Oper)) (v := ?_) rfl (by kernel_rfl) (by kernel_rfl) (by kernel_rfl) (fun _ _ _ h => h) (Or.inl ⟨by rfl, ?_⟩) hS ?_
            rotate_left
            · (intro w hSw; (try dsimp only at hSw); obtain ⟨z0, z1, z2, z3, z4, z5⟩ := hSw.six; go_simp; try with_reducible rfl)
            (try simp only [Act.put, List.setIfInBounds_toArray, List.set_cons_zero, List.set_cons_succ])
            refine wpAnyH_take (i := 9) (oi := ({ dst := some 38, op := Op.load 26 (Operand.tmp 37), type := 26, pos := "ref.go:130", after := #[{ on := 8, ground := Ground.data }, { on := 7, ground := Ground.guard }], guard := some (7, false) } : Oper)) (v := ?_) rfl (by kernel_rfl) (by kernel_rfl) (by kernel_rfl) (fun _ _ _ h => h) (Or.inl ⟨by rfl, ?_⟩) hS ?_
            rotate_left
            · (intro w hSw; (try dsimp only at hSw); obtain ⟨z0, z1, z2, z3, z4, z5⟩ := hSw.six; go_simp; try with_reducible rfl)
            (try simp only [Act.put, List.setIfInBounds_toArray, List.set_cons_zero, List.set_cons_succ])
            refine wpAnyH_take (i := 10) (oi := ({ dst := some 39, op := Op.call { callee := Callee.builtin Builtin.len, args := #[Operand.tmp 38], argTypes := #[26] }, type := 3, pos := "ref.go:130", after := #[{ on := 9, ground := Ground.data }, { on := 7, ground := Ground.guard }], guard := some (7, false) } : Oper)) (v := ?_) rfl (by kernel_rfl) (by kernel_rfl) (by kernel_rfl) (fun _ _ _ h => h) (Or.inl ⟨by rfl, ?_⟩) hS ?_
            rotate_left
            · (intro w hSw; (try dsimp only at hSw); obtain ⟨z0, z1, z2, z3, z4, z5⟩ := hSw.six; go_simp; try with_reducible rfl)
            (try simp only [Act.put, List.setIfInBounds_toArray, List.set_cons_zero, List.set_cons_succ])
            refine wpAnyH_take (i := 11) (oi := ({ dst := some 40, op := Op.binOp BinOp.geq 3 (Operand.tmp 39) (Operand.const (Value.int IntKind.i64 64)) 3, type := 4, pos := "ref.go:130", after := #[{ on := 10, ground := Ground.data }, { on := 7, ground := Ground.guard }], guard := some (7, false) } : Oper)) (v := ?_) rfl (by kernel_rfl) (by kernel_rfl) (by kernel_rfl) (fun _ _ _ h => h) (Or.inl ⟨by rfl, ?_⟩) hS ?_
            rotate_left
            · (intro w hSw; (try dsimp only at hSw); obtain ⟨z0, z1, z2, z3, z4, z5⟩ := hSw.six; go_simp; try with_reducible rfl)
            (try simp only [Act.put, List.setIfInBounds_toArray, List.set_cons_zero, List.set_cons_succ])
            refine wpAnyH_take (i := 12) (oi := ({ dst := some 41, op := Op.pick (Operand.tmp 36) (Operand.const (Value.bool true)) (Operand.tmp 40), type := 4, pos := "ref.go:130", after := #[{ on := 7, ground := Ground.data }, { on := 11, ground := Ground.data }], guard := none } : Oper)) (v := ?_) rfl (by kernel_rfl) (by kernel_rfl) (by kernel_rfl) (fun _ _ _ h => h) (Or.inl ⟨by rfl, ?_⟩) hS ?_
            rotate_left
            · (intro w hSw; (try dsimp only at hSw); go_simp; try with_reducible rfl)
            (try simp only [Act.put, List.setIfInBounds_toArray, List.set_cons_zero, List.set_cons_succ])
            refine wpAnyH_done (by kernel_rfl) ?_ _
            clear hS
            go_wp2_with (first
              | (refine wpList_load_row rfl 28 _ rfl w.heap.size rfl _ _ (0, 0) _ HS3b.out.d0.1 Tryd.underlying28 rfl HS3b.out.d0.info ?_)
              | (refine wpList_store_row rfl 28 _ _ rfl (w.heap.size + 1) #[.slice a n cap, .int .i64 d.cap, .int .i64 d.ops, .bool false, .bool d.told, .int .i64 d.after] rfl rfl _ dz HS3b.out.d1.1 disk_info (by rfl) (by simp [Value.oneCell']) ?_))
            obtain ⟨e1, e2, e3⟩ := HS3b.out.done (cs' := #[.slice a n cap, .int .i64 d.cap, .int .i64 d.ops, .bool false, .bool d.told, .int .i64 d.after]) HS3b.out.rd rfl
            exact bodyPost_ret_by (results_row_tmp rfl _ _ (w.heap.size + 1) _ rfl (disk_load e1.1 rfl)) rfl ⟨_, rfl, e2, e3⟩
          · rw [if_neg (by omega)]
            have hn64' : ¬ 64 ≤ (n : Int) := by have := HN.out; omega
            clear hu1 hc hn64
            by_cases ho : d.ope = 0
            · rw [AD.opR_done d _ ho]
              rw [ho] at HOP
              have HL2 := Lib.hid (AD.opd_L d)
              obtain ⟨d2, hd2⟩ : ∃ d2, d.opd = d2 := ⟨_, rfl⟩
              rw [hd2] at HOP HL2 ⊢
              have HLN := Lib.hid (show d2.L.length ≤ 1000000 from by rw [HL2.out]; exact hn1)
              have hmk := make_secs_run kq (by omega)
              have hmk2 := make_bools_run kq (by omega)
              clear ho hn1 hd2 hd
              go_enter Tryd.func17, Tryd.ntmps17
              go_wp2_with (first
                | (refine wpList_load_row rfl 28 _ rfl w.heap.size rfl _ _ (0, 0) _ HS3.out.d0.1 Tryd.underlying28 rfl HS3.out.d0.info ?_)
                | (refine wpList_load_row rfl 28 _ rfl w.heap.size rfl _ _ (0, 0) _ HS.out.d0.1 Tryd.underlying28 rfl HS.out.d0.info ?_)
                | (go_at_call 37; (with_reducible refine (rright_any s _ hss).mono ?_); rintro e w' ⟨rfl, rfl⟩; rw [HRT.out])
                | (go_at_call 38; (with_reducible refine (HFD.out _ (HS.out.rd.kin (unmask _ _))).mono ?_); rintro e w3 ⟨rfl, hb⟩; have HS3 := Lib.hid (HS.out.next hb); clear hb))
              refine wp_region_held_drew (S := (fun W' => DB W' w.heap.size #[.slice a n cap, .int .i64 d.cap, .int .i64 d.ops, .bool false, .bool d.told, .int .i64 d.after])) (by kernel_rfl) (HS3.out.d0.next (Below.refl _ _).drew) (fun hS => ?_)
              refine wpAnyH_take (i := 0) (oi := ({ dst := some 29, op := Op.load 28 (Operand.tmp 3), type := 28, pos := "ref.go:130", after := #[], guard := none } : Oper)) (v := ?_) rfl (by kernel_rfl) (by kernel_rfl) (by kernel_rfl) (fun _ _ _ h => h) (Or.inl ⟨by rfl, ?_⟩) hS ?_
              rotate_left
              · (intro w hSw; (try dsimp only at hSw); refine exec_load_db (.tmp 3) ?_ ?_ hSw <;> rfl)
              (try simp only [Act.put, List.setIfInBounds_toArray, List.set_cons_zero, List.set_cons_succ])
              refine wpAnyH_take (i := 2) (oi := ({ dst := some 31, op := Op.move (Operand.tmp 2), type := 3, pos := "ref.go:130", after := #[], guard := none } : Oper)) (v := ?_) rfl (by kernel_rfl) (by kernel_rfl) (by kernel_rfl) (fun _ _ _ h => h) (Or.inl ⟨by rfl, ?_⟩) hS ?_
              rotate_left
              · (intro w hSw; (try dsimp only at hSw); go_simp; try with_reducible rfl)
              (try simp only [Act.put, List.setIfInBounds_toArray, List.set_cons_zero, List.set_cons_succ])
              refine wpAnyH_take (i := 4) (oi := ({ dst := some 33, op := Op.fieldAddr 28 (Operand.tmp 3) 1, type := 0, pos := "ref.go:130", after := #[], guard := none } : Oper)) (v := ?_) rfl (by kernel_rfl) (by kernel_rfl) (by kernel_rfl) (fun _ _ _ h => h) (Or.inl ⟨by rfl, ?_⟩) hS ?_
              rotate_left
              · (intro w hSw; (try dsimp only at hSw); obtain ⟨z0, z1, z2, z3, z4, z5⟩ := hSw.six; go_simp; try with_reducible rfl)
              (try simp only [Act.put, List.setIfInBounds_toArray, List.set_cons_zero, List.set_cons_succ])
              refine wpAnyH_take (i := 5) (oi := ({ dst := some 34, op := Op.load 3 (Operand.tmp 33), type := 3, pos := "ref.go:130", after := #[{ on := 4, ground := Ground.data }], guard := none } : Oper)) (v := ?_) rfl (by kernel_rfl) (by kernel_rfl) (by kernel_rfl) (fun _ _ _ h => h) (Or.inl ⟨by rfl, ?_⟩) hS ?_
              rotate_left
              · (intro w hSw; (try dsimp only at hSw); obtain ⟨z0, z1, z2, z3, z4, z5⟩ := hSw.six; go_simp; try with_reducible rfl)
              (try simp only [Act.put, List.setIfInBounds_toArray, List.set_cons_zero, List.set_cons_succ])
              refine rg_one 1 ({ dst := some 30, op := Op.call { callee := Callee.value (Operand.func 39), args := #[Operand.tmp 29], argTypes := #[28] }, type := 3, pos := "ref.go:130", after := #[{ on := 0, ground := Ground.data }], guard := none } : Oper) (by kernel_rfl) rfl (fun K hK => ?_)
              go_simp
              (go_at_call 39; (with_reducible refine (HUS.out _ (HS3.out.rd.kin ((unmask _ _).trans (Kin.below (Below.refl _ _).drew)))).mono ?_); rintro e w3b ⟨rfl, hb⟩; have HS3b := Lib.hid ((HS3.out.next (Below.refl _ _).drew).next hb))
              refine hK.out _ _ ?_ (fun hS1 => ?_)
              · (first | exact hS | exact hS.next hb)
              clear hK K hS; have hS := hS1; clear hS1
              (try simp only [Act.put, List.setIfInBounds_toArray, List.set_cons_zero, List.set_cons_succ])
              refine wpAnyH_take (i := 3) (oi := ({ dst := some 32, op := Op.binOp BinOp.add 3 (Operand.tmp 30) (Operand.tmp 31) 3, type := 3, pos := "ref.go:130", after := #[{ on := 1, ground := Ground.data }, { on := 2, ground := Ground.data }], guard := none } : Oper)) (v := ?_) rfl (by kernel_rfl) (by kernel_rfl) (by kernel_rfl) (fun _ _ _ h => h) (Or.inl ⟨by rfl, ?_⟩) hS ?_
              rotate_left
              · (intro w hSw; (try dsimp only at hSw); go_simp; try with_reducible rfl)
              (try simp only [Act.put, List.setIfInBounds_toArray, List.set_cons_zero, List.set_cons_succ])
              refine wpAnyH_take (i := 6) (oi := ({ dst := some 35, op := Op.binOp BinOp.gtr 3 (Operand.tmp 32) (Operand.tmp 34) 3, type := 4, pos := "ref.go:130", after := #[{ on := 3, ground := Ground.data }, { on := 5, ground := Ground.data }], guard := none } : Oper)) (v := ?_) rfl (by kernel_rfl) (by kernel_rfl) (by kernel_rfl) (fun _ _ _ h => h) (Or.inl ⟨by rfl, ?_⟩) hS ?_
              rotate_left
              · (intro w hSw; (try dsimp only at hSw); go_simp; (try rw [HDC.out]); try with_reducible rfl)
              (try simp only [Act.put, List.setIfInBounds_toArray, List.set_cons_zero, List.set_cons_succ])
              refine wpAnyH_take (i := 7) (oi := ({ dst := some 36, op := Op.move (Operand.tmp 35), type := 4, pos := "ref.go:130", after := #[{ on := 6, ground := Ground.data }, { on := 1, ground := Ground.chain }], guard := none } : Oper)) (v := ?_) rfl (by kernel_rfl) (by kernel_rfl) (by kernel_rfl) (fun _ _ _ h => h) (Or.inl ⟨by rfl, ?_⟩) hS ?_
              rotate_left
              · (intro w hSw; (try dsimp only at hSw); go_simp; try with_reducible rfl)
              (try simp only [Act.put, List.setIfInBounds_toArray, List.set_cons_zero, List.set_cons_succ])
              refine wpAnyH_take (i := 8) (oi := ({ dst := some 37, op := Op.fieldAddr 28 (Operand.tmp 3) 0, type := 0, pos := "ref.go:130", after := #[{ on := 7, ground := Ground.guard }], guard := some (7, false) } : Oper)) (v := ?_) rfl (by kernel_rfl) (by kernel_rfl) (by kernel_rfl) (fun _ _ _ h => h) (Or.inl ⟨by rfl, ?_⟩) hS ?_
              rotate_left
              · (intro w hSw; (try dsimp only at hSw); obtain ⟨z0, z1, z2, z3, z4, z5⟩ := hSw.six; go_simp; try with_reducible rfl)
              (try simp only [Act.put, List.setIfInBounds_toArray, List.set_cons_zero, List.set_cons_succ])
              refine wpAnyH_take (i := 9) (oi := ({ dst := some 38, op := Op.load 26 (Operand.tmp 37), type := 26, pos := "ref.go:130", after := #[{ on := 8, ground := Ground.data }, { on := 7, ground := Ground.guard }], guard := some (7, false) } : Oper)) (v := ?_) rfl (by kernel_rfl) (by kernel_rfl) (by kernel_rfl) (fun _ _ _ h => h) (Or.inl ⟨by rfl, ?_⟩) hS ?_
              rotate_left
              · (intro w hSw; (try dsimp only at hSw); obtain ⟨z0, z1, z2, z3, z4, z5⟩ := hSw.six; go_simp; try with_reducible rfl)
              (try simp only [Act.put, List.setIfInBounds_toArray, List.set_cons_zero, List.set_cons_succ])
              refine wpAnyH_take (i := 10) (oi := ({ dst := some 39, op := Op.call { callee := Callee.builtin Builtin.len, args := #[Operand.tmp 38], argTypes := #[26] }, type := 3, pos := "ref.go:130", after := #[{ on := 9, ground := Ground.data }, { on := 7, ground := Ground.guard }], guard := some (7, false) } : Oper)) (v := ?_) rfl (by kernel_rfl) (by kernel_rfl) (by kernel_rfl) (fun _ _ _ h => h) (Or.inl ⟨by rfl, ?_⟩) hS ?_
              rotate_left
              · (intro w hSw; (try dsimp only at hSw); obtain ⟨z0, z1, z2, z3, z4, z5⟩ := hSw.six; go_simp; try with_reducible rfl)
              (try simp only [Act.put, List.setIfInBounds_toArray, List.set_cons_zero, List.set_cons_succ])
              refine wpAnyH_take (i := 11) (oi := ({ dst := some 40, op := Op.binOp BinOp.geq 3 (Operand.tmp 39) (Operand.const (Value.int IntKind.i64 64)) 3, type := 4, pos := "ref.go:130", after := #[{ on := 10, ground := Ground.data }, { on := 7, ground := Ground.guard }], guard := some (7, false) } : Oper)) (v := ?_) rfl (by kernel_rfl) (by kernel_rfl) (by kernel_rfl) (fun _ _ _ h => h) (Or.inl ⟨by rfl, ?_⟩) hS ?_
              rotate_left
              · (intro w hSw; (try dsimp only at hSw); obtain ⟨z0, z1, z2, z3, z4, z5⟩ := hSw.six; go_simp; try with_reducible rfl)
              (try simp only [Act.put, List.setIfInBounds_toArray, List.set_cons_zero, List.set_cons_succ])
              refine wpAnyH_take (i := 12) (oi := ({ dst := some 41, op := Op.pick (Operand.tmp 36) (Operand.const (Value.bool true)) (Operand.tmp 40), type := 4, pos := "ref.go:130", after := #[{ on := 7, ground := Ground.data }, { on := 11, ground := Ground.data }], guard := none } : Oper)) (v := ?_) rfl (by kernel_rfl) (by kernel_rfl) (by kernel_rfl) (fun _ _ _ h => h) (Or.inl ⟨by rfl, ?_⟩) hS ?_
              rotate_left
              · (intro w hSw; (try dsimp only at hSw); go_simp; try with_reducible rfl)
              (try simp only [Act.put, List.setIfInBounds_toArray, List.set_cons_zero, List.set_cons_succ])
              refine wpAnyH_done (by kernel_rfl) ?_ _
              clear hS
              go_wp2_with (first
                | (refine wpList_load_row rfl 28 _ rfl w.heap.size rfl _ _ (0, 0) _ HS3b.out.d0.1 Tryd.underlying28 rfl HS3b.out.d0.info ?_)
                | (go_at_call 40; (with_reducible refine (HOP.out _).mono ?_); rintro e w4 ⟨rfl, hb⟩; have HS4 := Lib.hid (HS3b.out.next hb); clear hb)
                | (refine wpl_store_newD rfl _ _ rfl rfl w4.heap.size rfl #[.slice a n cap, .int .i64 d2.cap, .int .i64 d2.ops, .bool d2.down, .bool d2.told, .int .i64 d2.after] rfl (by simp [Value.oneCell']) rfl rfl ?_; intro w5 HX5 hb5; have HS5 := Lib.hid (HS4.out.next hb5.out); clear hb5)
                | (refine wpList_load_row rfl 28 _ rfl w4.heap.size rfl _ _ (0, 0) _ HX5.out.1 Tryd.underlying28 rfl HX5.out.info ?_))
              have HS6 := Lib.hid (HS5.out.next (Below.refl _ _).drew)
              have HQ6 := Lib.hid (HX5.out.next (Below.refl _ _).drew)
              refine wp_region_held_drew (S := (fun W' => DB W' w4.heap.size #[.slice a n cap, .int .i64 d2.cap, .int .i64 d2.ops, .bool d2.down, .bool d2.told, .int .i64 d2.after])) (by kernel_rfl) HQ6.out (fun hS => ?_)
              refine wpAnyH_take (i := 0) (oi := ({ dst := some 52, op := Op.load 28 (Operand.tmp 8), type := 28, pos := "ref.go:137", after := #[], guard := none } : Oper)) (v := ?_) rfl (by kernel_rfl) (by kernel_rfl) (by kernel_rfl) (fun _ _ _ h => h) (Or.inl ⟨by rfl, ?_⟩) hS ?_
              rotate_left
              · (intro w hSw; (try dsimp only at hSw); refine exec_load_db (.tmp 8) ?_ ?_ hSw <;> rfl)
              (try simp only [Act.put, List.setIfInBounds_toArray, List.set_cons_zero, List.set_cons_succ])
              refine wpAnyH_take (i := 1) (oi := ({ dst := some 53, op := Op.move (Operand.tmp 1), type := 9, pos := "ref.go:137", after := #[], guard := none } : Oper)) (v := ?_) rfl (by kernel_rfl) (by kernel_rfl) (by kernel_rfl) (fun _ _ _ h => h) (Or.inl ⟨by rfl, ?_⟩) hS ?_
              rotate_left
              · (intro w hSw; (try dsimp only at hSw); go_simp; try with_reducible rfl)
              (try simp only [Act.put, List.setIfInBounds_toArray, List.set_cons_zero, List.set_cons_succ])
              refine wpAnyH_take (i := 2) (oi := ({ dst := some 54, op := Op.move (Operand.tmp 2), type := 3, pos := "ref.go:137", after := #[], guard := none } : Oper)) (v := ?_) rfl (by kernel_rfl) (by kernel_rfl) (by kernel_rfl) (fun _ _ _ h => h) (Or.inl ⟨by rfl, ?_⟩) hS ?_
              rotate_left
              · (intro w hSw; (try dsimp only at hSw); go_simp; try with_reducible rfl)
              (try simp only [Act.put, List.setIfInBounds_toArray, List.set_cons_zero, List.set_cons_succ])
              refine wpAnyH_take (i := 4) (oi := ({ dst := some 56, op := Op.move (Operand.tmp 2), type := 3, pos := "ref.go:137", after := #[], guard := none } : Oper)) (v := ?_) rfl (by kernel_rfl) (by kernel_rfl) (by kernel_rfl) (fun _ _ _ h => h) (Or.inl ⟨by rfl, ?_⟩) hS ?_
              rotate_left
              · (intro w hSw; (try dsimp only at hSw); go_simp; try with_reducible rfl)
              (try simp only [Act.put, List.setIfInBounds_toArray, List.set_cons_zero, List.set_cons_succ])
              refine wpAnyH_take (i := 6) (oi := ({ dst := some 58, op := Op.move (Operand.tmp 2), type := 3, pos := "ref.go:137", after := #[], guard := none } : Oper)) (v := ?_) rfl (by kernel_rfl) (by kernel_rfl) (by kernel_rfl) (fun _ _ _ h => h) (Or.inl ⟨by rfl, ?_⟩) hS ?_
              rotate_left
              · (intro w hSw; (try dsimp only at hSw); go_simp; try with_reducible rfl)
              (try simp only [Act.put, List.setIfInBounds_toArray, List.set_cons_zero, List.set_cons_succ])
              refine rg_three 3 5 7 ({ dst := some 55, op := Op.makeSlice 65 (Operand.tmp 54) (Operand.tmp 54), type := 65, pos := "ref.go:137", after := #[{ on := 2, ground := Ground.data }, { on := 2, ground := Ground.data }], guard := none } : Oper) ({ dst := some 57, op := Op.makeSlice 65 (Operand.tmp 56) (Operand.tmp 56), type := 65, pos := "ref.go:137", after := #[{ on := 4, ground := Ground.data }, { on := 4, ground := Ground.data }], guard := none } : Oper) ({ dst := some 59, op := Op.makeSlice 73 (Operand.tmp 58) (Operand.tmp 58), type := 73, pos := "ref.go:137", after := #[{ on := 6, ground := Ground.data }, { on := 6, ground := Ground.data }], guard := none } : Oper) (by kernel_rfl) rfl rfl rfl (fun K hK => ?_) (fun K hK => ?_) (fun K hK => ?_)
              · skip
                go_simp
                (have hb : Below w5.drew.heap.size w5.drew (w5.alloc (.cells (il .u8 (List.replicate (kq * 64) 0)).toArray 88)).drew := below_drew_alloc w5 (.cells (il .u8 (List.replicate (kq * 64) 0)).toArray 88); have HM0 := Lib.hid (HS6.out.next hb); have hm := (FS.new (F := boxF F w) (w := w5) HS5.out.foot kq (List.replicate (kq * 64) 0) (by simp) (by omega) 88).kin (kin_drew _ _); have HX3 := Lib.hid hm; clear hm)
                refine hK.out _ _ ?_ (fun hS1 => ?_)
                · (first | exact hS | exact hS.next hb | exact hN)
                clear hK K hS; have hS := hS1; clear hS1
                (try simp only [Act.put, List.setIfInBounds_toArray, List.set_cons_zero, List.set_cons_succ])
                refine rg_both 5 7 ({ dst := some 57, op := Op.makeSlice 65 (Operand.tmp 56) (Operand.tmp 56), type := 65, pos := "ref.go:137", after := #[{ on := 4, ground := Ground.data }, { on := 4, ground := Ground.data }], guard := none } : Oper) ({ dst := some 59, op := Op.makeSlice 73 (Operand.tmp 58) (Operand.tmp 58), type := 73, pos := "ref.go:137", after := #[{ on := 6, ground := Ground.data }, { on := 6, ground := Ground.data }], guard := none } : Oper) (by kernel_rfl) rfl rfl (fun K hK => ?_) (fun K hK => ?_)
                · skip
                  go_simp
                  (have hb : Below (w5.alloc (.cells (il .u8 (List.replicate (kq * 64) 0)).toArray 88)).drew.heap.size (w5.alloc (.cells (il .u8 (List.replicate (kq * 64) 0)).toArray 88)).drew ((w5.alloc (.cells (il .u8 (List.replicate (kq * 64) 0)).toArray 88)).alloc (.cells (il .u8 (List.replicate (kq * 64) 0)).toArray 88)).drew := below_drew_alloc (w5.alloc (.cells (il .u8 (List.replicate (kq * 64) 0)).toArray 88)) (.cells (il .u8 (List.replicate (kq * 64) 0)).toArray 88); have HM1 := Lib.hid (HM0.out.next hb); have hm := (FS.new (F := boxF F w) (w := (w5.alloc (.cells (il .u8 (List.replicate (kq * 64) 0)).toArray 88))) (HM0.out.foot) kq (List.replicate (kq * 64) 0) (by simp) (by omega) 88).kin (kin_drew _ _); rw [alloc_size] at hm; have HX5 := Lib.hid hm; clear hm; replace HX3 := Lib.hid (HX3.out.kin (kin_mask hb)))
                  refine hK.out _ _ ?_ (fun hS1 => ?_)
                  · (first | exact hS | exact hS.next hb | exact hN)
                  clear hK K hS; have hS := hS1; clear hS1
                  (try simp only [Act.put, List.setIfInBounds_toArray, List.set_cons_zero, List.set_cons_succ])
                  refine rg_one 7 ({ dst := some 59, op := Op.makeSlice 73 (Operand.tmp 58) (Operand.tmp 58), type := 73, pos := "ref.go:137", after := #[{ on := 6, ground := Ground.data }, { on := 6, ground := Ground.data }], guard := none } : Oper) (by kernel_rfl) rfl (fun K hK => ?_)
                  go_simp
                  (have hb : Below ((w5.alloc (.cells (il .u8 (List.replicate (kq * 64) 0)).toArray 88)).alloc (.cells (il .u8 (List.replicate (kq * 64) 0)).toArray 88)).drew.heap.size ((w5.alloc (.cells (il .u8 (List.replicate (kq * 64) 0)).toArray 88)).alloc (.cells (il .u8 (List.replicate (kq * 64) 0)).toArray 88)).drew (((w5.alloc (.cells (il .u8 (List.replicate (kq * 64) 0)).toArray 88)).alloc (.cells (il .u8 (List.replicate (kq * 64) 0)).toArray 88)).alloc (.cells (Array.replicate kq (Value.bool false)) 4)).drew := below_drew_alloc ((w5.alloc (.cells (il .u8 (List.replicate (kq * 64) 0)).toArray 88)).alloc (.cells (il .u8 (List.replicate (kq * 64) 0)).toArray 88)) (.cells (Array.replicate kq (Value.bool false)) 4); have HM2 := Lib.hid (HM1.out.next hb); have hm := (BS.fresh (F := boxF F w) (w := ((w5.alloc (.cells (il .u8 (List.replicate (kq * 64) 0)).toArray 88)).alloc (.cells (il .u8 (List.replicate (kq * 64) 0)).toArray 88))) (HM1.out.foot) kq (by omega) 4).kin (kin_drew _ _); rw [alloc_size, alloc_size] at hm; have HX7 := Lib.hid hm; clear hm; replace HX3 := Lib.hid (HX3.out.kin (kin_mask hb)); replace HX5 := Lib.hid (HX5.out.kin (kin_mask hb)))
                  refine hK.out _ _ ?_ (fun hS1 => ?_)
                  · (first | exact hS | exact hS.next hb | exact hN)
                  clear hK K hS; have hS := hS1; clear hS1
                  (try simp only [Act.put, List.setIfInBounds_toArray, List.set_cons_zero, List.set_cons_succ])
                  refine wpAnyH_take (i := 8) (oi := ({ dst := some 60, op := Op.build 75 #[(0, Operand.tmp 53), (1, Operand.tmp 55), (2, Operand.tmp 57), (3, Operand.tmp 59)], type := 75, pos := "ref.go:137", after := #[{ on := 1, ground := Ground.data }, { on := 3, ground := Ground.data }, { on := 5, ground := Ground.data }, { on := 7, ground := Ground.data }], guard := none } : Oper)) (v := ?_) rfl (by kernel_rfl) (by kernel_rfl) (by kernel_rfl) (fun _ _ _ h => h) (Or.inl ⟨by rfl, ?_⟩) hS ?_
                  rotate_left
                  · (intro w hSw; (try dsimp only at hSw); go_simp; try with_reducible rfl)
                  (try simp only [Act.put, List.setIfInBounds_toArray, List.set_cons_zero, List.set_cons_succ])
                  refine rg_one 9 ({ dst := some 61, op := Op.call { callee := Callee.value (Operand.func 41), args := #[Operand.tmp 52, Operand.tmp 60], argTypes := #[28, 75] }, type := 28, pos := "ref.go:137", after := #[{ on := 0, ground := Ground.data }, { on := 8, ground := Ground.data }], guard := none } : Oper) (by kernel_rfl) rfl (fun K hK => ?_)
                  go_simp
                  (go_at_call 41; (refine (rwith_any (boxF F w) _ d2 (some ⟨w5.heap.size, 0, none⟩) kq (some ⟨w5.heap.size + 1, 0, none⟩) kq (some ⟨w5.heap.size + 1 + 1, 0, none⟩) kq (newF s kq) _ HM2.out.foot (HM2.out.rd.re HL2.out) ⟨_, _, _, rfl, HX3.out, HX5.out, HX7.out⟩ HLN.out).mono ?_); rintro e w8 ⟨v8, rfl, hr8, hb⟩; have HS8 := Lib.hid (HM2.out.next hb); obtain ⟨a7, n7, c7, rfl, _⟩ := hr8.agg; have HR8 := Lib.hid hr8)
                  refine hK.out _ _ ?_ (fun hS1 => ?_)
                  · (first | exact hS | exact hS.next hb | exact hN)
                  clear hK K hS; have hS := hS1; clear hS1
                  (try simp only [Act.put, List.setIfInBounds_toArray, List.set_cons_zero, List.set_cons_succ])
                  refine rg_one 10 ({ dst := none, op := Op.store 28 (Operand.tmp 6) (Operand.tmp 61), type := 0, pos := "ref.go:137", after := #[{ on := 9, ground := Ground.data }, { on := 9, ground := Ground.chain }, { on := 0, ground := Ground.phase }, { on := 1, ground := Ground.phase }, { on := 2, ground := Ground.phase }, { on := 3, ground := Ground.phase }, { on := 4, ground := Ground.phase }, { on := 5, ground := Ground.phase }, { on := 6, ground := Ground.phase }, { on := 7, ground := Ground.phase }, { on := 8, ground := Ground.phase }, { on := 9, ground := Ground.phase }], guard := none } : Oper) (by kernel_rfl) rfl (fun K hK => ?_)
                  rw [if_pos (by rfl)]; refine wp_store_row 28 (.tmp 6) (.tmp 61) rfl (w.heap.size + 1) #[.slice a7 n7 c7, .int .i64 (d2.withF (newF s kq)).cap, .int .i64 (d2.withF (newF s kq)).ops, .bool (d2.withF (newF s kq)).down, .bool (d2.withF (newF s kq)).told, .int .i64 (d2.withF (newF s kq)).after] rfl rfl _ dz HS8.out.d1.1 disk_info (by rfl) (by simp [Value.oneCell']) ?_; have hN := hS.over (w.heap.size + 1) (by have := HS4.out.size; omega) #[.slice a7 n7 c7, .int .i64 (d2.withF (newF s kq)).cap, .int .i64 (d2.withF (newF s kq)).ops, .bool (d2.withF (newF s kq)).down, .bool (d2.withF (newF s kq)).told, .int .i64 (d2.withF (newF s kq)).after]
                  refine hK.out _ _ ?_ (fun hS1 => ?_)
                  · (first | exact hS | exact hS.next hb | exact hN)
                  clear hK K hS; have hS := hS1; clear hS1
                  (try simp only [Act.put])
                  refine wpAnyH_take (i := 11) (oi := ({ dst := some 7, op := Op.assign (Operand.const (Value.int IntKind.i64 0)), type := 30, pos := "ref.go:137", after := #[{ on := 10, ground := Ground.chain }, { on := 0, ground := Ground.phase }, { on := 1, ground := Ground.phase }, { on := 2, ground := Ground.phase }, { on := 3, ground := Ground.phase }, { on := 4, ground := Ground.phase }, { on := 5, ground := Ground.phase }, { on := 6, ground := Ground.phase }, { on := 7, ground := Ground.phase }, { on := 8, ground := Ground.phase }, { on := 9, ground := Ground.phase }, { on := 10, ground := Ground.phase }], guard := none } : Oper)) (v := ?_) rfl (by kernel_rfl) (by kernel_rfl) (by kernel_rfl) (fun _ _ _ h => h) (Or.inl ⟨by rfl, ?_⟩) hS ?_
                  rotate_left
                  · (intro w hSw; (try dsimp only at hSw); go_simp; try with_reducible rfl)
                  (try simp only [Act.put, List.setIfInBounds_toArray, List.set_cons_zero, List.set_cons_succ])
                  refine wpAnyH_done (by kernel_rfl) ?_ _
                  clear hS
                  go_wp2
                  obtain ⟨e1, e2, e3⟩ := HS8.out.done (cs' := #[.slice a7 n7 c7, .int .i64 (d2.withF (newF s kq)).cap, .int .i64 (d2.withF (newF s kq)).ops, .bool (d2.withF (newF s kq)).down, .bool (d2.withF (newF s kq)).told, .int .i64 (d2.withF (newF s kq)).after]) HR8.out rfl
                  exact bodyPost_ret_by (results_row_tmp rfl _ _ (w.heap.size + 1) _ rfl (disk_load e1.1 rfl)) rfl ⟨_, rfl, e2, e3⟩
                · skip
                  go_simp
                  (have hb : Below (w5.alloc (.cells (il .u8 (List.replicate (kq * 64) 0)).toArray 88)).drew.heap.size (w5.alloc (.cells (il .u8 (List.replicate (kq * 64) 0)).toArray 88)).drew ((w5.alloc (.cells (il .u8 (List.replicate (kq * 64) 0)).toArray 88)).alloc (.cells (Array.replicate kq (Value.bool false)) 4)).drew := below_drew_alloc (w5.alloc (.cells (il .u8 (List.replicate (kq * 64) 0)).toArray 88)) (.cells (Array.replicate kq (Value.bool false)) 4); have HM1 := Lib.hid (HM0.out.next hb); have hm := (BS.fresh (F := boxF F w) (w := (w5.alloc (.cells (il .u8 (List.replicate (kq * 64) 0)).toArray 88))) (HM0.out.foot) kq (by omega) 4).kin (kin_drew _ _); rw [alloc_size] at hm; have HX7 := Lib.hid hm; clear hm; replace HX3 := Lib.hid (HX3.out.kin (kin_mask hb)))
                  refine hK.out _ _ ?_ (fun hS1 => ?_)
                  · (first | exact hS | exact hS.next hb | exact hN)
                  clear hK K hS; have hS := hS1; clear hS1
                  (try simp only [Act.put, List.setIfInBounds_toArray, List.set_cons_zero, List.set_cons_succ])
                  refine rg_one 5 ({ dst := some 57, op := Op.makeSlice 65 (Operand.tmp 56) (Operand.tmp 56), type := 65, pos := "ref.go:137", after := #[{ on := 4, ground := Ground.data }, { on := 4, ground := Ground.data }], guard := none } : Oper) (by kernel_rfl) rfl (fun K hK => ?_)
                  go_simp
                  (have hb : Below ((w5.alloc (.cells (il .u8 (List.replicate (kq * 64) 0)).toArray 88)).alloc (.cells (Array.replicate kq (Value.bool false)) 4)).drew.heap.size ((w5.alloc (.cells (il .u8 (List.replicate (kq * 64) 0)).toArray 88)).alloc (.cells (Array.replicate kq (Value.bool false)) 4)).drew (((w5.alloc (.cells (il .u8 (List.replicate (kq * 64) 0)).toArray 88)).alloc (.cells (Array.replicate kq (Value.bool false)) 4)).alloc (.cells (il .u8 (List.replicate (kq * 64) 0)).toArray 88)).drew := below_drew_alloc ((w5.alloc (.cells (il .u8 (List.replicate (kq * 64) 0)).toArray 88)).alloc (.cells (Array.replicate kq (Value.bool false)) 4)) (.cells (il .u8 (List.replicate (kq * 64) 0)).toArray 88); have HM2 := Lib.hid (HM1.out.next hb); have hm := (FS.new (F := boxF F w) (w := ((w5.alloc (.cells (il .u8 (List.replicate (kq * 64) 0)).toArray 88)).alloc (.cells (Array.replicate kq (Value.bool false)) 4))) (HM1.out.foot) kq (List.replicate (kq * 64) 0) (by simp) (by omega) 88).kin (kin_drew _ _); rw [alloc_size, alloc_size] at hm; have HX5 := Lib.hid hm; clear hm; replace HX3 := Lib.hid (HX3.out.kin (kin_mask hb)); replace HX7 := Lib.hid (HX7.out.kin (kin_mask hb)))
                  refine hK.out _ _ ?_ (fun hS1 => ?_)
                  · (first | exact hS | exact hS.next hb | exact hN)
                  clear hK K hS; have hS := hS1; clear hS1
                  (try simp only [Act.put, List.setIfInBounds_toArray, List.set_cons_zero, List.set_cons_succ])
                  refine wpAnyH_take (i := 8) (oi := ({ dst := some 60, op := Op.build 75 #[(0, Operand.tmp 53), (1, Operand.tmp 55), (2, Operand.tmp 57), (3, Operand.tmp 59)], type := 75, pos := "ref.go:137", after := #[{ on := 1, ground := Ground.data }, { on := 3, ground := Ground.data }, { on := 5, ground := Ground.data }, { on := 7, ground := Ground.data }], guard := none } : Oper)) (v := ?_) rfl (by kernel_rfl) (by kernel_rfl) (by kernel_rfl) (fun _ _ _ h => h) (Or.inl ⟨by rfl, ?_⟩) hS ?_
                  rotate_left
                  · (intro w hSw; (try dsimp only at hSw); go_simp; try with_reducible rfl)
                  (try simp only [Act.put, List.setIfInBounds_toArray, List.set_cons_zero, List.set_cons_succ])
                  refine rg_one 9 ({ dst := some 61, op := Op.call { callee := Callee.value (Operand.func 41), args := #[Operand.tmp 52, Operand.tmp 60], argTypes := #[28, 75] }, type := 28, pos := "ref.go:137", after := #[{ on := 0, ground := Ground.data }, { on := 8, ground := Ground.data }], guard := none } : Oper) (by kernel_rfl) rfl (fun K hK => ?_)
                  go_simp
                  (go_at_call 41; (refine (rwith_any (boxF F w) _ d2 (some ⟨w5.heap.size, 0, none⟩) kq (some ⟨w5.heap.size + 1 + 1, 0, none⟩) kq (some ⟨w5.heap.size + 1, 0, none⟩) kq (newF s kq) _ HM2.out.foot (HM2.out.rd.re HL2.out) ⟨_, _, _, rfl, HX3.out, HX5.out, HX7.out⟩ HLN.out).mono ?_); rintro e w8 ⟨v8, rfl, hr8, hb⟩; have HS8 := Lib.hid (HM2.out.next hb); obtain ⟨a7, n7, c7, rfl, _⟩ := hr8.agg; have HR8 := Lib.hid hr8)
                  refine hK.out _ _ ?_ (fun hS1 => ?_)
                  · (first | exact hS | exact hS.next hb | exact hN)
                  clear hK K hS; have hS := hS1; clear hS1
                  (try simp only [Act.put, List.setIfInBounds_toArray, List.set_cons_zero, List.set_cons_succ])
                  refine rg_one 10 ({ dst := none, op := Op.store 28 (Operand.tmp 6) (Operand.tmp 61), type := 0, pos := "ref.go:137", after := #[{ on := 9, ground := Ground.data }, { on := 9, ground := Ground.chain }, { on := 0, ground := Ground.phase }, { on := 1, ground := Ground.phase }, { on := 2, ground := Ground.phase }, { on := 3, ground := Ground.phase }, { on := 4, ground := Ground.phase }, { on := 5, ground := Ground.phase }, { on := 6, ground := Ground.phase }, { on := 7, ground := Ground.phase }, { on := 8, ground := Ground.phase }, { on := 9, ground := Ground.phase }], guard := none } : Oper) (by kernel_rfl) rfl (fun K hK => ?_)
                  rw [if_pos (by rfl)]; refine wp_store_row 28 (.tmp 6) (.tmp 61) rfl (w.heap.size + 1) #[.slice a7 n7 c7, .int .i64 (d2.withF (newF s kq)).cap, .int .i64 (d2.withF (newF s kq)).ops, .bool (d2.withF (newF s kq)).down, .bool (d2.withF (newF s kq)).told, .int .i64 (d2.withF (newF s kq)).after] rfl rfl _ dz HS8.out.d1.1 disk_info (by rfl) (by simp [Value.oneCell']) ?_; have hN := hS.over (w.heap.size + 1) (by have := HS4.out.size; omega) #[.slice a7 n7 c7, .int .i64 (d2.withF (newF s kq)).cap, .int .i64 (d2.withF (newF s kq)).ops, .bool (d2.withF (newF s kq)).down, .bool (d2.withF (newF s kq)).told, .int .i64 (d2.withF (newF s kq)).after]
                  refine hK.out _ _ ?_ (fun hS1 => ?_)
                  · (first | exact hS | exact hS.next hb | exact hN)
                  clear hK K hS; have hS := hS1; clear hS1
                  (try simp only [Act.put])
                  refine wpAnyH_take (i := 11) (oi := ({ dst := some 7, op := Op.assign (Operand.const (Value.int IntKind.i64 0)), type := 30, pos := "ref.go:137", after := #[{ on := 10, ground := Ground.chain }, { on := 0, ground := Ground.phase }, { on := 1, ground := Ground.phase }, { on := 2, ground := Ground.phase }, { on := 3, ground := Ground.phase }, { on := 4, ground := Ground.phase }, { on := 5, ground := Ground.phase }, { on := 6, ground := Ground.phase }, { on := 7, ground := Ground.phase }, { on := 8, ground := Ground.phase }, { on := 9, ground := Ground.phase }, { on := 10, ground := Ground.phase }], guard := none } : Oper)) (v := ?_) rfl (by kernel_rfl) (by kernel_rfl) (by kernel_rfl) (fun _ _ _ h => h) (Or.inl ⟨by rfl, ?_⟩) hS ?_
                  rotate_left
                  · (intro w hSw; (try dsimp only at hSw); go_simp; try with_reducible rfl)
                  (try simp only [Act.put, List.setIfInBounds_toArray, List.set_cons_zero, List.set_cons_succ])
                  refine wpAnyH_done (by kernel_rfl) ?_ _
                  clear hS
                  go_wp2
                  obtain ⟨e1, e2, e3⟩ := HS8.out.done (cs' := #[.slice a7 n7 c7, .int .i64 (d2.withF (newF s kq)).cap, .int .i64 (d2.withF (newF s kq)).ops, .bool (d2.withF (newF s kq)).down, .bool (d2.withF (newF s kq)).told, .int .i64 (d2.withF (newF s kq)).after]) HR8.out rfl
                  exact bodyPost_ret_by (results_row_tmp rfl _ _ (w.heap.size + 1) _ rfl (disk_load e1.1 rfl)) rfl ⟨_, rfl, e2, e3⟩
              · skip
                go_simp
                (have hb : Below w5.drew.heap.size w5.drew (w5.alloc (.cells (il .u8 (List.replicate (kq * 64) 0)).toArray 88)).drew := below_drew_alloc w5 (.cells (il .u8 (List.replicate (kq * 64) 0)).toArray 88); have HM0 := Lib.hid (HS6.out.next hb); have hm := (FS.new (F := boxF F w) (w := w5) HS5.out.foot kq (List.replicate (kq * 64) 0) (by simp) (by omega) 88).kin (kin_drew _ _); have HX5 := Lib.hid hm; clear hm)
                refine hK.out _ _ ?_ (fun hS1 => ?_)
                · (first | exact hS | exact hS.next hb | exact hN)
                clear hK K hS; have hS := hS1; clear hS1
                (try simp only [Act.put, List.setIfInBounds_toArray, List.set_cons_zero, List.set_cons_succ])
                refine rg_both 3 7 ({ dst := some 55, op := Op.makeSlice 65 (Operand.tmp 54) (Operand.tmp 54), type := 65, pos := "ref.go:137", after := #[{ on := 2, ground := Ground.data }, { on := 2, ground := Ground.data }], guard := none } : Oper) ({ dst := some 59, op := Op.makeSlice 73 (Operand.tmp 58) (Operand.tmp 58), type := 73, pos := "ref.go:137", after := #[{ on := 6, ground := Ground.data }, { on := 6, ground := Ground.data }], guard := none } : Oper) (by kernel_rfl) rfl rfl (fun K hK => ?_) (fun K hK => ?_)
                · skip
                  go_simp
                  (have hb : Below (w5.alloc (.cells (il .u8 (List.replicate (kq * 64) 0)).toArray 88)).drew.heap.size (w5.alloc (.cells (il .u8 (List.replicate (kq * 64) 0)).toArray 88)).drew ((w5.alloc (.cells (il .u8 (List.replicate (kq * 64) 0)).toArray 88)).alloc (.cells (il .u8 (List.replicate (kq * 64) 0)).toArray 88)).drew := below_drew_alloc (w5.alloc (.cells (il .u8 (List.replicate (kq * 64) 0)).toArray 88)) (.cells (il .u8 (List.replicate (kq * 64) 0)).toArray 88); have HM1 := Lib.hid (HM0.out.next hb); have hm := (FS.new (F := boxF F w) (w := (w5.alloc (.cells (il .u8 (List.replicate (kq * 64) 0)).toArray 88))) (HM0.out.foot) kq (List.replicate (kq * 64) 0) (by simp) (by omega) 88).kin (kin_drew _ _); rw [alloc_size] at hm; have HX3 := Lib.hid hm; clear hm; replace HX5 := Lib.hid (HX5.out.kin (kin_mask hb)))
                  refine hK.out _ _ ?_ (fun hS1 => ?_)
                  · (first | exact hS | exact hS.next hb | exact hN)
                  clear hK K hS; have hS := hS1; clear hS1
                  (try simp only [Act.put, List.setIfInBounds_toArray, List.set_cons_zero, List.set_cons_succ])
                  refine rg_one 7 ({ dst := some 59, op := Op.makeSlice 73 (Operand.tmp 58) (Operand.tmp 58), type := 73, pos := "ref.go:137", after := #[{ on := 6, ground := Ground.data }, { on := 6, ground := Ground.data }], guard := none } : Oper) (by kernel_rfl) rfl (fun K hK => ?_)
                  go_simp
                  (have hb : Below ((w5.alloc (.cells (il .u8 (List.replicate (kq * 64) 0)).toArray 88)).alloc (.cells (il .u8 (List.replicate (kq * 64) 0)).toArray 88)).drew.heap.size ((w5.alloc (.cells (il .u8 (List.replicate (kq * 64) 0)).toArray 88)).alloc (.cells (il .u8 (List.replicate (kq * 64) 0)).toArray 88)).drew (((w5.alloc (.cells (il .u8 (List.replicate (kq * 64) 0)).toArray 88)).alloc (.cells (il .u8 (List.replicate (kq * 64) 0)).toArray 88)).alloc (.cells (Array.replicate kq (Value.bool false)) 4)).drew := below_drew_alloc ((w5.alloc (.cells (il .u8 (List.replicate (kq * 64) 0)).toArray 88)).alloc (.cells (il .u8 (List.replicate (kq * 64) 0)).toArray 88)) (.cells (Array.replicate kq (Value.bool false)) 4); have HM2 := Lib.hid (HM1.out.next hb); have hm := (BS.fresh (F := boxF F w) (w := ((w5.alloc (.cells (il .u8 (List.replicate (kq * 64) 0)).toArray 88)).alloc (.cells (il .u8 (List.replicate (kq * 64) 0)).toArray 88))) (HM1.out.foot) kq (by omega) 4).kin (kin_drew _ _); rw [alloc_size, alloc_size] at hm; have HX7 := Lib.hid hm; clear hm; replace HX5 := Lib.hid (HX5.out.kin (kin_mask hb)); replace HX3 := Lib.hid (HX3.out.kin (kin_mask hb)))
                  refine hK.out _ _ ?_ (fun hS1 => ?_)
                  · (first | exact hS | exact hS.next hb | exact hN)
                  clear hK K hS; have hS := hS1; clear hS1
                  (try simp only [Act.put, List.setIfInBounds_toArray, List.set_cons_zero, List.set_cons_succ])
                  refine wpAnyH_take (i := 8) (oi := ({ dst := some 60, op := Op.build 75 #[(0, Operand.tmp 53), (1, Operand.tmp 55), (2, Operand.tmp 57), (3, Operand.tmp 59)], type := 75, pos := "ref.go:137", after := #[{ on := 1, ground := Ground.data }, { on := 3, ground := Ground.data }, { on := 5, ground := Ground.data }, { on := 7, ground := Ground.data }], guard := none } : Oper)) (v := ?_) rfl (by kernel_rfl) (by kernel_rfl) (by kernel_rfl) (fun _ _ _ h => h) (Or.inl ⟨by rfl, ?_⟩) hS ?_
                  rotate_left
                  · (intro w hSw; (try dsimp only at hSw); go_simp; try with_reducible rfl)
                  (try simp only [Act.put, List.setIfInBounds_toArray, List.set_cons_zero, List.set_cons_succ])
                  refine rg_one 9 ({ dst := some 61, op := Op.call { callee := Callee.value (Operand.func 41), args := #[Operand.tmp 52, Operand.tmp 60], argTypes := #[28, 75] }, type := 28, pos := "ref.go:137", after := #[{ on := 0, ground := Ground.data }, { on := 8, ground := Ground.data }], guard := none } : Oper) (by kernel_rfl) rfl (fun K hK => ?_)
                  go_simp
                  (go_at_call 41; (refine (rwith_any (boxF F w) _ d2 (some ⟨w5.heap.size + 1, 0, none⟩) kq (some ⟨w5.heap.size, 0, none⟩) kq (some ⟨w5.heap.size + 1 + 1, 0, none⟩) kq (newF s kq) _ HM2.out.foot (HM2.out.rd.re HL2.out) ⟨_, _, _, rfl, HX3.out, HX5.out, HX7.out⟩ HLN.out).mono ?_); rintro e w8 ⟨v8, rfl, hr8, hb⟩; have HS8 := Lib.hid (HM2.out.next hb); obtain ⟨a7, n7, c7, rfl, _⟩ := hr8.agg; have HR8 := Lib.hid hr8)
                  refine hK.out _ _ ?_ (fun hS1 => ?_)
                  · (first | exact hS | exact hS.next hb | exact hN)
                  clear hK K hS; have hS := hS1; clear hS1
                  (try simp only [Act.put, List.setIfInBounds_toArray, List.set_cons_zero, List.set_cons_succ])
                  refine rg_one 10 ({ dst := none, op := Op.store 28 (Operand.tmp 6) (Operand.tmp 61), type := 0, pos := "ref.go:137", after := #[{ on := 9, ground := Ground.data }, { on := 9, ground := Ground.chain }, { on := 0, ground := Ground.phase }, { on := 1, ground := Ground.phase }, { on := 2, ground := Ground.phase }, { on := 3, ground := Ground.phase }, { on := 4, ground := Ground.phase }, { on := 5, ground := Ground.phase }, { on := 6, ground := Ground.phase }, { on := 7, ground := Ground.phase }, { on := 8, ground := Ground.phase }, { on := 9, ground := Ground.phase }], guard := none } : Oper) (by kernel_rfl) rfl (fun K hK => ?_)
                  rw [if_pos (by rfl)]; refine wp_store_row 28 (.tmp 6) (.tmp 61) rfl (w.heap.size + 1) #[.slice a7 n7 c7, .int .i64 (d2.withF (newF s kq)).cap, .int .i64 (d2.withF (newF s kq)).ops, .bool (d2.withF (newF s kq)).down, .bool (d2.withF (newF s kq)).told, .int .i64 (d2.withF (newF s kq)).after] rfl rfl _ dz HS8.out.d1.1 disk_info (by rfl) (by simp [Value.oneCell']) ?_; have hN := hS.over (w.heap.size + 1) (by have := HS4.out.size; omega) #[.slice a7 n7 c7, .int .i64 (d2.withF (newF s kq)).cap, .int .i64 (d2.withF (newF s kq)).ops, .bool (d2.withF (newF s kq)).down, .bool (d2.withF (newF s kq)).told, .int .i64 (d2.withF (newF s kq)).after]
                  refine hK.out _ _ ?_ (fun hS1 => ?_)
                  · (first | exact hS | exact hS.next hb | exact hN)
                  clear hK K hS; have hS := hS1; clear hS1
                  (try simp only [Act.put])
                  refine wpAnyH_take (i := 11) (oi := ({ dst := some 7, op := Op.assign (Operand.const (Value.int IntKind.i64 0)), type := 30, pos := "ref.go:137", after := #[{ on := 10, ground := Ground.chain }, { on := 0, ground := Ground.phase }, { on := 1, ground := Ground.phase }, { on := 2, ground := Ground.phase }, { on := 3, ground := Ground.phase }, { on := 4, ground := Ground.phase }, { on := 5, ground := Ground.phase }, { on := 6, ground := Ground.phase }, { on := 7, ground := Ground.phase }, { on := 8, ground := Ground.phase }, { on := 9, ground := Ground.phase }, { on := 10, ground := Ground.phase }], guard := none } : Oper)) (v := ?_) rfl (by kernel_rfl) (by kernel_rfl) (by kernel_rfl) (fun _ _ _ h => h) (Or.inl ⟨by rfl, ?_⟩) hS ?_
                  rotate_left
                  · (intro w hSw; (try dsimp only at hSw); go_simp; try with_reducible rfl)
                  (try simp only [Act.put, List.setIfInBounds_toArray, List.set_cons_zero, List.set_cons_succ])
                  refine wpAnyH_done (by kernel_rfl) ?_ _
                  clear hS
                  go_wp2
                  obtain ⟨e1, e2, e3⟩ := HS8.out.done (cs' := #[.slice a7 n7 c7, .int .i64 (d2.withF (newF s kq)).cap, .int .i64 (d2.withF (newF s kq)).ops, .bool (d2.withF (newF s kq)).down, .bool (d2.withF (newF s kq)).told, .int .i64 (d2.withF (newF s kq)).after]) HR8.out rfl
                  exact bodyPost_ret_by (results_row_tmp rfl _ _ (w.heap.size + 1) _ rfl (disk_load e1.1 rfl)) rfl ⟨_, rfl, e2, e3⟩
                · skip
                  go_simp
                  (have hb : Below (w5.alloc (.cells (il .u8 (List.replicate (kq * 64) 0)).toArray 88)).drew.heap.size (w5.alloc (.cells (il .u8 (List.replicate (kq * 64) 0)).toArray 88)).drew ((w5.alloc (.cells (il .u8 (List.replicate (kq * 64) 0)).toArray 88)).alloc (.cells (Array.replicate kq (Value.bool false)) 4)).drew := below_drew_alloc (w5.alloc (.cells (il .u8 (List.replicate (kq * 64) 0)).toArray 88)) (.cells (Array.replicate kq (Value.bool false)) 4); have HM1 := Lib.hid (HM0.out.next hb); have hm := (BS.fresh (F := boxF F w) (w := (w5.alloc (.cells (il .u8 (List.replicate (kq * 64) 0)).toArray 88))) (HM0.out.foot) kq (by omega) 4).kin (kin_drew _ _); rw [alloc_size] at hm; have HX7 := Lib.hid hm; clear hm; replace HX5 := Lib.hid (HX5.out.kin (kin_mask hb)))
                  refine hK.out _ _ ?_ (fun hS1 => ?_)
                  · (first | exact hS | exact hS.next hb | exact hN)
                  clear hK K hS; have hS := hS1; clear hS1
                  (try simp only [Act.put, List.setIfInBounds_toArray, List.set_cons_zero, List.set_cons_succ])
                  refine rg_one 3 ({ dst := some 55, op := Op.makeSlice 65 (Operand.tmp 54) (Operand.tmp 54), type := 65, pos := "ref.go:137", after := #[{ on := 2, ground := Ground.data }, { on := 2, ground := Ground.data }], guard := none } : Oper) (by kernel_rfl) rfl (fun K hK => ?_)
                  go_simp
                  (have hb : Below ((w5.alloc (.cells (il .u8 (List.replicate (kq * 64) 0)).toArray 88)).alloc (.cells (Array.replicate kq (Value.bool false)) 4)).drew.heap.size ((w5.alloc (.cells (il .u8 (List.replicate (kq * 64) 0)).toArray 88)).alloc (.cells (Array.replicate kq (Value.bool false)) 4)).drew (((w5.alloc (.cells (il .u8 (List.replicate (kq * 64) 0)).toArray 88)).alloc (.cells (Array.replicate kq (Value.bool false)) 4)).alloc (.cells (il .u8 (List.replicate (kq * 64) 0)).toArray 88)).drew := below_drew_alloc ((w5.alloc (.cells (il .u8 (List.replicate (kq * 64) 0)).toArray 88)).alloc (.cells (Array.replicate kq (Value.bool false)) 4)) (.cells (il .u8 (List.replicate (kq * 64) 0)).toArray 88); have HM2 := Lib.hid (HM1.out.next hb); have hm := (FS.new (F := boxF F w) (w := ((w5.alloc (.cells (il .u8 (List.replicate (kq * 64) 0)).toArray 88)).alloc (.cells (Array.replicate kq (Value.bool false)) 4))) (HM1.out.foot) kq (List.replicate (kq * 64) 0) (by simp) (by omega) 88).kin (kin_drew _ _); rw [alloc_size, alloc_size] at hm; have HX3 := Lib.hid hm; clear hm; replace HX5 := Lib.hid (HX5.out.kin (kin_mask hb)); replace HX7 := Lib.hid (HX7.out.kin (kin_mask hb)))
                  refine hK.out _ _ ?_ (fun hS1 => ?_)
                  · (first | exact hS | exact hS.next hb | exact hN)
                  clear hK K hS; have hS := hS1; clear hS1
                  (try simp only [Act.put, List.setIfInBounds_toArray, List.set_cons_zero, List.set_cons_succ])
                  refine wpAnyH_take (i := 8) (oi := ({ dst := some 60, op := Op.build 75 #[(0, Operand.tmp 53), (1, Operand.tmp 55), (2, Operand.tmp 57), (3, Operand.tmp 59)], type := 75, pos := "ref.go:137", after := #[{ on := 1, ground := Ground.data }, { on := 3, ground := Ground.data }, { on := 5, ground := Ground.data }, { on := 7, ground := Ground.data }], guard := none } : Oper)) (v := ?_) rfl (by kernel_rfl) (by kernel_rfl) (by kernel_rfl) (fun _ _ _ h => h) (Or.inl ⟨by rfl, ?_⟩) hS ?_
                  rotate_left
                  · (intro w hSw; (try dsimp only at hSw); go_simp; try with_reducible rfl)
                  (try simp only [Act.put, List.setIfInBounds_toArray, List.set_cons_zero, List.set_cons_succ])
                  refine rg_one 9 ({ dst := some 61, op := Op.call { callee := Callee.value (Operand.func 41), args := #[Operand.tmp 52, Operand.tmp 60], argTypes := #[28, 75] }, type := 28, pos := "ref.go:137", after := #[{ on := 0, ground := Ground.data }, { on := 8, ground := Ground.data }], guard := none } : Oper) (by kernel_rfl) rfl (fun K hK => ?_)
                  go_simp
                  (go_at_call 41; (refine (rwith_any (boxF F w) _ d2 (some ⟨w5.heap.size + 1 + 1, 0, none⟩) kq (some ⟨w5.heap.size, 0, none⟩) kq (some ⟨w5.heap.size + 1, 0, none⟩) kq (newF s kq) _ HM2.out.foot (HM2.out.rd.re HL2.out) ⟨_, _, _, rfl, HX3.out, HX5.out, HX7.out⟩ HLN.out).mono ?_); rintro e w8 ⟨v8, rfl, hr8, hb⟩; have HS8 := Lib.hid (HM2.out.next hb); obtain ⟨a7, n7, c7, rfl, _⟩ := hr8.agg; have HR8 := Lib.hid hr8)
                  refine hK.out _ _ ?_ (fun hS1 => ?_)
                  · (first | exact hS | exact hS.next hb | exact hN)
                  clear hK K hS; have hS := hS1; clear hS1
                  (try simp only [Act.put, List.setIfInBounds_toArray, List.set_cons_zero, List.set_cons_succ])
                  refine rg_one 10 ({ dst := none, op := Op.store 28 (Operand.tmp 6) (Operand.tmp 61), type := 0, pos := "ref.go:137", after := #[{ on := 9, ground := Ground.data }, { on := 9, ground := Ground.chain }, { on := 0, ground := Ground.phase }, { on := 1, ground := Ground.phase }, { on := 2, ground := Ground.phase }, { on := 3, ground := Ground.phase }, { on := 4, ground := Ground.phase }, { on := 5, ground := Ground.phase }, { on := 6, ground := Ground.phase }, { on := 7, ground := Ground.phase }, { on := 8, ground := Ground.phase }, { on := 9, ground := Ground.phase }], guard := none } : Oper) (by kernel_rfl) rfl (fun K hK => ?_)
                  rw [if_pos (by rfl)]; refine wp_store_row 28 (.tmp 6) (.tmp 61) rfl (w.heap.size + 1) #[.slice a7 n7 c7, .int .i64 (d2.withF (newF s kq)).cap, .int .i64 (d2.withF (newF s kq)).ops, .bool (d2.withF (newF s kq)).down, .bool (d2.withF (newF s kq)).told, .int .i64 (d2.withF (newF s kq)).after] rfl rfl _ dz HS8.out.d1.1 disk_info (by rfl) (by simp [Value.oneCell']) ?_; have hN := hS.over (w.heap.size + 1) (by have := HS4.out.size; omega) #[.slice a7 n7 c7, .int .i64 (d2.withF (newF s kq)).cap, .int .i64 (d2.withF (newF s kq)).ops, .bool (d2.withF (newF s kq)).down, .bool (d2.withF (newF s kq)).told, .int .i64 (d2.withF (newF s kq)).after]
                  refine hK.out _ _ ?_ (fun hS1 => ?_)
                  · (first | exact hS | exact hS.next hb | exact hN)
                  clear hK K hS; have hS := hS1; clear hS1
                  (try simp only [Act.put])
                  refine wpAnyH_take (i := 11) (oi := ({ dst := some 7, op := Op.assign (Operand.const (Value.int IntKind.i64 0)), type := 30, pos := "ref.go:137", after := #[{ on := 10, ground := Ground.chain }, { on := 0, ground := Ground.phase }, { on := 1, ground := Ground.phase }, { on := 2, ground := Ground.phase }, { on := 3, ground := Ground.phase }, { on := 4, ground := Ground.phase }, { on := 5, ground := Ground.phase }, { on := 6, ground := Ground.phase }, { on := 7, ground := Ground.phase }, { on := 8, ground := Ground.phase }, { on := 9, ground := Ground.phase }, { on := 10, ground := Ground.phase }], guard := none } : Oper)) (v := ?_) rfl (by kernel_rfl) (by kernel_rfl) (by kernel_rfl) (fun _ _ _ h => h) (Or.inl ⟨by rfl, ?_⟩) hS ?_
                  rotate_left
                  · (intro w hSw; (try dsimp only at hSw); go_simp; try with_reducible rfl)
                  (try simp only [Act.put, List.setIfInBounds_toArray, List.set_cons_zero, List.set_cons_succ])
                  refine wpAnyH_done (by kernel_rfl) ?_ _
                  clear hS
                  go_wp2
                  obtain ⟨e1, e2, e3⟩ := HS8.out.done (cs' := #[.slice a7 n7 c7, .int .i64 (d2.withF (newF s kq)).cap, .int .i64 (d2.withF (newF s kq)).ops, .bool (d2.withF (newF s kq)).down, .bool (d2.withF (newF s kq)).told, .int .i64 (d2.withF (newF s kq)).after]) HR8.out rfl
                  exact bodyPost_ret_by (results_row_tmp rfl _ _ (w.heap.size + 1) _ rfl (disk_load e1.1 rfl)) rfl ⟨_, rfl, e2, e3⟩
              · skip
                go_simp
                (have hb : Below w5.drew.heap.size w5.drew (w5.alloc (.cells (Array.replicate kq (Value.bool false)) 4)).drew := below_drew_alloc w5 (.cells (Array.replicate kq (Value.bool false)) 4); have HM0 := Lib.hid (HS6.out.next hb); have hm := (BS.fresh (F := boxF F w) (w := w5) HS5.out.foot kq (by omega) 4).kin (kin_drew _ _); have HX7 := Lib.hid hm; clear hm)
                refine hK.out _ _ ?_ (fun hS1 => ?_)
                · (first | exact hS | exact hS.next hb | exact hN)
                clear hK K hS; have hS := hS1; clear hS1
                (try simp only [Act.put, List.setIfInBounds_toArray, List.set_cons_zero, List.set_cons_succ])
                refine rg_both 3 5 ({ dst := some 55, op := Op.makeSlice 65 (Operand.tmp 54) (Operand.tmp 54), type := 65, pos := "ref.go:137", after := #[{ on := 2, ground := Ground.data }, { on := 2, ground := Ground.data }], guard := none } : Oper) ({ dst := some 57, op := Op.makeSlice 65 (Operand.tmp 56) (Operand.tmp 56), type := 65, pos := "ref.go:137", after := #[{ on := 4, ground := Ground.data }, { on := 4, ground := Ground.data }], guard := none } : Oper) (by kernel_rfl) rfl rfl (fun K hK => ?_) (fun K hK => ?_)
                · skip
                  go_simp
                  (have hb : Below (w5.alloc (.cells (Array.replicate kq (Value.bool false)) 4)).drew.heap.size (w5.alloc (.cells (Array.replicate kq (Value.bool false)) 4)).drew ((w5.alloc (.cells (Array.replicate kq (Value.bool false)) 4)).alloc (.cells (il .u8 (List.replicate (kq * 64) 0)).toArray 88)).drew := below_drew_alloc (w5.alloc (.cells (Array.replicate kq (Value.bool false)) 4)) (.cells (il .u8 (List.replicate (kq * 64) 0)).toArray 88); have HM1 := Lib.hid (HM0.out.next hb); have hm := (FS.new (F := boxF F w) (w := (w5.alloc (.cells (Array.replicate kq (Value.bool false)) 4))) (HM0.out.foot) kq (List.replicate (kq * 64) 0) (by simp) (by omega) 88).kin (kin_drew _ _); rw [alloc_size] at hm; have HX3 := Lib.hid hm; clear hm; replace HX7 := Lib.hid (HX7.out.kin (kin_mask hb)))
                  refine hK.out _ _ ?_ (fun hS1 => ?_)
                  · (first | exact hS | exact hS.next hb | exact hN)
                  clear hK K hS; have hS := hS1; clear hS1
                  (try simp only [Act.put, List.setIfInBounds_toArray, List.set_cons_zero, List.set_cons_succ])
                  refine rg_one 5 ({ dst := some 57, op := Op.makeSlice 65 (Operand.tmp 56) (Operand.tmp 56), type := 65, pos := "ref.go:137", after := #[{ on := 4, ground := Ground.data }, { on := 4, ground := Ground.data }], guard := none } : Oper) (by kernel_rfl) rfl (fun K hK => ?_)
                  go_simp
                  (have hb : Below ((w5.alloc (.cells (Array.replicate kq (Value.bool false)) 4)).alloc (.cells (il .u8 (List.replicate (kq * 64) 0)).toArray 88)).drew.heap.size ((w5.alloc (.cells (Array.replicate kq (Value.bool false)) 4)).alloc (.cells (il .u8 (List.replicate (kq * 64) 0)).toArray 88)).drew (((w5.alloc (.cells (Array.replicate kq (Value.bool false)) 4)).alloc (.cells (il .u8 (List.replicate (kq * 64) 0)).toArray 88)).alloc (.cells (il .u8 (List.replicate (kq * 64) 0)).toArray 88)).drew := below_drew_alloc ((w5.alloc (.cells (Array.replicate kq (Value.bool false)) 4)).alloc (.cells (il .u8 (List.replicate (kq * 64) 0)).toArray 88)) (.cells (il .u8 (List.replicate (kq * 64) 0)).toArray 88); have HM2 := Lib.hid (HM1.out.next hb); have hm := (FS.new (F := boxF F w) (w := ((w5.alloc (.cells (Array.replicate kq (Value.bool false)) 4)).alloc (.cells (il .u8 (List.replicate (kq * 64) 0)).toArray 88))) (HM1.out.foot) kq (List.replicate (kq * 64) 0) (by simp) (by omega) 88).kin (kin_drew _ _); rw [alloc_size, alloc_size] at hm; have HX5 := Lib.hid hm; clear hm; replace HX7 := Lib.hid (HX7.out.kin (kin_mask hb)); replace HX3 := Lib.hid (HX3.out.kin (kin_mask hb)))
                  refine hK.out _ _ ?_ (fun hS1 => ?_)
                  · (first | exact hS | exact hS.next hb | exact hN)
                  clear hK K hS; have hS := hS1; clear hS1
                  (try simp only [Act.put, List.setIfInBounds_toArray, List.set_cons_zero, List.set_cons_succ])
                  refine wpAnyH_take (i := 8) (oi := ({ dst := some 60, op := Op.build 75 #[(0, Operand.tmp 53), (1, Operand.tmp 55), (2, Operand.tmp 57), (3, Operand.tmp 59)], type := 75, pos := "ref.go:137", after := #[{ on := 1, ground := Ground.data }, { on := 3, ground := Ground.data }, { on := 5, ground := Ground.data }, { on := 7, ground := Ground.data }], guard := none } : Oper)) (v := ?_) rfl (by kernel_rfl) (by kernel_rfl) (by kernel_rfl) (fun _ _ _ h => h) (Or.inl ⟨by rfl, ?_⟩) hS ?_
                  rotate_left
                  · (intro w hSw; (try dsimp only at hSw); go_simp; try with_reducible rfl)
                  (try simp only [Act.put, List.setIfInBounds_toArray, List.set_cons_zero, List.set_cons_succ])
                  refine rg_one 9 ({ dst := some 61, op := Op.call { callee := Callee.value (Operand.func 41), args := #[Operand.tmp 52, Operand.tmp 60], argTypes := #[28, 75] }, type := 28, pos := "ref.go:137", after := #[{ on := 0, ground := Ground.data }, { on := 8, ground := Ground.data }], guard := none } : Oper) (by kernel_rfl) rfl (fun K hK => ?_)
                  go_simp
                  (go_at_call 41; (refine (rwith_any (boxF F w) _ d2 (some ⟨w5.heap.size + 1, 0, none⟩) kq (some ⟨w5.heap.size + 1 + 1, 0, none⟩) kq (some ⟨w5.heap.size, 0, none⟩) kq (newF s kq) _ HM2.out.foot (HM2.out.rd.re HL2.out) ⟨_, _, _, rfl, HX3.out, HX5.out, HX7.out⟩ HLN.out).mono ?_); rintro e w8 ⟨v8, rfl, hr8, hb⟩; have HS8 := Lib.hid (HM2.out.next hb); obtain ⟨a7, n7, c7, rfl, _⟩ := hr8.agg; have HR8 := Lib.hid hr8)
                  refine hK.out _ _ ?_ (fun hS1 => ?_)
                  · (first | exact hS | exact hS.next hb | exact hN)
                  clear hK K hS; have hS := hS1; clear hS1
                  (try simp only [Act.put, List.setIfInBounds_toArray, List.set_cons_zero, List.set_cons_succ])
                  refine rg_one 10 ({ dst := none, op := Op.store 28 (Operand.tmp 6) (Operand.tmp 61), type := 0, pos := "ref.go:137", after := #[{ on := 9, ground := Ground.data }, { on := 9, ground := Ground.chain }, { on := 0, ground := Ground.phase }, { on := 1, ground := Ground.phase }, { on := 2, ground := Ground.phase }, { on := 3, ground := Ground.phase }, { on := 4, ground := Ground.phase }, { on := 5, ground := Ground.phase }, { on := 6, ground := Ground.phase }, { on := 7, ground := Ground.phase }, { on := 8, ground := Ground.phase }, { on := 9, ground := Ground.phase }], guard := none } : Oper) (by kernel_rfl) rfl (fun K hK => ?_)
                  rw [if_pos (by rfl)]; refine wp_store_row 28 (.tmp 6) (.tmp 61) rfl (w.heap.size + 1) #[.slice a7 n7 c7, .int .i64 (d2.withF (newF s kq)).cap, .int .i64 (d2.withF (newF s kq)).ops, .bool (d2.withF (newF s kq)).down, .bool (d2.withF (newF s kq)).told, .int .i64 (d2.withF (newF s kq)).after] rfl rfl _ dz HS8.out.d1.1 disk_info (by rfl) (by simp [Value.oneCell']) ?_; have hN := hS.over (w.heap.size + 1) (by have := HS4.out.size; omega) #[.slice a7 n7 c7, .int .i64 (d2.withF (newF s kq)).cap, .int .i64 (d2.withF (newF s kq)).ops, .bool (d2.withF (newF s kq)).down, .bool (d2.withF (newF s kq)).told, .int .i64 (d2.withF (newF s kq)).after]
                  refine hK.out _ _ ?_ (fun hS1 => ?_)
                  · (first | exact hS | exact hS.next hb | exact hN)
                  clear hK K hS; have hS := hS1; clear hS1
                  (try simp only [Act.put])
                  refine wpAnyH_take (i := 11) (oi := ({ dst := some 7, op := Op.assign (Operand.const (Value.int IntKind.i64 0)), type := 30, pos := "ref.go:137", after := #[{ on := 10, ground := Ground.chain }, { on := 0, ground := Ground.phase }, { on := 1, ground := Ground.phase }, { on := 2, ground := Ground.phase }, { on := 3, ground := Ground.phase }, { on := 4, ground := Ground.phase }, { on := 5, ground := Ground.phase }, { on := 6, ground := Ground.phase }, { on := 7, ground := Ground.phase }, { on := 8, ground := Ground.phase }, { on := 9, ground := Ground.phase }, { on := 10, ground := Ground.phase }], guard := none } : Oper)) (v := ?_) rfl (by kernel_rfl) (by kernel_rfl) (by kernel_rfl) (fun _ _ _ h => h) (Or.inl ⟨by rfl, ?_⟩) hS ?_
                  rotate_left
                  · (intro w hSw; (try dsimp only at hSw); go_simp; try with_reducible rfl)
                  (try simp only [Act.put, List.setIfInBounds_toArray, List.set_cons_zero, List.set_cons_succ])
                  refine wpAnyH_done (by kernel_rfl) ?_ _
                  clear hS
                  go_wp2
                  obtain ⟨e1, e2, e3⟩ := HS8.out.done (cs' := #[.slice a7 n7 c7, .int .i64 (d2.withF (newF s kq)).cap, .int .i64 (d2.withF (newF s kq)).ops, .bool (d2.withF (newF s kq)).down, .bool (d2.withF (newF s kq)).told, .int .i64 (d2.withF (newF s kq)).after]) HR8.out rfl
                  exact bodyPost_ret_by (results_row_tmp rfl _ _ (w.heap.size + 1) _ rfl (disk_load e1.1 rfl)) rfl ⟨_, rfl, e2, e3⟩
                · skip
                  go_simp
                  (have hb : Below (w5.alloc (.cells (Array.replicate kq (Value.bool false)) 4)).drew.heap.size (w5.alloc (.cells (Array.replicate kq (Value.bool false)) 4)).drew ((w5.alloc (.cells (Array.replicate kq (Value.bool false)) 4)).alloc (.cells (il .u8 (List.replicate (kq * 64) 0)).toArray 88)).drew := below_drew_alloc (w5.alloc (.cells (Array.replicate kq (Value.bool false)) 4)) (.cells (il .u8 (List.replicate (kq * 64) 0)).toArray 88); have HM1 := Lib.hid (HM0.out.next hb); have hm := (FS.new (F := boxF F w) (w := (w5.alloc (.cells (Array.replicate kq (Value.bool false)) 4))) (HM0.out.foot) kq (List.replicate (kq * 64) 0) (by simp) (by omega) 88).kin (kin_drew _ _); rw [alloc_size] at hm; have HX5 := Lib.hid hm; clear hm; replace HX7 := Lib.hid (HX7.out.kin (kin_mask hb)))
                  refine hK.out _ _ ?_ (fun hS1 => ?_)
                  · (first | exact hS | exact hS.next hb | exact hN)
                  clear hK K hS; have hS := hS1; clear hS1
                  (try simp only [Act.put, List.setIfInBounds_toArray, List.set_cons_zero, List.set_cons_succ])
                  refine rg_one 3 ({ dst := some 55, op := Op.makeSlice 65 (Operand.tmp 54) (Operand.tmp 54), type := 65, pos := "ref.go:137", after := #[{ on := 2, ground := Ground.data }, { on := 2, ground := Ground.data }], guard := none } : Oper) (by kernel_rfl) rfl (fun K hK => ?_)
                  go_simp
                  (have hb : Below ((w5.alloc (.cells (Array.replicate kq (Value.bool false)) 4)).alloc (.cells (il .u8 (List.replicate (kq * 64) 0)).toArray 88)).drew.heap.size ((w5.alloc (.cells (Array.replicate kq (Value.bool false)) 4)).alloc (.cells (il .u8 (List.replicate (kq * 64) 0)).toArray 88)).drew (((w5.alloc (.cells (Array.replicate kq (Value.bool false)) 4)).alloc (.cells (il .u8 (List.replicate (kq * 64) 0)).toArray 88)).alloc (.cells (il .u8 (List.replicate (kq * 64) 0)).toArray 88)).drew := below_drew_alloc ((w5.alloc (.cells (Array.replicate kq (Value.bool false)) 4)).alloc (.cells (il .u8 (List.replicate (kq * 64) 0)).toArray 88)) (.cells (il .u8 (List.replicate (kq * 64) 0)).toArray 88); have HM2 := Lib.hid (HM1.out.next hb); have hm := (FS.new (F := boxF F w) (w := ((w5.alloc (.cells (Array.replicate kq (Value.bool false)) 4)).alloc (.cells (il .u8 (List.replicate (kq * 64) 0)).toArray 88))) (HM1.out.foot) kq (List.replicate (kq * 64) 0) (by simp) (by omega) 88).kin (kin_drew _ _); rw [alloc_size, alloc_size] at hm; have HX3 := Lib.hid hm; clear hm; replace HX7 := Lib.hid (HX7.out.kin (kin_mask hb)); replace HX5 := Lib.hid (HX5.out.kin (kin_mask hb)))
                  refine hK.out _ _ ?_ (fun hS1 => ?_)
                  · (first | exact hS | exact hS.next hb | exact hN)
                  clear hK K hS; have hS := hS1; clear hS1
                  (try simp only [Act.put, List.setIfInBounds_toArray, List.set_cons_zero, List.set_cons_succ])
                  refine wpAnyH_take (i := 8) (oi := ({ dst := some 60, op := Op.build 75 #[(0, Operand.tmp 53), (1, Operand.tmp 55), (2, Operand.tmp 57), (3, Operand.tmp 59)], type := 75, pos := "ref.go:137", after := #[{ on := 1, ground := Ground.data }, { on := 3, ground := Ground.data }, { on := 5, ground := Ground.data }, { on := 7, ground := Ground.data }], guard := none } : Oper)) (v := ?_) rfl (by kernel_rfl) (by kernel_rfl) (by kernel_rfl) (fun _ _ _ h => h) (Or.inl ⟨by rfl, ?_⟩) hS ?_
                  rotate_left
                  · (intro w hSw; (try dsimp only at hSw); go_simp; try with_reducible rfl)
                  (try simp only [Act.put, List.setIfInBounds_toArray, List.set_cons_zero, List.set_cons_succ])
                  refine rg_one 9 ({ dst := some 61, op := Op.call { callee := Callee.value (Operand.func 41), args := #[Operand.tmp 52, Operand.tmp 60], argTypes := #[28, 75] }, type := 28, pos := "ref.go:137", after := #[{ on := 0, ground := Ground.data }, { on := 8, ground := Ground.data }], guard := none } : Oper) (by kernel_rfl) rfl (fun K hK => ?_)
                  go_simp
                  (go_at_call 41; (refine (rwith_any (boxF F w) _ d2 (some ⟨w5.heap.size + 1 + 1, 0, none⟩) kq (some ⟨w5.heap.size + 1, 0, none⟩) kq (some ⟨w5.heap.size, 0, none⟩) kq (newF s kq) _ HM2.out.foot (HM2.out.rd.re HL2.out) ⟨_, _, _, rfl, HX3.out, HX5.out, HX7.out⟩ HLN.out).mono ?_); rintro e w8 ⟨v8, rfl, hr8, hb⟩; have HS8 := Lib.hid (HM2.out.next hb); obtain ⟨a7, n7, c7, rfl, _⟩ := hr8.agg; have HR8 := Lib.hid hr8)
                  refine hK.out _ _ ?_ (fun hS1 => ?_)
                  · (first | exact hS | exact hS.next hb | exact hN)
                  clear hK K hS; have hS := hS1; clear hS1
                  (try simp only [Act.put, List.setIfInBounds_toArray, List.set_cons_zero, List.set_cons_succ])
                  refine rg_one 10 ({ dst := none, op := Op.store 28 (Operand.tmp 6) (Operand.tmp 61), type := 0, pos := "ref.go:137", after := #[{ on := 9, ground := Ground.data }, { on := 9, ground := Ground.chain }, { on := 0, ground := Ground.phase }, { on := 1, ground := Ground.phase }, { on := 2, ground := Ground.phase }, { on := 3, ground := Ground.phase }, { on := 4, ground := Ground.phase }, { on := 5, ground := Ground.phase }, { on := 6, ground := Ground.phase }, { on := 7, ground := Ground.phase }, { on := 8, ground := Ground.phase }, { on := 9, ground := Ground.phase }], guard := none } : Oper) (by kernel_rfl) rfl (fun K hK => ?_)
                  rw [if_pos (by rfl)]; refine wp_store_row 28 (.tmp 6) (.tmp 61) rfl (w.heap.size + 1) #[.slice a7 n7 c7, .int .i64 (d2.withF (newF s kq)).cap, .int .i64 (d2.withF (newF s kq)).ops, .bool (d2.withF (newF s kq)).down, .bool (d2.withF (newF s kq)).told, .int .i64 (d2.withF (newF s kq)).after] rfl rfl _ dz HS8.out.d1.1 disk_info (by rfl) (by simp [Value.oneCell']) ?_; have hN := hS.over (w.heap.size + 1) (by have := HS4.out.size; omega) #[.slice a7 n7 c7, .int .i64 (d2.withF (newF s kq)).cap, .int .i64 (d2.withF (newF s kq)).ops, .bool (d2.withF (newF s kq)).down, .bool (d2.withF (newF s kq)).told, .int .i64 (d2.withF (newF s kq)).after]
                  refine hK.out _ _ ?_ (fun hS1 => ?_)
                  · (first | exact hS | exact hS.next hb | exact hN)
                  clear hK K hS; have hS := hS1; clear hS1
                  (try simp only [Act.put])
                  refine wpAnyH_take (i := 11) (oi := ({ dst := some 7, op := Op.assign (Operand.const (Value.int IntKind.i64 0)), type := 30, pos := "ref.go:137", after := #[{ on := 10, ground := Ground.chain }, { on := 0, ground := Ground.phase }, { on := 1, ground := Ground.phase }, { on := 2, ground := Ground.phase }, { on := 3, ground := Ground.phase }, { on := 4, ground := Ground.phase }, { on := 5, ground := Ground.phase }, { on := 6, ground := Ground.phase }, { on := 7, ground := Ground.phase }, { on := 8, ground := Ground.phase }, { on := 9, ground := Ground.phase }, { on := 10, ground := Ground.phase }], guard := none } : Oper)) (v := ?_) rfl (by kernel_rfl) (by kernel_rfl) (by kernel_rfl) (fun _ _ _ h => h) (Or.inl ⟨by rfl, ?_⟩) hS ?_
                  rotate_left
                  · (intro w hSw; (try dsimp only at hSw); go_simp; try with_reducible rfl)
                  (try simp only [Act.put, List.setIfInBounds_toArray, List.set_cons_zero, List.set_cons_succ])
                  refine wpAnyH_done (by kernel_rfl) ?_ _
                  clear hS
                  go_wp2
                  obtain ⟨e1, e2, e3⟩ := HS8.out.done (cs' := #[.slice a7 n7 c7, .int .i64 (d2.withF (newF s kq)).cap, .int .i64 (d2.withF (newF s kq)).ops, .bool (d2.withF (newF s kq)).down, .bool (d2.withF (newF s kq)).told, .int .i64 (d2.withF (newF s kq)).after]) HR8.out rfl
                  exact bodyPost_ret_by (results_row_tmp rfl _ _ (w.heap.size + 1) _ rfl (disk_load e1.1 rfl)) rfl ⟨_, rfl, e2, e3⟩
            · rw [AD.opR_not d _ ho]
              have h9 : d.ope = 9 := d.ope_or.resolve_left ho
              rw [h9] at HOP
              have HL2 := Lib.hid (AD.opd_L d)
              obtain ⟨d2, hd2⟩ : ∃ d2, d.opd = d2 := ⟨_, rfl⟩
              rw [hd2] at HOP HL2 ⊢
              have HLN := Lib.hid (show d2.L.length ≤ 1000000 from by rw [HL2.out]; exact hn1)
              clear ho hn1 hd2 hd h9
              go_enter Tryd.func17, Tryd.ntmps17
              go_wp2_with (first
                | (refine wpList_load_row rfl 28 _ rfl w.heap.size rfl _ _ (0, 0) _ HS3.out.d0.1 Tryd.underlying28 rfl HS3.out.d0.info ?_)
                | (refine wpList_load_row rfl 28 _ rfl w.heap.size rfl _ _ (0, 0) _ HS.out.d0.1 Tryd.underlying28 rfl HS.out.d0.info ?_)
                | (go_at_call 37; (with_reducible refine (rright_any s _ hss).mono ?_); rintro e w' ⟨rfl, rfl⟩; rw [HRT.out])
                | (go_at_call 38; (with_reducible refine (HFD.out _ (HS.out.rd.kin (unmask _ _))).mono ?_); rintro e w3 ⟨rfl, hb⟩; have HS3 := Lib.hid (HS.out.next hb); clear hb))
              refine wp_region_held_drew (S := (fun W' => DB W' w.heap.size #[.slice a n cap, .int .i64 d.cap, .int .i64 d.ops, .bool false, .bool d.told, .int .i64 d.after])) (by kernel_rfl) (HS3.out.d0.next (Below.refl _ _).drew) (fun hS => ?_)
              refine wpAnyH_take (i := 0) (oi := ({ dst := some 29, op := Op.load 28 (Operand.tmp 3), type := 28, pos := "ref.go:130", after := #[], guard := none } : Oper)) (v := ?_) rfl (by kernel_rfl) (by kernel_rfl) (by kernel_rfl) (fun _ _ _ h => h) (Or.inl ⟨by rfl, ?_⟩) hS ?_
              rotate_left
              · (intro w hSw; (try dsimp only at hSw); refine exec_load_db (.tmp 3) ?_ ?_ hSw <;> rfl)
              (try simp only [Act.put, List.setIfInBounds_toArray, List.set_cons_zero, List.set_cons_succ])
              refine wpAnyH_take (i := 2) (oi := ({ dst := some 31, op := Op.move (Operand.tmp 2), type := 3, pos := "ref.go:130", after := #[], guard := none } : Oper)) (v := ?_) rfl (by kernel_rfl) (by kernel_rfl) (by kernel_rfl) (fun _ _ _ h => h) (Or.inl ⟨by rfl, ?_⟩) hS ?_
              rotate_left
              · (intro w hSw; (try dsimp only at hSw); go_simp; try with_reducible rfl)
              (try simp only [Act.put, List.setIfInBounds_toArray, List.set_cons_zero, List.set_cons_succ])
              refine wpAnyH_take (i := 4) (oi := ({ dst := some 33, op := Op.fieldAddr 28 (Operand.tmp 3) 1, type := 0, pos := "ref.go:130", after := #[], guard := none } : Oper)) (v := ?_) rfl (by kernel_rfl) (by kernel_rfl) (by kernel_rfl) (fun _ _ _ h => h) (Or.inl ⟨by rfl, ?_⟩) hS ?_
              rotate_left
              · (intro w hSw; (try dsimp only at hSw); obtain ⟨z0, z1, z2, z3, z4, z5⟩ := hSw.six; go_simp; try with_reducible rfl)
              (try simp only [Act.put, List.setIfInBounds_toArray, List.set_cons_zero, List.set_cons_succ])
              refine wpAnyH_take (i := 5) (oi := ({ dst := some 34, op := Op.load 3 (Operand.tmp 33), type := 3, pos := "ref.go:130", after := #[{ on := 4, ground := Ground.data }], guard := none } : Oper)) (v := ?_) rfl (by kernel_rfl) (by kernel_rfl) (by kernel_rfl) (fun _ _ _ h => h) (Or.inl ⟨by rfl, ?_⟩) hS ?_
              rotate_left
              · (intro w hSw; (try dsimp only at hSw); obtain ⟨z0, z1, z2, z3, z4, z5⟩ := hSw.six; go_simp; try with_reducible rfl)
              (try simp only [Act.put, List.setIfInBounds_toArray, List.set_cons_zero, List.set_cons_succ])
              refine rg_one 1 ({ dst := some 30, op := Op.call { callee := Callee.value (Operand.func 39), args := #[Operand.tmp 29], argTypes := #[28] }, type := 3, pos := "ref.go:130", after := #[{ on := 0, ground := Ground.data }], guard := none } : Oper) (by kernel_rfl) rfl (fun K hK => ?_)
              go_simp
              (go_at_call 39; (with_reducible refine (HUS.out _ (HS3.out.rd.kin ((unmask _ _).trans (Kin.below (Below.refl _ _).drew)))).mono ?_); rintro e w3b ⟨rfl, hb⟩; have HS3b := Lib.hid ((HS3.out.next (Below.refl _ _).drew).next hb))
              refine hK.out _ _ ?_ (fun hS1 => ?_)
              · (first | exact hS | exact hS.next hb)
              clear hK K hS; have hS := hS1; clear hS1
              (try simp only [Act.put, List.setIfInBounds_toArray, List.set_cons_zero, List.set_cons_succ])
              refine wpAnyH_take (i := 3) (oi := ({ dst := some 32, op := Op.binOp BinOp.add 3 (Operand.tmp 30) (Operand.tmp 31) 3, type := 3, pos := "ref.go:130", after := #[{ on := 1, ground := Ground.data }, { on := 2, ground := Ground.data }], guard := none } : Oper)) (v := ?_) rfl (by kernel_rfl) (by kernel_rfl) (by kernel_rfl) (fun _ _ _ h => h) (Or.inl ⟨by rfl, ?_⟩) hS ?_
              rotate_left
              · (intro w hSw; (try dsimp only at hSw); go_simp; try with_reducible rfl)
              (try simp only [Act.put, List.setIfInBounds_toArray, List.set_cons_zero, List.set_cons_succ])
              refine wpAnyH_take (i := 6) (oi := ({ dst := some 35, op := Op.binOp BinOp.gtr 3 (Operand.tmp 32) (Operand.tmp 34) 3, type := 4, pos := "ref.go:130", after := #[{ on := 3, ground := Ground.data }, { on := 5, ground := Ground.data }], guard := none } : Oper)) (v := ?_) rfl (by kernel_rfl) (by kernel_rfl) (by kernel_rfl) (fun _ _ _ h => h) (Or.inl ⟨by rfl, ?_⟩) hS ?_
              rotate_left
              · (intro w hSw; (try dsimp only at hSw); go_simp; (try rw [HDC.out]); try with_reducible rfl)
              (try simp only [Act.put, List.setIfInBounds_toArray, List.set_cons_zero, List.set_cons_succ])
              refine wpAnyH_take (i := 7) (oi := ({ dst := some 36, op := Op.move (Operand.tmp 35), type := 4, pos := "ref.go:130", after := #[{ on := 6, ground := Ground.data }, { on := 1, ground := Ground.chain }], guard := none } : Oper)) (v := ?_) rfl (by kernel_rfl) (by kernel_rfl) (by kernel_rfl) (fun _ _ _ h => h) (Or.inl ⟨by rfl, ?_⟩) hS ?_
              rotate_left
              · (intro w hSw; (try dsimp only at hSw); go_simp; try with_reducible rfl)
              (try simp only [Act.put, List.setIfInBounds_toArray, List.set_cons_zero, List.set_cons_succ])
              refine wpAnyH_take (i := 8) (oi := ({ dst := some 37, op := Op.fieldAddr 28 (Operand.tmp 3) 0, type := 0, pos := "ref.go:130", after := #[{ on := 7, ground := Ground.guard }], guard := some (7, false) } : Oper)) (v := ?_) rfl (by kernel_rfl) (by kernel_rfl) (by kernel_rfl) (fun _ _ _ h => h) (Or.inl ⟨by rfl, ?_⟩) hS ?_
              rotate_left
              · (intro w hSw; (try dsimp only at hSw); obtain ⟨z0, z1, z2, z3, z4, z5⟩ := hSw.six; go_simp; try with_reducible rfl)
              (try simp only [Act.put, List.setIfInBounds_toArray, List.set_cons_zero, List.set_cons_succ])
              refine wpAnyH_take (i := 9) (oi := ({ dst := some 38, op := Op.load 26 (Operand.tmp 37), type := 26, pos := "ref.go:130", after := #[{ on := 8, ground := Ground.data }, { on := 7, ground := Ground.guard }], guard := some (7, false) } : Oper)) (v := ?_) rfl (by kernel_rfl) (by kernel_rfl) (by kernel_rfl) (fun _ _ _ h => h) (Or.inl ⟨by rfl, ?_⟩) hS ?_
              rotate_left
              · (intro w hSw; (try dsimp only at hSw); obtain ⟨z0, z1, z2, z3, z4, z5⟩ := hSw.six; go_simp; try with_reducible rfl)
              (try simp only [Act.put, List.setIfInBounds_toArray, List.set_cons_zero, List.set_cons_succ])
              refine wpAnyH_take (i := 10) (oi := ({ dst := some 39, op := Op.call { callee := Callee.builtin Builtin.len, args := #[Operand.tmp 38], argTypes := #[26] }, type := 3, pos := "ref.go:130", after := #[{ on := 9, ground := Ground.data }, { on := 7, ground := Ground.guard }], guard := some (7, false) } : Oper)) (v := ?_) rfl (by kernel_rfl) (by kernel_rfl) (by kernel_rfl) (fun _ _ _ h => h) (Or.inl ⟨by rfl, ?_⟩) hS ?_
              rotate_left
              · (intro w hSw; (try dsimp only at hSw); obtain ⟨z0, z1, z2, z3, z4, z5⟩ := hSw.six; go_simp; try with_reducible rfl)
              (try simp only [Act.put, List.setIfInBounds_toArray, List.set_cons_zero, List.set_cons_succ])
              refine wpAnyH_take (i := 11) (oi := ({ dst := some 40, op := Op.binOp BinOp.geq 3 (Operand.tmp 39) (Operand.const (Value.int IntKind.i64 64)) 3, type := 4, pos := "ref.go:130", after := #[{ on := 10, ground := Ground.data }, { on := 7, ground := Ground.guard }], guard := some (7, false) } : Oper)) (v := ?_) rfl (by kernel_rfl) (by kernel_rfl) (by kernel_rfl) (fun _ _ _ h => h) (Or.inl ⟨by rfl, ?_⟩) hS ?_
              rotate_left
              · (intro w hSw; (try dsimp only at hSw); obtain ⟨z0, z1, z2, z3, z4, z5⟩ := hSw.six; go_simp; try with_reducible rfl)
              (try simp only [Act.put, List.setIfInBounds_toArray, List.set_cons_zero, List.set_cons_succ])
              refine wpAnyH_take (i := 12) (oi := ({ dst := some 41, op := Op.pick (Operand.tmp 36) (Operand.const (Value.bool true)) (Operand.tmp 40), type := 4, pos := "ref.go:130", after := #[{ on := 7, ground := Ground.data }, { on := 11, ground := Ground.data }], guard := none } : Oper)) (v := ?_) rfl (by kernel_rfl) (by kernel_rfl) (by kernel_rfl) (fun _ _ _ h => h) (Or.inl ⟨by rfl, ?_⟩) hS ?_
              rotate_left
              · (intro w hSw; (try dsimp only at hSw); go_simp; try with_reducible rfl)
              (try simp only [Act.put, List.setIfInBounds_toArray, List.set_cons_zero, List.set_cons_succ])
              refine wpAnyH_done (by kernel_rfl) ?_ _
              clear hS
              go_wp2_with (first
                | (refine wpList_load_row rfl 28 _ rfl w.heap.size rfl _ _ (0, 0) _ HS3b.out.d0.1 Tryd.underlying28 rfl HS3b.out.d0.info ?_)
                | (go_at_call 40; (with_reducible refine (HOP.out _).mono ?_); rintro e w4 ⟨rfl, hb⟩; have HS4 := Lib.hid (HS3b.out.next hb); clear hb)
                | (refine wpl_store_newD rfl _ _ rfl rfl w4.heap.size rfl #[.slice a n cap, .int .i64 d2.cap, .int .i64 d2.ops, .bool d2.down, .bool d2.told, .int .i64 d2.after] rfl (by simp [Value.oneCell']) rfl rfl ?_; intro w5 HX5 hb5; have HS5 := Lib.hid (HS4.out.next hb5.out); clear hb5)
                | (refine wpList_load_row rfl 28 _ rfl w4.heap.size rfl _ _ (0, 0) _ HX5.out.1 Tryd.underlying28 rfl HX5.out.info ?_)
                | (refine wpList_store_row rfl 28 _ _ rfl (w.heap.size + 1) #[.slice a n cap, .int .i64 d2.cap, .int .i64 d2.ops, .bool d2.down, .bool d2.told, .int .i64 d2.after] rfl rfl _ dz HS5.out.d1.1 disk_info (by rfl) (by simp [Value.oneCell']) ?_))
              obtain ⟨e1, e2, e3⟩ := HS5.out.done (cs' := #[.slice a n cap, .int .i64 d2.cap, .int .i64 d2.ops, .bool d2.down, .bool d2.told, .int .i64 d2.after]) (HS5.out.rd.re HL2.out) rfl
              exact bodyPost_ret_by (results_row_tmp rfl _ _ (w.heap.size + 1) _ rfl (disk_load e1.1 rfl)) rfl ⟨_, rfl, e2, e3⟩
end Go.Proofs.YtoempaagpgoilaaDoor
/-
  ROWS OF SECTORS that a call makes, side by side with others; cuts of slices of sectors; literals of one sector. Nothing here speaks of the program's functions. No condition.
-/
namespace Go.Proofs.YtoempaagpgoilaaDoor
open Go.RowKit
section
variable {w : World} {ops : Array Oper} {rest : List Oper} {o : Oper} {a : Act} {Q : Exit → Act → World → Prop}
/-- append of a slice of sectors to a row of sectors that the call made -/
theorem wpl_app_fs (hgd : o.guard = none) (s x : Operand)
    (ho : o.op = .call { callee := .builtin .append, args := #[s, x], argTypes := #[65, 65] })
    (base : Nat) (v : Value) (n : Nat) (fs : List Int) (hs : a.eval s = v) (hown : Hid (w.ownsRow base 88 64 v n (il .u8 fs)))
    (v2 : Value) (m : Nat) (gs : List Int) (hx : a.eval x = v2) (hfs : Hid (FS w v2 m gs)) (hn : n + m ≤ 1000000000000)
    (B : Nat) (W : World) (hb : Hid (Below B W w)) (hB : B ≤ base) (hbase : base ≤ w.heap.size)
    (h : ∀ v' w', Hid (w'.ownsRow base 88 64 v' (n + m) (il .u8 (fs ++ gs))) → Hid (Below B W w') → Hid (w.grownBy w' v.ownBlock) → wpList Tryd.prog ops Q rest (a.put o.dst v') w') : wpList Tryd.prog ops Q (o :: rest) a w := by
  obtain ⟨i, hi, hz0, hz1, hz2⟩ := info_parts sec_parts
  obtain ⟨ad, cap, rfl, hl, hlc, hc63, hnil, hc⟩ := hfs.out
  cases ad with
  | none =>
    obtain rfl : cap = 0 := hnil rfl
    obtain rfl : m = 0 := by omega
    obtain rfl : gs = [] := List.length_eq_zero_iff.1 (by omega)
    refine wpList_append_own_none hgd s x 65 ho base 88 i 64 Tryd.underlying65 hi v n (il .u8 fs) hs hown.out hx ?_
    exact h v w (by rw [List.append_nil]; exact hown) hb (Lib.hid ⟨rfl, rfl, rfl, Nat.le_refl _, fun _ _ _ => rfl⟩)
  | some ad =>
    refine wpList_append_own_wide w hgd s x 65 ho base 88 i (.agg (sv z64)) 64 64 Tryd.underlying65 hi hz0 hz1 hz2 rfl (by omega) v n (il .u8 fs) hs hown.out ad m cap (il .u8 gs) hx (by rw [il_length]; omega) ?_ (il_one _ _) (by unfold maxLen; omega) (by omega) hbase ?_
    · intro j u hj
      have hjl : j < gs.length := by have := (List.getElem?_eq_some_iff.1 hj).1; rwa [il_length] at this
      obtain ⟨b, off, e1, hcell⟩ := hc (by omega)
      obtain rfl := Option.some.inj e1
      rw [il_get _ _ _ hjl] at hj
      obtain rfl := Option.some.inj hj
      have := hcell j (by omega)
      by_cases h0 : j = 0
      · subst h0; simpa [Addr.add] using this
      · simpa [Addr.add, h0] using this
    · intro v' w' h1 h2 _
      exact h v' w' (by rw [il_append]; exact h1) (hb.out.grown h2 (by omega) (fun q hq => by have := (hown.out.lt q hq).1; omega)) h2
end
/-- a literal of one sector -/
theorem fold_set (l : List Value) : ∀ (k : Nat) (cs : Array Value) (i : Nat), ((l.zipIdx k).foldl (fun cs (p : Value × Nat) => cs.setIfInBounds (0 + p.2) p.1) cs)[i]? = if k ≤ i ∧ i < k + l.length ∧ i < cs.size then l[i - k]? else cs[i]? := by
  induction l with
  | nil => intro k cs i; simp; intro h1 h2; omega
  | cons x l ih =>
    intro k cs i
    rw [List.zipIdx_cons, List.foldl_cons, ih (k + 1)]
    simp only [Array.size_setIfInBounds, List.length_cons, Nat.zero_add]
    by_cases h1 : k + 1 ≤ i ∧ i < k + 1 + l.length ∧ i < cs.size
    · rw [if_pos h1, if_pos (by omega), show i - k = (i - (k + 1)) + 1 from by omega, List.getElem?_cons_succ]
    · rw [if_neg h1]
      by_cases h2 : i = k
      · subst h2
        by_cases h3 : i < cs.size
        · rw [if_pos (by omega)]; simp [h3]
        · rw [if_neg (by omega)]; simp [h3]
      · rw [if_neg (by omega), Array.getElem?_setIfInBounds_ne (Ne.symm h2)]
theorem fill_sec (z : List Int) (hz : z.length = 64) (cs : Array Value) (hc : cs.size = 64) : Instr.fill (fun i => some (i * 64, 64)) cs [(0, .agg (sv z))] = some (sv z) := by
  have h0 : (Value.agg (sv z)).cells = sv z := rfl
  have hs : (sv z).size = 64 := by rw [sv_size, hz]
  simp only [Instr.fill, h0, hs, Nat.zero_mul, Nat.zero_add, hc]
  rw [if_neg (by simp)]
  refine congrArg some ?_
  refine Array.ext_getElem? fun i => ?_
  rw [← Array.foldl_toList, Array.toList_zipIdx]
  have := fold_set (sv z).toList 0 cs i
  simp only [Nat.zero_add] at this
  rw [this]
  by_cases hi : i < 64
  · rw [if_pos (by simp [hs, hc]; omega)]; simp
  · rw [if_neg (by omega), Array.getElem?_eq_none (by omega), Array.getElem?_eq_none (by omega)]
theorem wpl_build_sec {w : World} {ops : Array Oper} {rest : List Oper} {o : Oper} {a : Act} {Q : Exit → Act → World → Prop} (hgd : o.guard = none) (x : Operand) (ho : o.op = .buildSlice 65 1 #[(0, x)]) (z : List Int) (hz : z.length = 64) (hx : a.eval x = .agg (sv z))
    (h : wpList Tryd.prog ops Q rest (a.put o.dst (.slice (some ⟨w.heap.size, 0, none⟩) 1 1)) (w.alloc (.cells (sv z) 88))) : wpList Tryd.prog ops Q (o :: rest) a w := by
  obtain ⟨i, hi, hz0, hz1, hz2⟩ := info_parts sec_parts
  refine wpList_buildSlice hgd 65 88 1 _ ho (sv z) i (.agg (sv z64)) Tryd.underlying65 hi hz0 (by rw [hz1]; omega) (by rw [hz1]; omega) ?_ h
  rw [hz1]
  simpa [hx] using fill_sec z hz _ (by simp)
theorem FS.blk {w : World} {g : Nat} {z : List Int} (h : Blk w g z) : FS w (.slice (some ⟨g, 0, none⟩) 1 1) 1 z :=
  ⟨_, 1, rfl, by rw [h.2], Nat.le_refl _, by omega, fun h => by simp at h, fun _ => ⟨g, 0, rfl, fun j hj => by rw [Nat.zero_add]; exact h.cell j (by omega)⟩⟩
end Go.Proofs.YtoempaagpgoilaaDoor
/-
  LAYER 8 (disk): rows of bools that a call makes. Nothing here speaks of the program's functions. No condition.
-/
namespace Go.Proofs.YtoempaagpgoilaaDoor
open Go.RowKit
section
variable {w : World} {ops : Array Oper} {rest : List Oper} {o : Oper} {a : Act} {Q : Exit → Act → World → Prop}
end
end Go.Proofs.YtoempaagpgoilaaDoor
/-
  WHAT THE DOCUMENT'S ANSWERS OF LAYER 8 (disk) ANSWER: the reference's Mix (for the layers behind it, too). No condition.
-/
namespace Go.Proofs.YtoempaagpgoilaaDoor
open Go.RowKit
/-- the first k of next's bytes, and old's others -/
def mixN (old nx : List Int) (k : Nat) : List Int := nx.take k ++ old.drop k
def cutN (cut : Int) : Nat := (min (max cut 0) 64).toNat
theorem mixN_length (old nx : List Int) (k : Nat) (ho : old.length = 64) (hn : nx.length = 64) (hk : k ≤ 64) : (mixN old nx k).length = 64 := by simp [mixN]; omega
theorem mixN_zero (old nx : List Int) : mixN old nx 0 = old := by simp [mixN]
/-- where Mix stands -/
structure Mx (W : World) (l nx : List Int) (w : World) : Prop where
  below : Below W.heap.size W w
  nxt : Blk w (W.heap.size + 1) nx
  res : Blk w (W.heap.size + 2) z64
  out : Blk w (W.heap.size + 3) l
theorem Mx.start (W : World) (l nx : List Int) (hl : l.length = 64) (hn : nx.length = 64) : Mx W z64 nx ((((W.alloc (.cells (sv l) 88)).alloc (.cells (sv nx) 88)).alloc (.cells (sv z64) 88)).alloc (.cells (sv z64) 88)) ∧ Blk ((((W.alloc (.cells (sv l) 88)).alloc (.cells (sv nx) 88)).alloc (.cells (sv z64) 88)).alloc (.cells (sv z64) 88)) W.heap.size l := by
  have s0 := alloc_size W (.cells (sv l) 88)
  have b0 := below_alloc W (.cells (sv l) 88)
  have k0 := Blk.new W l hl
  generalize W.alloc (.cells (sv l) 88) = w0 at *
  have s1 := alloc_size w0 (.cells (sv nx) 88)
  have b1 := below_alloc w0 (.cells (sv nx) 88)
  have k1 := Blk.new w0 nx hn
  generalize w0.alloc (.cells (sv nx) 88) = w1 at *
  have s2 := alloc_size w1 (.cells (sv z64) 88)
  have b2 := below_alloc w1 (.cells (sv z64) 88)
  have k2 := Blk.new w1 z64 z64_length
  generalize w1.alloc (.cells (sv z64) 88) = w2 at *
  have b3 := below_alloc w2 (.cells (sv z64) 88)
  have k3 := Blk.new w2 z64 z64_length
  generalize w2.alloc (.cells (sv z64) 88) = w3 at *
  rw [s0] at k1
  rw [s1, s0] at k2
  rw [s2, s1, s0] at k3
  exact ⟨⟨chain (chain (chain b0 b1) b2) b3, (k1.keep b2).keep b3, k2.keep b3, k3⟩, ((k0.keep b1).keep b2).keep b3⟩
theorem Mx.row {W w : World} {l l' nx : List Int} (h : Mx W l nx w) (hl : l'.length = 64) : Mx W l' nx (w.setRow (W.heap.size + 3) (sv l')) :=
  ⟨below_row h.below (by omega) _, h.nxt.row_apart (by omega) _, h.res.row_apart (by omega) _, h.out.row hl⟩
theorem Mx.stored {W w : World} {l nx : List Int} (h : Mx W l nx w) (k : Nat) (z : Int) : Mx W (l.set k z) nx (w.setCell ⟨W.heap.size + 3, k, none⟩ (.int .u8 z)) :=
  ⟨h.below.setCell (by show W.heap.size ≤ W.heap.size + 3; omega) _, h.nxt.apart (by omega) _ _, h.res.apart (by omega) _ _, h.out.stored k z⟩
end Go.Proofs.YtoempaagpgoilaaDoor
/-
  WHAT THE DOCUMENT'S ANSWERS OF LAYER 8 (disk) ANSWER: the reference's New.
-/
namespace Go.Proofs.YtoempaagpgoilaaDoor
open Go.RowKit
theorem newD_run (c : Int) (hc : I63 c) (F : Nat → Bool) (w : World) :
    Calls Tryd.prog 7 #[.int .i64 c] w fun e w' => ∃ v', e = .returned v' ∧ RD (mask F w') v' (AD.newD c) ∧ Below w.heap.size w w' := by
  unfold I63 at hc
  obtain ⟨k, hk⟩ : ∃ k, min (max c 0) 1048576 = k := ⟨_, rfl⟩
  have HK := Lib.hid hk
  clear hk
  by_cases h1 : 1048576 < c
  · go_enter Tryd.func7, Tryd.ntmps7
    go_wp2
    refine bodyPost_ret_by (results_cell_row rfl _ _ w.heap.size _ _ (0, 0) _ rfl (heap_alloc_last w _) Tryd.underlying28 rfl disk_info) rfl ⟨_, rfl, ⟨.slice none 0 0, ?_, FLs.nil _⟩, below_alloc w _⟩
    have : (AD.newD c).cap = 1048576 := by show min (max c 0) 1048576 = 1048576; omega
    simp only [dv, this]; rfl
  · by_cases h2 : c < 0
    · go_enter Tryd.func7, Tryd.ntmps7
      go_wp2
      refine bodyPost_ret_by (results_cell_row rfl _ _ w.heap.size _ _ (0, 0) _ rfl (heap_alloc_last w _) Tryd.underlying28 rfl disk_info) rfl ⟨_, rfl, ⟨.slice none 0 0, ?_, FLs.nil _⟩, below_alloc w _⟩
      have : (AD.newD c).cap = 0 := by show min (max c 0) 1048576 = 0; omega
      simp only [dv, this]; rfl
    · go_enter Tryd.func7, Tryd.ntmps7
      go_wp2
      refine bodyPost_ret_by (results_cell_row rfl _ _ w.heap.size _ _ (0, 0) _ rfl (heap_alloc_last w _) Tryd.underlying28 rfl disk_info) rfl ⟨_, rfl, ⟨.slice none 0 0, ?_, FLs.nil _⟩, below_alloc w _⟩
      have : (AD.newD c).cap = c := by show min (max c 0) 1048576 = c; omega
      simp only [dv, this]; rfl
end Go.Proofs.YtoempaagpgoilaaDoor
/-
  WHAT THE DOCUMENT'S ANSWERS OF LAYER 8 (disk) ANSWER: the reference's Lay.
-/
namespace Go.Proofs.YtoempaagpgoilaaDoor
open Go.RowKit
/-- files as they are laid: their names, how many sectors, all bytes -/
abbrev LFile := ByteArray × Nat × List Int
/-- in w the slice v tells these files -/
def LA (w : World) (v : Value) (l : List LFile) : Prop :=
  ∃ es : List (List Value), CS 2 w v l.length es.flatten ∧ es.length = l.length ∧ (∀ e ∈ es, e.length = 2) ∧ ∀ (i : Nat) (e : List Value) (f : LFile), es[i]? = some e → l[i]? = some f → ∃ v1, e = [.string f.1, v1] ∧ FS w v1 f.2.1 f.2.2
theorem LA.kin {w w' : World} (hb : Kin w w') {v : Value} {l : List LFile} (h : LA w v l) : LA w' v l := by
  obtain ⟨es, h1, h2, h3, h4⟩ := h
  exact ⟨es, h1.kin hb, h2, h3, fun i e f he hf => by obtain ⟨v1, e1, e2⟩ := h4 i e f he hf; exact ⟨v1, e1, e2.kin hb⟩⟩
theorem LA.form {w : World} {v : Value} {l : List LFile} (h : LA w v l) : ∃ a cap, v = .slice a l.length cap ∧ l.length ≤ cap ∧ cap ≤ 9223372036854775807 ∧ (a = none → cap = 0) := by obtain ⟨_, h, _⟩ := h; exact h.form
theorem LA.at_ {w : World} {a : Option Addr} {n cap : Nat} {l : List LFile} (h : LA w (.slice a n cap) l) (i : Nat) (f : LFile) (hf : l[i]? = some f) :
    ∃ b off a1 c1, a = some ⟨b, off, none⟩ ∧ w.cell? ⟨b, off + i * 2, none⟩ = some (.string f.1) ∧ w.cell? ⟨b, off + i * 2 + 1, none⟩ = some (.slice a1 f.2.1 c1) ∧ FS w (.slice a1 f.2.1 c1) f.2.1 f.2.2 := by
  obtain ⟨es, h1, h2, h3, h4⟩ := h
  obtain ⟨hi, _⟩ := List.getElem?_eq_some_iff.1 hf
  have hi2 : i < es.length := by omega
  obtain ⟨v1, he, hfs⟩ := h4 i es[i] f (List.getElem?_eq_getElem hi2) hf
  have hn : n = l.length := by obtain ⟨_, _, hv, _⟩ := h1; simp at hv; exact hv.2.1
  subst hn
  obtain ⟨b, off, rfl, hc⟩ := h1.at_ i hi
  have hg := fun j hj => (hc j hj).trans (flat_get 2 es i j h3 hj _ (List.getElem?_eq_getElem hi2))
  rw [he] at hg
  obtain ⟨a1, c1, rfl, _⟩ := id hfs
  exact ⟨b, off, a1, c1, rfl, by simpa using hg 0 (by omega), by simpa using hg 1 (by omega), hfs⟩
theorem FLs.zero {w w' : World} {a : Option Addr} {c : Nat} (h : FLs w (.slice a 0 c) []) : FLs w' (.slice a 0 c) [] := by
  obtain ⟨a', cap, e, h1, h2, h3⟩ := h.form
  simp only [Value.slice.injEq] at e
  obtain ⟨rfl, _, rfl⟩ := e
  exact ⟨[], ⟨_, _, rfl, by simp, by simp, h2, h3, fun h => by simp at h⟩, RFs.nil _⟩
theorem usedN_insF (L : List AF) (f : AF) : usedN (insF L f) = usedN L + f.n := by
  unfold usedN insF
  have : (L.map AF.n).sum = ((L.take (insK L f)).map AF.n).sum + ((L.drop (insK L f)).map AF.n).sum := by rw [← List.sum_append, ← List.map_append, List.take_append_drop]
  rw [this]; simp; omega
theorem usedN_without (L : List AF) (s : ByteArray) : usedN (withoutF L s) ≤ usedN L := by
  unfold usedN withoutF
  induction L with
  | nil => simp
  | cons x t ih => simp only [List.filter_cons]; split <;> simp <;> omega
end Go.Proofs.YtoempaagpgoilaaDoor
/-
  PLAIN MATHEMATICS OF NUMBERS AS BYTES (of stage 1's XMath what XBase lacks). No condition.
-/
namespace Go.Proofs.YtoempaagpgoilaaDoor
end Go.Proofs.YtoempaagpgoilaaDoor
