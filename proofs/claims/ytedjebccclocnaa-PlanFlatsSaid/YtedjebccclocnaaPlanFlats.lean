/-
  THE WALK OF THE LAW PlanFlats: whatever epoch, sectors and places come in: the call returns true and changes nothing that was there.
-/
import Derived.Test.YtedjebccclocnaaPlanB
import Derived.Test.YtedjebccclocnaaPlanRefF
namespace Go.Proofs.Ytedjebccclocnaa
open Go.RowKit
/-- the head of a slice of bools -/
theorem BS.head {w : World} {b off len cap : Nat} {bs : List Bool} (h : BS w (.slice (some ⟨b, off, none⟩) len cap) len bs) (n : Nat) (hn : n ≤ len) : BS w (.slice (some ⟨b, off, none⟩) n cap) n (bs.take n) := by
  have hbl := h.length
  obtain ⟨a', cap', e, h1, h2, h3, h4, hc⟩ := h
  simp only [Value.slice.injEq, true_and] at e
  obtain ⟨rfl, rfl⟩ := e
  refine ⟨_, cap, rfl, by simp; omega, by omega, h3, h4, fun h0 => ?_⟩
  obtain ⟨b2, off2, e2, hcell⟩ := hc (by omega)
  refine ⟨b2, off2, e2, fun j hj => ?_⟩
  rw [hcell j (by omega), List.map_take, List.getElem?_take, if_pos (by omega)]
set_option maxRecDepth 8000 in
set_option maxHeartbeats 1000000 in
theorem flats_walk (x : Int) (hx : U64 x) (v : Value) (len : Nat) (fs : List Int) (hbf : Bytes fs) (n m : Int) (hn : I63 n) (hm : I63 m) (W : World) (h : FS W v len fs) :
    Calls Try.prog 3 #[.int .u64 x, v, .agg #[.int .i64 n, .int .i64 m]] W fun e w' => e = .returned (.bool true) ∧ Below W.heap.size W w' := by
  have hbx := below_alloc W (.cells #[.int .i64 n, .int .i64 m] 24)
  have HB0 := Lib.hid hbx
  have HR0 := Lib.hid (h.keep hbx)
  obtain ⟨ad, cap, rfl, _, hc1, hc2, _⟩ := id h
  by_cases hl : (len : Int) > 100
  · clear hbx h
    go_enter Try.func3, Try.ntmps3
    go_wp2_with (first
      | (go_at_call 6; (with_reducible refine (awake_any _).mono ?_); rintro e w1 ⟨rfl, hb⟩; have HB1 := Lib.hid (bch HB0.out hb); clear hb))
    go_ret
    exact ⟨rfl, HB1.out⟩
  · have HFL : Hid (∀ w, FS w (.slice ad len cap) len fs → Calls Try.prog 7 #[.int .u64 x, .slice ad len cap] w fun e w' => ∃ g1 g2, e = .returned (.tuple #[.slice (some ⟨g1, 0, none⟩) 832 832, .slice (some ⟨g2, 0, none⟩) 16 16]) ∧
        RI .u8 w' (.slice (some ⟨g1, 0, none⟩) 832 832) 832 (flatB x len fs 16) ∧ BS w' (.slice (some ⟨g2, 0, none⟩) 16 16) 16 (flatK x len fs 16) ∧ Below w.heap.size w w') := fun w h => flat_any x hx _ len fs hbf w h
    have HRF : Hid (∀ w, FS w (.slice ad len cap) len fs → Calls Try.prog 8 #[.int .u64 x, .slice ad len cap] w fun e w' => ∃ v1 b2 off2 c2, e = .returned (.tuple #[v1, .slice (some ⟨b2, off2, none⟩) 16 c2]) ∧ 16 ≤ c2 ∧
        RI .u8 w' v1 832 (flatB x len fs 16) ∧ BS w' (.slice (some ⟨b2, off2, none⟩) 16 c2) 16 (flatK x len fs 16) ∧ Below w.heap.size w w') := fun w h => by
      refine (rflat_any x hx _ len fs w h).mono ?_
      rintro e w' ⟨v1, v2, rfl, hr, hk, hb⟩
      obtain ⟨a2, c2, rfl, h16, _⟩ := CS.form hk
      obtain ⟨b2, off2, rfl, _⟩ := hk.at_ 0 (by omega)
      exact ⟨v1, b2, off2, c2, rfl, h16, hr, hk, hb⟩
    generalize flatB x len fs 16 = B at *
    generalize flatK x len fs 16 = K at *
    have HCV : Hid (∀ (v : Value) (l : Nat) (bs : List Bool) (w : World), BS w v l bs → Calls Try.prog 9 #[v, .int .i64 n, .int .i64 m] w fun e w' => e = .returned (.bool (covAt bs n m)) ∧ Below w.heap.size w w') := fun v l bs w h => covered_any v l bs n m hn hm w h
    have HRC : Hid (∀ (v : Value) (l : Nat) (bs : List Bool) (w : World), BS w v l bs → Calls Try.prog 10 #[v, .int .i64 n, .int .i64 m] w fun e w' => e = .returned (.bool (covAt bs n m)) ∧ Below w.heap.size w w') := fun v l bs w h =>
      (rcovered_any v l bs n m hn hm w h).mono fun e w' ⟨he, hw⟩ => ⟨he, by rw [hw]; exact Below.refl _ _⟩
    obtain ⟨w0, hw0⟩ : ∃ w0, W.alloc (.cells #[.int .i64 n, .int .i64 m] 24) = w0 := ⟨_, rfl⟩
    have hc0 : w0.cell? ⟨W.heap.size, 0, none⟩ = some (.int .i64 n) := by rw [← hw0]; simp
    have hc1 : w0.cell? ⟨W.heap.size, 1, none⟩ = some (.int .i64 m) := by rw [← hw0]; simp
    rw [hw0] at HB0 HR0
    have HC0 := Lib.hid hc0
    have HC1 := Lib.hid hc1
    have HW0 := Lib.hid hw0
    clear h hw0 hbx hc0 hc1
    go_enter Try.func3, Try.ntmps3
    go_wp2_with (first
      | (go_at_call 7; rw [HW0.out]; (with_reducible refine (HFL.out _ HR0.out).mono ?_); rintro e w1 ⟨g1, g2, rfl, hr, hk, hb⟩; have HY1 := Lib.hid hr; have HK1 := Lib.hid hk; have HR1 := Lib.hid (HR0.out.keep hb); have HB1 := Lib.hid (bch HB0.out hb); have HD0 := Lib.hid (cell_keep hb HC0.out); have HD1 := Lib.hid (cell_keep hb HC1.out); clear hr hk hb)
      | (go_at_call 8; (with_reducible refine (HRF.out _ HR1.out).mono ?_); rintro e w2 ⟨v1, b2, off2, c2, rfl, h16, hr, hk, hb⟩; have HZ2 := Lib.hid hr; have HJ2 := Lib.hid hk; have HY2 := Lib.hid (HY1.out.keep hb); have HK2 := Lib.hid (HK1.out.kin (Kin.below hb)); have HB2 := Lib.hid (bch HB1.out hb); have HE0 := Lib.hid (cell_keep hb HD0.out); have HE1 := Lib.hid (cell_keep hb HD1.out); have hv1 := conv_ri HY2.out; have hv2 := conv_ri HZ2.out; clear hr hk hb))
    clear hv1 hv2
    go_loopw [11] (fun iv wr => ∃ i : Nat, iv = .int .i64 (i : Int) ∧ i ≤ 16 ∧ Hid (Below w2.heap.size w2 wr)) (fun iv _ => 16 - (intOf iv).toNat)
    case atStart => exact ⟨0, rfl, by omega, Lib.hid (Below.refl _ _)⟩
    case round =>
      obtain ⟨i, rfl, hi, HB⟩ := hrel
      by_cases hlt : (i : Int) < 16
      · obtain ⟨y, hy⟩ : ∃ y, K.getD i false = y := ⟨_, rfl⟩
        have hp := HK2.out.cellAt i (by omega)
        obtain ⟨b3, off3, e3, hq⟩ := HJ2.out.at_ i (by omega)
        simp only [Option.some.injEq, Addr.mk.injEq, and_true] at e3
        obtain ⟨rfl, rfl⟩ := e3
        rw [hy] at hp hq
        have HP := Lib.hid (cell_keep HB.out hp)
        have HQ := Lib.hid (cell_keep HB.out hq)
        clear hp hq hy
        go_wp2_with fail
        refine wp_region_held_drew (S := (fun w' => w'.cell? ⟨g2, i, none⟩ = some (.bool y) ∧ w'.cell? ⟨b2, off2 + i, none⟩ = some (.bool y))) (by kernel_rfl) ⟨cell_keep (Below.refl _ _).drew HP.out, cell_keep (Below.refl _ _).drew HQ.out⟩ (fun hS => ?_)
        refine wpAnyH_take (i := 0) (oi := ({ dst := some 42, op := Op.move (Operand.tmp 8), type := 27, pos := "law.go:30", after := #[], guard := none } : Oper)) (v := ?_) rfl (by kernel_rfl) (by kernel_rfl) (by kernel_rfl) (fun _ _ _ h => h) (Or.inl ⟨by rfl, ?_⟩) hS ?_
        rotate_left
        · (intro w hSw; (try dsimp only at hSw); go_simp; try with_reducible rfl)
        (try simp only [Act.put, List.setIfInBounds_toArray, List.set_cons_zero, List.set_cons_succ])
        refine wpAnyH_take (i := 1) (oi := ({ dst := some 43, op := Op.move (Operand.tmp 11), type := 3, pos := "law.go:30", after := #[], guard := none } : Oper)) (v := ?_) rfl (by kernel_rfl) (by kernel_rfl) (by kernel_rfl) (fun _ _ _ h => h) (Or.inl ⟨by rfl, ?_⟩) hS ?_
        rotate_left
        · (intro w hSw; (try dsimp only at hSw); go_simp; try with_reducible rfl)
        (try simp only [Act.put, List.setIfInBounds_toArray, List.set_cons_zero, List.set_cons_succ])
        refine wpAnyH_take (i := 2) (oi := ({ dst := some 44, op := Op.indexAddr 27 (Operand.tmp 42) (Operand.tmp 43), type := 0, pos := "law.go:30", after := #[{ on := 0, ground := Ground.data }, { on := 1, ground := Ground.data }], guard := none } : Oper)) (v := ?_) rfl (by kernel_rfl) (by kernel_rfl) (by kernel_rfl) (fun _ _ _ h => h) (Or.inl ⟨by rfl, ?_⟩) hS ?_
        rotate_left
        · (intro w hSw; (try dsimp only at hSw); go_simp; try with_reducible rfl)
        (try simp only [Act.put, List.setIfInBounds_toArray, List.set_cons_zero, List.set_cons_succ])
        refine wpAnyH_take (i := 3) (oi := ({ dst := some 45, op := Op.load 4 (Operand.tmp 44), type := 4, pos := "law.go:30", after := #[{ on := 2, ground := Ground.data }], guard := none } : Oper)) (v := ?_) rfl (by kernel_rfl) (by kernel_rfl) (by kernel_rfl) (fun _ _ _ h => h) (Or.inl ⟨by rfl, ?_⟩) hS ?_
        rotate_left
        · (intro w hSw; (try dsimp only at hSw); obtain ⟨z0, z1⟩ := hSw; go_simp; try with_reducible rfl)
        (try simp only [Act.put, List.setIfInBounds_toArray, List.set_cons_zero, List.set_cons_succ])
        refine wpAnyH_take (i := 4) (oi := ({ dst := some 46, op := Op.move (Operand.tmp 10), type := 27, pos := "law.go:30", after := #[], guard := none } : Oper)) (v := ?_) rfl (by kernel_rfl) (by kernel_rfl) (by kernel_rfl) (fun _ _ _ h => h) (Or.inl ⟨by rfl, ?_⟩) hS ?_
        rotate_left
        · (intro w hSw; (try dsimp only at hSw); go_simp; try with_reducible rfl)
        (try simp only [Act.put, List.setIfInBounds_toArray, List.set_cons_zero, List.set_cons_succ])
        refine wpAnyH_take (i := 5) (oi := ({ dst := some 47, op := Op.move (Operand.tmp 11), type := 3, pos := "law.go:30", after := #[], guard := none } : Oper)) (v := ?_) rfl (by kernel_rfl) (by kernel_rfl) (by kernel_rfl) (fun _ _ _ h => h) (Or.inl ⟨by rfl, ?_⟩) hS ?_
        rotate_left
        · (intro w hSw; (try dsimp only at hSw); go_simp; try with_reducible rfl)
        (try simp only [Act.put, List.setIfInBounds_toArray, List.set_cons_zero, List.set_cons_succ])
        refine wpAnyH_take (i := 6) (oi := ({ dst := some 48, op := Op.indexAddr 27 (Operand.tmp 46) (Operand.tmp 47), type := 0, pos := "law.go:30", after := #[{ on := 4, ground := Ground.data }, { on := 5, ground := Ground.data }], guard := none } : Oper)) (v := ?_) rfl (by kernel_rfl) (by kernel_rfl) (by kernel_rfl) (fun _ _ _ h => h) (Or.inl ⟨by rfl, ?_⟩) hS ?_
        rotate_left
        · (intro w hSw; (try dsimp only at hSw); go_simp; try with_reducible rfl)
        (try simp only [Act.put, List.setIfInBounds_toArray, List.set_cons_zero, List.set_cons_succ])
        refine wpAnyH_take (i := 7) (oi := ({ dst := some 49, op := Op.load 4 (Operand.tmp 48), type := 4, pos := "law.go:30", after := #[{ on := 6, ground := Ground.data }], guard := none } : Oper)) (v := ?_) rfl (by kernel_rfl) (by kernel_rfl) (by kernel_rfl) (fun _ _ _ h => h) (Or.inl ⟨by rfl, ?_⟩) hS ?_
        rotate_left
        · (intro w hSw; (try dsimp only at hSw); obtain ⟨z0, z1⟩ := hSw; go_simp; try with_reducible rfl)
        (try simp only [Act.put, List.setIfInBounds_toArray, List.set_cons_zero, List.set_cons_succ])
        refine wpAnyH_take (i := 8) (oi := ({ dst := some 50, op := Op.binOp BinOp.neq 4 (Operand.tmp 45) (Operand.tmp 49) 4, type := 4, pos := "law.go:30", after := #[{ on := 3, ground := Ground.data }, { on := 7, ground := Ground.data }], guard := none } : Oper)) (v := ?_) rfl (by kernel_rfl) (by kernel_rfl) (by kernel_rfl) (fun _ _ _ h => h) (Or.inl ⟨by rfl, ?_⟩) hS ?_
        rotate_left
        · (intro w hSw; (try dsimp only at hSw); go_simp; try with_reducible rfl)
        (try simp only [Act.put, List.setIfInBounds_toArray, List.set_cons_zero, List.set_cons_succ])
        refine wpAnyH_done (by kernel_rfl) ?_ _
        clear hS
        have HB3 := Lib.hid (bch HB.out (Below.refl _ _).drew)
        go_wp2
        go_roundw
        case rel => exact ⟨i + 1, by go_num, by omega, HB3⟩
        case measure => simp [intOf]; omega
      · have HB3 := Lib.hid (bch HB2.out HB.out)
        have HKA := Lib.hid (HK2.out.kin (Kin.below HB.out))
        have HJA := Lib.hid (HJ2.out.kin (Kin.below HB.out))
        have HF0 := Lib.hid (cell_keep HB.out HE0.out)
        have HF1 := Lib.hid (cell_keep HB.out HE1.out)
        go_wp2_with fail
        refine wp_region_held_drew (S := (fun w' => w'.cell? ⟨W.heap.size, 0, none⟩ = some (.int .i64 n) ∧ w'.cell? ⟨W.heap.size, 1, none⟩ = some (.int .i64 m))) (by kernel_rfl) ⟨cell_keep (Below.refl _ _).drew HF0.out, cell_keep (Below.refl _ _).drew HF1.out⟩ (fun hS => ?_)
        refine wpAnyH_take (i := 0) (oi := ({ dst := some 51, op := Op.move (Operand.tmp 8), type := 27, pos := "law.go:34", after := #[], guard := none } : Oper)) (v := ?_) rfl (by kernel_rfl) (by kernel_rfl) (by kernel_rfl) (fun _ _ _ h => h) (Or.inl ⟨by rfl, ?_⟩) hS ?_
        rotate_left
        · (intro w hSw; (try dsimp only at hSw); go_simp; try with_reducible rfl)
        (try simp only [Act.put, List.setIfInBounds_toArray, List.set_cons_zero, List.set_cons_succ])
        refine wpAnyH_take (i := 1) (oi := ({ dst := some 52, op := Op.indexAddr 24 (Operand.tmp 5) (Operand.const (Value.int IntKind.i64 0)), type := 0, pos := "law.go:34", after := #[], guard := none } : Oper)) (v := ?_) rfl (by kernel_rfl) (by kernel_rfl) (by kernel_rfl) (fun _ _ _ h => h) (Or.inl ⟨by rfl, ?_⟩) hS ?_
        rotate_left
        · (intro w hSw; (try dsimp only at hSw); go_simp; try with_reducible rfl)
        (try simp only [Act.put, List.setIfInBounds_toArray, List.set_cons_zero, List.set_cons_succ])
        refine wpAnyH_take (i := 2) (oi := ({ dst := some 53, op := Op.load 3 (Operand.tmp 52), type := 3, pos := "law.go:34", after := #[{ on := 1, ground := Ground.data }], guard := none } : Oper)) (v := ?_) rfl (by kernel_rfl) (by kernel_rfl) (by kernel_rfl) (fun _ _ _ h => h) (Or.inl ⟨by rfl, ?_⟩) hS ?_
        rotate_left
        · (intro w hSw; (try dsimp only at hSw); obtain ⟨z0, z1⟩ := hSw; go_simp; try with_reducible rfl)
        (try simp only [Act.put, List.setIfInBounds_toArray, List.set_cons_zero, List.set_cons_succ])
        refine wpAnyH_take (i := 3) (oi := ({ dst := some 54, op := Op.indexAddr 24 (Operand.tmp 5) (Operand.const (Value.int IntKind.i64 1)), type := 0, pos := "law.go:34", after := #[], guard := none } : Oper)) (v := ?_) rfl (by kernel_rfl) (by kernel_rfl) (by kernel_rfl) (fun _ _ _ h => h) (Or.inl ⟨by rfl, ?_⟩) hS ?_
        rotate_left
        · (intro w hSw; (try dsimp only at hSw); go_simp; try with_reducible rfl)
        (try simp only [Act.put, List.setIfInBounds_toArray, List.set_cons_zero, List.set_cons_succ])
        refine wpAnyH_take (i := 4) (oi := ({ dst := some 55, op := Op.load 3 (Operand.tmp 54), type := 3, pos := "law.go:34", after := #[{ on := 3, ground := Ground.data }], guard := none } : Oper)) (v := ?_) rfl (by kernel_rfl) (by kernel_rfl) (by kernel_rfl) (fun _ _ _ h => h) (Or.inl ⟨by rfl, ?_⟩) hS ?_
        rotate_left
        · (intro w hSw; (try dsimp only at hSw); obtain ⟨z0, z1⟩ := hSw; go_simp; try with_reducible rfl)
        (try simp only [Act.put, List.setIfInBounds_toArray, List.set_cons_zero, List.set_cons_succ])
        refine wpAnyH_take (i := 6) (oi := ({ dst := some 57, op := Op.move (Operand.tmp 10), type := 27, pos := "law.go:34", after := #[], guard := none } : Oper)) (v := ?_) rfl (by kernel_rfl) (by kernel_rfl) (by kernel_rfl) (fun _ _ _ h => h) (Or.inl ⟨by rfl, ?_⟩) hS ?_
        rotate_left
        · (intro w hSw; (try dsimp only at hSw); go_simp; try with_reducible rfl)
        (try simp only [Act.put, List.setIfInBounds_toArray, List.set_cons_zero, List.set_cons_succ])
        refine wpAnyH_take (i := 7) (oi := ({ dst := some 58, op := Op.indexAddr 24 (Operand.tmp 5) (Operand.const (Value.int IntKind.i64 0)), type := 0, pos := "law.go:34", after := #[], guard := none } : Oper)) (v := ?_) rfl (by kernel_rfl) (by kernel_rfl) (by kernel_rfl) (fun _ _ _ h => h) (Or.inl ⟨by rfl, ?_⟩) hS ?_
        rotate_left
        · (intro w hSw; (try dsimp only at hSw); go_simp; try with_reducible rfl)
        (try simp only [Act.put, List.setIfInBounds_toArray, List.set_cons_zero, List.set_cons_succ])
        refine wpAnyH_take (i := 8) (oi := ({ dst := some 59, op := Op.load 3 (Operand.tmp 58), type := 3, pos := "law.go:34", after := #[{ on := 7, ground := Ground.data }], guard := none } : Oper)) (v := ?_) rfl (by kernel_rfl) (by kernel_rfl) (by kernel_rfl) (fun _ _ _ h => h) (Or.inl ⟨by rfl, ?_⟩) hS ?_
        rotate_left
        · (intro w hSw; (try dsimp only at hSw); obtain ⟨z0, z1⟩ := hSw; go_simp; try with_reducible rfl)
        (try simp only [Act.put, List.setIfInBounds_toArray, List.set_cons_zero, List.set_cons_succ])
        refine wpAnyH_take (i := 9) (oi := ({ dst := some 60, op := Op.indexAddr 24 (Operand.tmp 5) (Operand.const (Value.int IntKind.i64 1)), type := 0, pos := "law.go:34", after := #[], guard := none } : Oper)) (v := ?_) rfl (by kernel_rfl) (by kernel_rfl) (by kernel_rfl) (fun _ _ _ h => h) (Or.inl ⟨by rfl, ?_⟩) hS ?_
        rotate_left
        · (intro w hSw; (try dsimp only at hSw); go_simp; try with_reducible rfl)
        (try simp only [Act.put, List.setIfInBounds_toArray, List.set_cons_zero, List.set_cons_succ])
        refine wpAnyH_take (i := 10) (oi := ({ dst := some 61, op := Op.load 3 (Operand.tmp 60), type := 3, pos := "law.go:34", after := #[{ on := 9, ground := Ground.data }], guard := none } : Oper)) (v := ?_) rfl (by kernel_rfl) (by kernel_rfl) (by kernel_rfl) (fun _ _ _ h => h) (Or.inl ⟨by rfl, ?_⟩) hS ?_
        rotate_left
        · (intro w hSw; (try dsimp only at hSw); obtain ⟨z0, z1⟩ := hSw; go_simp; try with_reducible rfl)
        (try simp only [Act.put, List.setIfInBounds_toArray, List.set_cons_zero, List.set_cons_succ])
        refine rg_one 5 ({ dst := some 56, op := Op.call { callee := Callee.value (Operand.func 9), args := #[Operand.tmp 51, Operand.tmp 53, Operand.tmp 55], argTypes := #[27, 3, 3] }, type := 4, pos := "law.go:34", after := #[{ on := 0, ground := Ground.data }, { on := 2, ground := Ground.data }, { on := 4, ground := Ground.data }], guard := none } : Oper) (by kernel_rfl) rfl (fun K hK => ?_)
        go_simp
        (go_at_call 9; (with_reducible refine (HCV.out _ _ _ _ (HKA.out.kin (Kin.below (Below.refl _ _).drew))).mono ?_); rintro e w3 ⟨rfl, hb⟩; have HKC := Lib.hid ((HKA.out.kin (Kin.below (Below.refl _ _).drew)).kin (Kin.below hb)); have HJC := Lib.hid ((HJA.out.kin (Kin.below (Below.refl _ _).drew)).kin (Kin.below hb)); have HB4 := Lib.hid (bch (bch HB3.out (Below.refl _ _).drew) hb))
        refine hK.out _ _ ?_ (fun hS1 => ?_)
        · (exact ⟨cell_keep hb hS.1, cell_keep hb hS.2⟩)
        clear hK K hS; have hS := hS1; clear hS1
        (try simp only [Act.put, List.setIfInBounds_toArray, List.set_cons_zero, List.set_cons_succ])
        refine rg_one 11 ({ dst := some 62, op := Op.call { callee := Callee.value (Operand.func 10), args := #[Operand.tmp 57, Operand.tmp 59, Operand.tmp 61], argTypes := #[27, 3, 3] }, type := 4, pos := "law.go:34", after := #[{ on := 6, ground := Ground.data }, { on := 8, ground := Ground.data }, { on := 10, ground := Ground.data }, { on := 5, ground := Ground.chain }], guard := none } : Oper) (by kernel_rfl) rfl (fun K hK => ?_)
        go_simp
        (go_at_call 10; (with_reducible refine (HRC.out _ _ _ _ HJC.out).mono ?_); rintro e w4 ⟨rfl, hb⟩; have HKD := Lib.hid (BS.head (HKC.out.kin (Kin.below hb)) 4 (by omega)); have HJD := Lib.hid (BS.head (HJC.out.kin (Kin.below hb)) 4 (by omega)); have HB5 := Lib.hid (bch HB4.out hb))
        refine hK.out _ _ ?_ (fun hS1 => ?_)
        · (exact ⟨cell_keep hb hS.1, cell_keep hb hS.2⟩)
        clear hK K hS; have hS := hS1; clear hS1
        (try simp only [Act.put, List.setIfInBounds_toArray, List.set_cons_zero, List.set_cons_succ])
        refine wpAnyH_take (i := 12) (oi := ({ dst := some 63, op := Op.binOp BinOp.eql 4 (Operand.tmp 56) (Operand.tmp 62) 4, type := 4, pos := "law.go:34", after := #[{ on := 5, ground := Ground.data }, { on := 11, ground := Ground.data }], guard := none } : Oper)) (v := ?_) rfl (by kernel_rfl) (by kernel_rfl) (by kernel_rfl) (fun _ _ _ h => h) (Or.inl ⟨by rfl, ?_⟩) hS ?_
        rotate_left
        · (intro w hSw; (try dsimp only at hSw); go_simp; try with_reducible rfl)
        (try simp only [Act.put, List.setIfInBounds_toArray, List.set_cons_zero, List.set_cons_succ])
        refine wpAnyH_take (i := 13) (oi := ({ dst := some 64, op := Op.move (Operand.tmp 63), type := 4, pos := "law.go:34", after := #[{ on := 12, ground := Ground.data }, { on := 11, ground := Ground.chain }], guard := none } : Oper)) (v := ?_) rfl (by kernel_rfl) (by kernel_rfl) (by kernel_rfl) (fun _ _ _ h => h) (Or.inl ⟨by rfl, ?_⟩) hS ?_
        rotate_left
        · (intro w hSw; (try dsimp only at hSw); go_simp; try with_reducible rfl)
        (try simp only [Act.put, List.setIfInBounds_toArray, List.set_cons_zero, List.set_cons_succ])
        refine wpAnyH_take (i := 14) (oi := ({ dst := some 65, op := Op.move (Operand.tmp 8), type := 27, pos := "law.go:34", after := #[{ on := 13, ground := Ground.guard }], guard := some (13, true) } : Oper)) (v := ?_) rfl (by kernel_rfl) (by kernel_rfl) (by kernel_rfl) (fun _ _ _ h => h) (Or.inl ⟨by rfl, ?_⟩) hS ?_
        rotate_left
        · (intro w hSw; (try dsimp only at hSw); go_simp; try with_reducible rfl)
        (try simp only [Act.put, List.setIfInBounds_toArray, List.set_cons_zero, List.set_cons_succ])
        refine wpAnyH_take (i := 15) (oi := ({ dst := some 66, op := Op.slice 27 (Operand.tmp 65) none (some (Operand.const (Value.int IntKind.i64 4))) none, type := 27, pos := "law.go:34", after := #[{ on := 14, ground := Ground.data }, { on := 13, ground := Ground.guard }], guard := some (13, true) } : Oper)) (v := .slice (some ⟨g2, 0, none⟩) 4 16) rfl (by kernel_rfl) (by kernel_rfl) (by kernel_rfl) (fun _ _ _ h => h) (Or.inl ⟨by rfl, ?_⟩) hS ?_
        · (intro w hSw; (try dsimp only at hSw); go_simp)
        (try simp only [Act.put, List.setIfInBounds_toArray, List.set_cons_zero, List.set_cons_succ])
        refine wpAnyH_take (i := 16) (oi := ({ dst := some 67, op := Op.indexAddr 24 (Operand.tmp 5) (Operand.const (Value.int IntKind.i64 0)), type := 0, pos := "law.go:34", after := #[{ on := 13, ground := Ground.guard }], guard := some (13, true) } : Oper)) (v := ?_) rfl (by kernel_rfl) (by kernel_rfl) (by kernel_rfl) (fun _ _ _ h => h) (Or.inl ⟨by rfl, ?_⟩) hS ?_
        rotate_left
        · (intro w hSw; (try dsimp only at hSw); go_simp; try with_reducible rfl)
        (try simp only [Act.put, List.setIfInBounds_toArray, List.set_cons_zero, List.set_cons_succ])
        refine wpAnyH_take (i := 17) (oi := ({ dst := some 68, op := Op.load 3 (Operand.tmp 67), type := 3, pos := "law.go:34", after := #[{ on := 16, ground := Ground.data }, { on := 13, ground := Ground.guard }], guard := some (13, true) } : Oper)) (v := ?_) rfl (by kernel_rfl) (by kernel_rfl) (by kernel_rfl) (fun _ _ _ h => h) (Or.inl ⟨by rfl, ?_⟩) hS ?_
        rotate_left
        · (intro w hSw; (try dsimp only at hSw); obtain ⟨z0, z1⟩ := hSw; go_simp; try with_reducible rfl)
        (try simp only [Act.put, List.setIfInBounds_toArray, List.set_cons_zero, List.set_cons_succ])
        refine wpAnyH_take (i := 18) (oi := ({ dst := some 69, op := Op.indexAddr 24 (Operand.tmp 5) (Operand.const (Value.int IntKind.i64 1)), type := 0, pos := "law.go:34", after := #[{ on := 13, ground := Ground.guard }], guard := some (13, true) } : Oper)) (v := ?_) rfl (by kernel_rfl) (by kernel_rfl) (by kernel_rfl) (fun _ _ _ h => h) (Or.inl ⟨by rfl, ?_⟩) hS ?_
        rotate_left
        · (intro w hSw; (try dsimp only at hSw); go_simp; try with_reducible rfl)
        (try simp only [Act.put, List.setIfInBounds_toArray, List.set_cons_zero, List.set_cons_succ])
        refine wpAnyH_take (i := 19) (oi := ({ dst := some 70, op := Op.load 3 (Operand.tmp 69), type := 3, pos := "law.go:34", after := #[{ on := 18, ground := Ground.data }, { on := 13, ground := Ground.guard }], guard := some (13, true) } : Oper)) (v := ?_) rfl (by kernel_rfl) (by kernel_rfl) (by kernel_rfl) (fun _ _ _ h => h) (Or.inl ⟨by rfl, ?_⟩) hS ?_
        rotate_left
        · (intro w hSw; (try dsimp only at hSw); obtain ⟨z0, z1⟩ := hSw; go_simp; try with_reducible rfl)
        (try simp only [Act.put, List.setIfInBounds_toArray, List.set_cons_zero, List.set_cons_succ])
        refine wpAnyH_take (i := 21) (oi := ({ dst := some 72, op := Op.move (Operand.tmp 10), type := 27, pos := "law.go:34", after := #[{ on := 13, ground := Ground.guard }], guard := some (13, true) } : Oper)) (v := ?_) rfl (by kernel_rfl) (by kernel_rfl) (by kernel_rfl) (fun _ _ _ h => h) (Or.inl ⟨by rfl, ?_⟩) hS ?_
        rotate_left
        · (intro w hSw; (try dsimp only at hSw); go_simp; try with_reducible rfl)
        (try simp only [Act.put, List.setIfInBounds_toArray, List.set_cons_zero, List.set_cons_succ])
        refine wpAnyH_take (i := 22) (oi := ({ dst := some 73, op := Op.slice 27 (Operand.tmp 72) none (some (Operand.const (Value.int IntKind.i64 4))) none, type := 27, pos := "law.go:34", after := #[{ on := 21, ground := Ground.data }, { on := 13, ground := Ground.guard }], guard := some (13, true) } : Oper)) (v := .slice (some ⟨b2, off2, none⟩) 4 c2) rfl (by kernel_rfl) (by kernel_rfl) (by kernel_rfl) (fun _ _ _ h => h) (Or.inl ⟨by rfl, ?_⟩) hS ?_
        · (intro w hSw; (try dsimp only at hSw); have hz : ¬ (c2 : Int) < 4 := (by omega); have hz2 : ¬ c2 = 0 := (by omega); go_simp; (try (intro hh; omega)))
        (try simp only [Act.put, List.setIfInBounds_toArray, List.set_cons_zero, List.set_cons_succ])
        refine wpAnyH_take (i := 23) (oi := ({ dst := some 74, op := Op.indexAddr 24 (Operand.tmp 5) (Operand.const (Value.int IntKind.i64 0)), type := 0, pos := "law.go:34", after := #[{ on := 13, ground := Ground.guard }], guard := some (13, true) } : Oper)) (v := ?_) rfl (by kernel_rfl) (by kernel_rfl) (by kernel_rfl) (fun _ _ _ h => h) (Or.inl ⟨by rfl, ?_⟩) hS ?_
        rotate_left
        · (intro w hSw; (try dsimp only at hSw); go_simp; try with_reducible rfl)
        (try simp only [Act.put, List.setIfInBounds_toArray, List.set_cons_zero, List.set_cons_succ])
        refine wpAnyH_take (i := 24) (oi := ({ dst := some 75, op := Op.load 3 (Operand.tmp 74), type := 3, pos := "law.go:34", after := #[{ on := 23, ground := Ground.data }, { on := 13, ground := Ground.guard }], guard := some (13, true) } : Oper)) (v := ?_) rfl (by kernel_rfl) (by kernel_rfl) (by kernel_rfl) (fun _ _ _ h => h) (Or.inl ⟨by rfl, ?_⟩) hS ?_
        rotate_left
        · (intro w hSw; (try dsimp only at hSw); obtain ⟨z0, z1⟩ := hSw; go_simp; try with_reducible rfl)
        (try simp only [Act.put, List.setIfInBounds_toArray, List.set_cons_zero, List.set_cons_succ])
        refine wpAnyH_take (i := 25) (oi := ({ dst := some 76, op := Op.indexAddr 24 (Operand.tmp 5) (Operand.const (Value.int IntKind.i64 1)), type := 0, pos := "law.go:34", after := #[{ on := 13, ground := Ground.guard }], guard := some (13, true) } : Oper)) (v := ?_) rfl (by kernel_rfl) (by kernel_rfl) (by kernel_rfl) (fun _ _ _ h => h) (Or.inl ⟨by rfl, ?_⟩) hS ?_
        rotate_left
        · (intro w hSw; (try dsimp only at hSw); go_simp; try with_reducible rfl)
        (try simp only [Act.put, List.setIfInBounds_toArray, List.set_cons_zero, List.set_cons_succ])
        refine wpAnyH_take (i := 26) (oi := ({ dst := some 77, op := Op.load 3 (Operand.tmp 76), type := 3, pos := "law.go:34", after := #[{ on := 25, ground := Ground.data }, { on := 13, ground := Ground.guard }], guard := some (13, true) } : Oper)) (v := ?_) rfl (by kernel_rfl) (by kernel_rfl) (by kernel_rfl) (fun _ _ _ h => h) (Or.inl ⟨by rfl, ?_⟩) hS ?_
        rotate_left
        · (intro w hSw; (try dsimp only at hSw); obtain ⟨z0, z1⟩ := hSw; go_simp; try with_reducible rfl)
        (try simp only [Act.put, List.setIfInBounds_toArray, List.set_cons_zero, List.set_cons_succ])
        refine rg_one 20 ({ dst := some 71, op := Op.call { callee := Callee.value (Operand.func 9), args := #[Operand.tmp 66, Operand.tmp 68, Operand.tmp 70], argTypes := #[27, 3, 3] }, type := 4, pos := "law.go:34", after := #[{ on := 15, ground := Ground.data }, { on := 17, ground := Ground.data }, { on := 19, ground := Ground.data }, { on := 13, ground := Ground.chain }, { on := 13, ground := Ground.guard }], guard := some (13, true) } : Oper) (by kernel_rfl) rfl (fun K hK => ?_)
        go_simp
        (go_at_call 9; (with_reducible refine (HCV.out _ _ _ _ HKD.out).mono ?_); rintro e w5 ⟨rfl, hb⟩; have HJE := Lib.hid (HJD.out.kin (Kin.below hb)); have HB6 := Lib.hid (bch HB5.out hb))
        refine hK.out _ _ ?_ (fun hS1 => ?_)
        · (exact ⟨cell_keep hb hS.1, cell_keep hb hS.2⟩)
        clear hK K hS; have hS := hS1; clear hS1
        (try simp only [Act.put, List.setIfInBounds_toArray, List.set_cons_zero, List.set_cons_succ])
        refine rg_one 27 ({ dst := some 78, op := Op.call { callee := Callee.value (Operand.func 10), args := #[Operand.tmp 73, Operand.tmp 75, Operand.tmp 77], argTypes := #[27, 3, 3] }, type := 4, pos := "law.go:34", after := #[{ on := 22, ground := Ground.data }, { on := 24, ground := Ground.data }, { on := 26, ground := Ground.data }, { on := 20, ground := Ground.chain }, { on := 13, ground := Ground.guard }], guard := some (13, true) } : Oper) (by kernel_rfl) rfl (fun K hK => ?_)
        go_simp
        (go_at_call 10; (with_reducible refine (HRC.out _ _ _ _ HJE.out).mono ?_); rintro e w6 ⟨rfl, hb⟩; have HB7 := Lib.hid (bch HB6.out hb))
        refine hK.out _ _ ?_ (fun hS1 => ?_)
        · (exact ⟨cell_keep hb hS.1, cell_keep hb hS.2⟩)
        clear hK K hS; have hS := hS1; clear hS1
        (try simp only [Act.put, List.setIfInBounds_toArray, List.set_cons_zero, List.set_cons_succ])
        refine wpAnyH_take (i := 28) (oi := ({ dst := some 79, op := Op.binOp BinOp.eql 4 (Operand.tmp 71) (Operand.tmp 78) 4, type := 4, pos := "law.go:34", after := #[{ on := 20, ground := Ground.data }, { on := 27, ground := Ground.data }, { on := 13, ground := Ground.guard }], guard := some (13, true) } : Oper)) (v := ?_) rfl (by kernel_rfl) (by kernel_rfl) (by kernel_rfl) (fun _ _ _ h => h) (Or.inl ⟨by rfl, ?_⟩) hS ?_
        rotate_left
        · (intro w hSw; (try dsimp only at hSw); go_simp; try with_reducible rfl)
        (try simp only [Act.put, List.setIfInBounds_toArray, List.set_cons_zero, List.set_cons_succ])
        refine wpAnyH_take (i := 29) (oi := ({ dst := some 80, op := Op.pick (Operand.tmp 64) (Operand.tmp 79) (Operand.const (Value.bool false)), type := 4, pos := "law.go:34", after := #[{ on := 13, ground := Ground.data }, { on := 28, ground := Ground.data }], guard := none } : Oper)) (v := ?_) rfl (by kernel_rfl) (by kernel_rfl) (by kernel_rfl) (fun _ _ _ h => h) (Or.inl ⟨by rfl, ?_⟩) hS ?_
        rotate_left
        · (intro w hSw; (try dsimp only at hSw); go_simp; try with_reducible rfl)
        (try simp only [Act.put, List.setIfInBounds_toArray, List.set_cons_zero, List.set_cons_succ])
        refine wpAnyH_take (i := 30) (oi := ({ dst := some 81, op := Op.move (Operand.tmp 80), type := 4, pos := "law.go:34", after := #[{ on := 29, ground := Ground.data }, { on := 27, ground := Ground.chain }], guard := none } : Oper)) (v := ?_) rfl (by kernel_rfl) (by kernel_rfl) (by kernel_rfl) (fun _ _ _ h => h) (Or.inl ⟨by rfl, ?_⟩) hS ?_
        rotate_left
        · (intro w hSw; (try dsimp only at hSw); go_simp; try with_reducible rfl)
        (try simp only [Act.put, List.setIfInBounds_toArray, List.set_cons_zero, List.set_cons_succ])
        refine rg_one 31 ({ dst := some 82, op := Op.call { callee := Callee.value (Operand.func 6), args := #[], argTypes := #[] }, type := 4, pos := "law.go:34", after := #[{ on := 30, ground := Ground.chain }, { on := 30, ground := Ground.guard }], guard := some (30, true) } : Oper) (by kernel_rfl) rfl (fun K hK => ?_)
        go_simp
        (go_at_call 6; (with_reducible refine (awake_any _).mono ?_); rintro e w7 ⟨rfl, hb⟩; have HB8 := Lib.hid (bch HB7.out hb))
        refine hK.out _ _ ?_ (fun hS1 => ?_)
        · (exact ⟨cell_keep hb hS.1, cell_keep hb hS.2⟩)
        clear hK K hS; have hS := hS1; clear hS1
        (try simp only [Act.put, List.setIfInBounds_toArray, List.set_cons_zero, List.set_cons_succ])
        refine wpAnyH_take (i := 32) (oi := ({ dst := some 83, op := Op.pick (Operand.tmp 81) (Operand.tmp 82) (Operand.const (Value.bool false)), type := 4, pos := "law.go:34", after := #[{ on := 30, ground := Ground.data }, { on := 31, ground := Ground.data }], guard := none } : Oper)) (v := ?_) rfl (by kernel_rfl) (by kernel_rfl) (by kernel_rfl) (fun _ _ _ h => h) (Or.inl ⟨by rfl, ?_⟩) hS ?_
        rotate_left
        · (intro w hSw; (try dsimp only at hSw); go_simp; try with_reducible rfl)
        (try simp only [Act.put, List.setIfInBounds_toArray, List.set_cons_zero, List.set_cons_succ])
        refine wpAnyH_take (i := 33) (oi := ({ dst := some 6, op := Op.assign (Operand.tmp 83), type := 4, pos := "law.go:34", after := #[{ on := 32, ground := Ground.data }, { on := 31, ground := Ground.chain }, { on := 0, ground := Ground.phase }, { on := 1, ground := Ground.phase }, { on := 2, ground := Ground.phase }, { on := 3, ground := Ground.phase }, { on := 4, ground := Ground.phase }, { on := 5, ground := Ground.phase }, { on := 6, ground := Ground.phase }, { on := 7, ground := Ground.phase }, { on := 8, ground := Ground.phase }, { on := 9, ground := Ground.phase }, { on := 10, ground := Ground.phase }, { on := 11, ground := Ground.phase }, { on := 12, ground := Ground.phase }, { on := 13, ground := Ground.phase }, { on := 14, ground := Ground.phase }, { on := 15, ground := Ground.phase }, { on := 16, ground := Ground.phase }, { on := 17, ground := Ground.phase }, { on := 18, ground := Ground.phase }, { on := 19, ground := Ground.phase }, { on := 20, ground := Ground.phase }, { on := 21, ground := Ground.phase }, { on := 22, ground := Ground.phase }, { on := 23, ground := Ground.phase }, { on := 24, ground := Ground.phase }, { on := 25, ground := Ground.phase }, { on := 26, ground := Ground.phase }, { on := 27, ground := Ground.phase }, { on := 28, ground := Ground.phase }, { on := 29, ground := Ground.phase }, { on := 30, ground := Ground.phase }, { on := 31, ground := Ground.phase }, { on := 32, ground := Ground.phase }], guard := none } : Oper)) (v := ?_) rfl (by kernel_rfl) (by kernel_rfl) (by kernel_rfl) (fun _ _ _ h => h) (Or.inl ⟨by rfl, ?_⟩) hS ?_
        rotate_left
        · (intro w hSw; (try dsimp only at hSw); go_simp; try with_reducible rfl)
        (try simp only [Act.put, List.setIfInBounds_toArray, List.set_cons_zero, List.set_cons_succ])
        refine wpAnyH_done (by kernel_rfl) ?_ _
        clear hS
        go_wp2
        go_ret
        exact ⟨rfl, HB8.out⟩
end Go.Proofs.Ytedjebccclocnaa
