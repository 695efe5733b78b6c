/-
  THE WALK OF THE 3 FragEncodes: whatever fragment, epoch and bytes come in (within the form's own reach): the call returns true and changes nothing that was there (written by wip/gen/g23.py).
-/
import Derived.Test.YtkomlapgjblnlaaDoorFragDecodes
namespace Go.Proofs.YtkomlapgjblnlaaDoor
open Go.RowKit
theorem psame_self (k e : Int) (d : List Int) (hb : isB d) (v : Value) (n : Nat) (w : World) (h1 : RI .u8 w v n d) :
    Calls Tryd.prog 10 #[.agg (fA k e v), .agg (fA k e v)] w fun r w' => r = .returned (.bool true) ∧ Below w.heap.size w w' :=
  (fsame_any k e v n d k e v n d w h1 h1 hb hb).mono fun _ _ ⟨h, b⟩ => ⟨by rw [h]; simp, b⟩
set_option maxRecDepth 8000 in
set_option maxHeartbeats 4000000 in
theorem encodes_wrong (k e : Int) (a : Option Addr) (n cap : Nat) (ep : Int) (v : Value) (W : World) (ht : Tab W) (hr : fragOk k n = false) :
    Calls Tryd.prog 3 #[.agg (fA k e (.slice a n cap)), .int .u32 ep, v] W fun e w' => e = .returned (.bool true) ∧ Below W.heap.size W w' := by
  obtain ⟨w0, hw0⟩ : ∃ q, W.alloc (.cells (fA k e (.slice a n cap)) 25) = q := ⟨_, rfl⟩
  have HA : Hid (FO w0 W.heap.size k e (.slice a n cap)) := Lib.hid (by rw [← hw0]; exact FO.alloc W)
  have HB : Hid (Below W.heap.size W w0) := Lib.hid (by rw [← hw0]; exact balloc W _)
  have HT := Lib.hid (ht.keep HB.out)
  have HE : Hid (∀ w, Calls Tryd.prog 6 #[.agg (fA k e (.slice a n cap))] w fun r w' => r = .returned (.tuple #[.slice none 0 0, .int .i64 13]) ∧ Below w.heap.size w w') := Lib.hid fun w => fenc_wrong k e a n cap w hr
  have HO : Hid (∀ w, Calls Tryd.prog 7 #[.agg (fA k e (.slice a n cap))] w fun r w' => r = .returned (.bool false) ∧ Below w.heap.size w w') := Lib.hid fun w => by rw [← hr]; exact rfright_any k e a n cap w
  clear hr ht
  go_enter Tryd.func3, Tryd.ntmps3
  go_wp2_with (first
    | (go_at_call 6; (with_reducible refine (HE.out _).mono ?_); rintro r w1 ⟨rfl, hb1⟩; have HA1 := Lib.hid (HA.out.keep hb1); have HB1 := Lib.hid (bch HB.out hb1); have HT1 := Lib.hid (HT.out.keep hb1); clear hb1)
    | (go_at_call 7; (with_reducible refine (HO.out _).mono ?_); rintro r w2 ⟨rfl, hb2⟩; have HB2 := Lib.hid (bch HB1.out hb2); have HT2 := Lib.hid (HT1.out.keep hb2); clear hb2)
    | (go_at_call 8; (with_reducible refine (awake_any HT2.out).mono ?_); rintro r w3 ⟨rfl, hb3⟩; have HB3 := Lib.hid (bch HB2.out hb3); clear hb3)
    | (refine wpl_load_fr rfl (.tmp 3) rfl rfl HA1.out ?_)
    | (refine wpl_load_fr rfl (.tmp 3) rfl rfl HA.out ?_))
  go_ret
  exact ⟨rfl, HB3.out⟩
set_option maxRecDepth 8000 in
set_option maxHeartbeats 8000000 in
theorem encodes_right (k e : Int) (a : Option Addr) (n cap : Nat) (d : List Int) (ep : Int) (v : Value) (m : Nat) (rs : List Int) (W : World) (ht : Tab W) (hr : fragOk k n = true) (he : 0 ≤ e ∧ e ≤ 4294967295) (hri : RI .u8 W (.slice a n cap) n d) (hbd : isB d) (hrr : RI .u8 W v m rs) (hbr : isB rs) (hm : (m : Int) ≤ 150000000000000) :
    Calls Tryd.prog 3 #[.agg (fA k e (.slice a n cap)), .int .u32 ep, v] W fun e w' => e = .returned (.bool true) ∧ Below W.heap.size W w' := by
  have hp := fok_parts hr
  have hd := hri.length
  obtain ⟨w0, hw0⟩ : ∃ q, W.alloc (.cells (fA k e (.slice a n cap)) 25) = q := ⟨_, rfl⟩
  have HA : Hid (FO w0 W.heap.size k e (.slice a n cap)) := Lib.hid (by rw [← hw0]; exact FO.alloc W)
  have HB : Hid (Below W.heap.size W w0) := Lib.hid (by rw [← hw0]; exact balloc W _)
  have HT := Lib.hid (ht.keep HB.out)
  have HR := Lib.hid (hri.keep HB.out)
  have HV := Lib.hid (hrr.keep HB.out)
  obtain ⟨B, hB⟩ : ∃ B, fragB k e d = B := ⟨_, rfl⟩
  have hbB : isB B := by rw [← hB]; exact fragB_bytes (by omega) e hbd
  have hlB : B.length = 11 + n := by rw [← hB, fragB_length, hd]
  have HE : Hid (∀ w, Tab w → RI .u8 w (.slice a n cap) n d → Calls Tryd.prog 6 #[.agg (fA k e (.slice a n cap))] w fun r w' => ∃ p c, r = .returned (.tuple #[.slice p (11 + n) c, .int .i64 0]) ∧ RI .u8 w' (.slice p (11 + n) c) (11 + n) B ∧ Below w.heap.size w w') := Lib.hid fun w h1 h2 => by rw [← hB]; exact fenc_right k e a n cap d w h1 hr he h2 hbd
  have HO : Hid (∀ w, Calls Tryd.prog 7 #[.agg (fA k e (.slice a n cap))] w fun r w' => r = .returned (.bool true) ∧ Below w.heap.size w w') := Lib.hid fun w => by rw [← hr]; exact rfright_any k e a n cap w
  have HY : Hid (∀ w, RI .u8 w (.slice a n cap) n d → Calls Tryd.prog 9 #[.agg (fA k e (.slice a n cap))] w fun r w' => ∃ p c, r = .returned (.slice p (11 + n) c) ∧ RI .u8 w' (.slice p (11 + n) c) (11 + n) B ∧ Below w.heap.size w w') := Lib.hid fun w h => by
    rw [← hB]
    exact (rfbytes_any k e _ n d w hr he h hbd).mono fun _ _ ⟨p, c, h1, h2, h3⟩ => ⟨p, c, h1, RI.own h2, h3⟩
  have HS : Hid (∀ w, RI .u8 w (.slice a n cap) n d → Calls Tryd.prog 10 #[.agg (fA k e (.slice a n cap)), .agg (fA k e (.slice a n cap))] w fun r w' => r = .returned (.bool true) ∧ Below w.heap.size w w') := Lib.hid fun w h => psame_self k e d hbd _ n w h
  have HSR : Hid (∀ v w, RI .u8 w v n d → RI .u8 w (.slice a n cap) n d → Calls Tryd.prog 12 #[.agg (fA k e v), .agg (fA k e (.slice a n cap))] w fun r w' => r = .returned (.bool true) ∧ Below w.heap.size w w') := Lib.hid fun v w h1 h2 => fsame_self k e d hbd v _ n n w h1 h2
  have hg := frag_got (k := k) (e := e) (d := d) rs (by rw [hd]; exact hr) (by omega)
  rw [hB, hd] at hg
  have HD1 : Hid (∀ w v, Tab w → RI .u8 w v (11 + n + m) (B ++ rs) → Calls Tryd.prog 11 #[v, .int .u32 e] w fun r w' => ∃ p c, r = .returned (.tuple #[.agg (fA k e (.slice p n c)), .int .i64 ((11 + n : Nat) : Int), .int .i64 0]) ∧ RI .u8 w' (.slice p n c) n d ∧ Below w.heap.size w w') := Lib.hid fun w v h0 h =>
    (fdec_any v _ _ e w h0 h (hbB.append hbr)).mono fun _ _ hq => by
      obtain ⟨p, n', c, g1, g2, g3, g4⟩ := decf_form hg hq
      obtain rfl : n' = n := by rw [g3]; exact hd
      exact ⟨p, c, g1, g2, g4⟩
  obtain ⟨s, hs⟩ : ∃ s, strOfNums B = s := ⟨_, rfl⟩
  have HSS := Lib.hid hs
  have HN : Hid (n ≤ 197 ∧ (m : Int) ≤ 150000000000000) := Lib.hid ⟨hp.2.2, hm⟩
  have hn9 : (n : Int) ≤ 197 := by omega
  by_cases hep : ep = e
  · subst hep
    clear hr hri hp hd hbd hrr hbr hm hbB hlB hB hg hs ht he
    go_enter Tryd.func3, Tryd.ntmps3
    go_wp2_with (first
      | (go_at_call 6; (with_reducible refine (HE.out _ HT.out HR.out).mono ?_); rintro r w1 ⟨p1, c1, rfl, hr1, hb1⟩; have HE1 := Lib.hid hr1; have HA1 := Lib.hid (HA.out.keep hb1); have HB1 := Lib.hid hb1; clear hr1 hb1)
      | (go_at_call 7; (with_reducible refine (HO.out _).mono ?_); rintro r w2 ⟨rfl, hb2⟩; have HA2 := Lib.hid (HA1.out.keep hb2); have HE2 := Lib.hid (HE1.out.keep hb2); have HB2 := Lib.hid (bch HB1.out hb2); have HR2 := Lib.hid ((HR.out.keep HB1.out).keep hb2); clear hb2)
      | (refine wpl_load_fr rfl (.tmp 3) rfl rfl HA1.out ?_)
      | (refine wpl_load_fr rfl (.tmp 3) rfl rfl HA.out ?_))
    refine wp_region_held_drew (S := (fun W' => Below w2.heap.size w2 W')) (by kernel_rfl) ((Below.refl _ _).drew) (fun hS => ?_)
    refine wpAnyH_take (i := 0) (oi := ({ dst := some 34, op := Op.move (Operand.tmp 8), type := 26, pos := "law.go:23", after := #[], guard := none } : Oper)) (v := ?_) rfl (by kernel_rfl) (by kernel_rfl) (by kernel_rfl) (fun _ _ _ h => h) (Or.inl ⟨by rfl, ?_⟩) hS ?_
    rotate_left
    · (intro w hSw; (try dsimp only at hSw); go_simp; try with_reducible rfl)
    (try simp only [Act.put, List.setIfInBounds_toArray, List.set_cons_zero, List.set_cons_succ])
    refine wpAnyH_take (i := 1) (oi := ({ dst := some 35, op := Op.binOp BinOp.neq 26 (Operand.tmp 34) (Operand.const (Value.int IntKind.i64 0)) 26, type := 4, pos := "law.go:23", after := #[{ on := 0, ground := Ground.data }], guard := none } : Oper)) (v := ?_) rfl (by kernel_rfl) (by kernel_rfl) (by kernel_rfl) (fun _ _ _ h => h) (Or.inl ⟨by rfl, ?_⟩) hS ?_
    rotate_left
    · (intro w hSw; (try dsimp only at hSw); go_simp; try with_reducible rfl)
    (try simp only [Act.put, List.setIfInBounds_toArray, List.set_cons_zero, List.set_cons_succ])
    refine wpAnyH_take (i := 2) (oi := ({ dst := some 36, op := Op.move (Operand.tmp 35), type := 4, pos := "law.go:23", after := #[{ on := 1, ground := Ground.data }], guard := none } : Oper)) (v := ?_) rfl (by kernel_rfl) (by kernel_rfl) (by kernel_rfl) (fun _ _ _ h => h) (Or.inl ⟨by rfl, ?_⟩) hS ?_
    rotate_left
    · (intro w hSw; (try dsimp only at hSw); go_simp; try with_reducible rfl)
    (try simp only [Act.put, List.setIfInBounds_toArray, List.set_cons_zero, List.set_cons_succ])
    refine wpAnyH_take (i := 3) (oi := ({ dst := some 37, op := Op.move (Operand.tmp 7), type := 23, pos := "law.go:23", after := #[{ on := 2, ground := Ground.guard }], guard := some (2, false) } : Oper)) (v := ?_) rfl (by kernel_rfl) (by kernel_rfl) (by kernel_rfl) (fun _ _ _ h => h) (Or.inl ⟨by rfl, ?_⟩) hS ?_
    rotate_left
    · (intro w hSw; (try dsimp only at hSw); go_simp; try with_reducible rfl)
    (try simp only [Act.put, List.setIfInBounds_toArray, List.set_cons_zero, List.set_cons_succ])
    refine wpAnyH_take (i := 4) (oi := ({ dst := some 38, op := Op.convert 23 9 (Operand.tmp 37), type := 9, pos := "law.go:23", after := #[{ on := 3, ground := Ground.data }, { on := 2, ground := Ground.guard }], guard := some (2, false) } : Oper)) (v := ?_) rfl (by kernel_rfl) (by kernel_rfl) (by kernel_rfl) (fun _ _ _ h => h) (Or.inl ⟨by rfl, ?_⟩) hS ?_
    rotate_left
    · (intro w hSw; (try dsimp only at hSw); have z := conv_ri (RI.keep hSw HE2.out); rw [HSS.out] at z; go_simp; try with_reducible rfl)
    (try simp only [Act.put, List.setIfInBounds_toArray, List.set_cons_zero, List.set_cons_succ])
    refine wpAnyH_take (i := 5) (oi := ({ dst := some 39, op := Op.load 25 (Operand.tmp 3), type := 25, pos := "law.go:23", after := #[{ on := 2, ground := Ground.guard }], guard := some (2, false) } : Oper)) (v := .agg (fA k ep (.slice a n cap))) rfl (by kernel_rfl) (by kernel_rfl) (by kernel_rfl) (fun _ _ _ h => h) (Or.inl ⟨by rfl, ?_⟩) hS ?_
    · (intro w hSw; (try dsimp only at hSw); exact exec_load_fr (.tmp 3) rfl rfl (HA2.out.keep hSw))
    (try simp only [Act.put, List.setIfInBounds_toArray, List.set_cons_zero, List.set_cons_succ])
    refine rg_one 6 ({ dst := some 40, op := Op.call { callee := Callee.value (Operand.func 9), args := #[Operand.tmp 39], argTypes := #[25] }, type := 23, pos := "law.go:23", after := #[{ on := 5, ground := Ground.data }, { on := 2, ground := Ground.chain }, { on := 2, ground := Ground.guard }], guard := some (2, false) } : Oper) (by kernel_rfl) rfl (fun K hK => ?_)
    go_simp
    (go_at_call 9; (with_reducible refine (HY.out _ (RI.keep hS HR2.out)).mono ?_); rintro r w3 ⟨p3, c3, rfl, hr3, hb3⟩; have HR3 := Lib.hid hr3; have hN := hS.trans (hb3.mono hS.size))
    refine hK.out _ _ ?_ (fun hS1 => ?_)
    · (first | exact hN | exact hS)
    clear hK K hS; have hS := hS1; clear hS1
    (try simp only [Act.put, List.setIfInBounds_toArray, List.set_cons_zero, List.set_cons_succ])
    (apply rg_strong (S' := fun w' => (convert 23 9 (.slice p3 (11 + n) c3)).run Tryd.prog w' = .ok (.string s) w' ∧ Below w2.heap.size w2 w') (fun _ h => h.2); have hS2 := hS; clear hS; (try clear hN); have hS := And.intro (show (convert 23 9 (.slice p3 (11 + n) c3)).run Tryd.prog w3 = .ok (.string s) w3 from by have := conv_ri HR3.out; rwa [HSS.out] at this) hS2)
    refine wpAnyH_take (i := 7) (oi := ({ dst := some 41, op := Op.convert 23 9 (Operand.tmp 40), type := 9, pos := "law.go:23", after := #[{ on := 6, ground := Ground.data }, { on := 2, ground := Ground.guard }], guard := some (2, false) } : Oper)) (v := ?_) rfl (by kernel_rfl) (by kernel_rfl) (by kernel_rfl) (fun _ _ _ h => h) (Or.inl ⟨by rfl, ?_⟩) hS ?_
    rotate_left
    · (intro w hSw; (try dsimp only at hSw); have z := hSw.1; go_simp; try with_reducible rfl)
    (try simp only [Act.put, List.setIfInBounds_toArray, List.set_cons_zero, List.set_cons_succ])
    refine wpAnyH_take (i := 8) (oi := ({ dst := some 42, op := Op.binOp BinOp.neq 9 (Operand.tmp 38) (Operand.tmp 41) 9, type := 4, pos := "law.go:23", after := #[{ on := 4, ground := Ground.data }, { on := 7, ground := Ground.data }, { on := 2, ground := Ground.guard }], guard := some (2, false) } : Oper)) (v := ?_) rfl (by kernel_rfl) (by kernel_rfl) (by kernel_rfl) (fun _ _ _ h => h) (Or.inl ⟨by rfl, ?_⟩) hS ?_
    rotate_left
    · (intro w hSw; (try dsimp only at hSw); go_simp; try with_reducible rfl)
    (try simp only [Act.put, List.setIfInBounds_toArray, List.set_cons_zero, List.set_cons_succ])
    refine wpAnyH_take (i := 9) (oi := ({ dst := some 43, op := Op.pick (Operand.tmp 36) (Operand.const (Value.bool true)) (Operand.tmp 42), type := 4, pos := "law.go:23", after := #[{ on := 2, ground := Ground.data }, { on := 8, ground := Ground.data }], guard := none } : Oper)) (v := ?_) rfl (by kernel_rfl) (by kernel_rfl) (by kernel_rfl) (fun _ _ _ h => h) (Or.inl ⟨by rfl, ?_⟩) hS ?_
    rotate_left
    · (intro w hSw; (try dsimp only at hSw); go_simp; try with_reducible rfl)
    (try simp only [Act.put, List.setIfInBounds_toArray, List.set_cons_zero, List.set_cons_succ])
    refine wpAnyH_take (i := 10) (oi := ({ dst := some 44, op := Op.move (Operand.tmp 43), type := 4, pos := "law.go:23", after := #[{ on := 9, ground := Ground.data }, { on := 6, ground := Ground.chain }], guard := none } : Oper)) (v := ?_) rfl (by kernel_rfl) (by kernel_rfl) (by kernel_rfl) (fun _ _ _ h => h) (Or.inl ⟨by rfl, ?_⟩) hS ?_
    rotate_left
    · (intro w hSw; (try dsimp only at hSw); go_simp; try with_reducible rfl)
    (try simp only [Act.put, List.setIfInBounds_toArray, List.set_cons_zero, List.set_cons_succ])
    refine wpAnyH_take (i := 11) (oi := ({ dst := some 45, op := Op.load 25 (Operand.tmp 3), type := 25, pos := "law.go:23", after := #[{ on := 10, ground := Ground.guard }], guard := some (10, false) } : Oper)) (v := .agg (fA k ep (.slice a n cap))) rfl (by kernel_rfl) (by kernel_rfl) (by kernel_rfl) (fun _ _ _ h => h) (Or.inl ⟨by rfl, ?_⟩) hS ?_
    · (intro w hSw; (try dsimp only at hSw); exact exec_load_fr (.tmp 3) rfl rfl (HA2.out.keep hSw.2))
    (try simp only [Act.put, List.setIfInBounds_toArray, List.set_cons_zero, List.set_cons_succ])
    refine wpAnyH_take (i := 12) (oi := ({ dst := some 46, op := Op.load 25 (Operand.tmp 3), type := 25, pos := "law.go:23", after := #[{ on := 10, ground := Ground.guard }], guard := some (10, false) } : Oper)) (v := .agg (fA k ep (.slice a n cap))) rfl (by kernel_rfl) (by kernel_rfl) (by kernel_rfl) (fun _ _ _ h => h) (Or.inl ⟨by rfl, ?_⟩) hS ?_
    · (intro w hSw; (try dsimp only at hSw); exact exec_load_fr (.tmp 3) rfl rfl (HA2.out.keep hSw.2))
    (try simp only [Act.put, List.setIfInBounds_toArray, List.set_cons_zero, List.set_cons_succ])
    refine rg_one 13 ({ dst := some 47, op := Op.call { callee := Callee.value (Operand.func 10), args := #[Operand.tmp 45, Operand.tmp 46], argTypes := #[25, 25] }, type := 4, pos := "law.go:23", after := #[{ on := 11, ground := Ground.data }, { on := 12, ground := Ground.data }, { on := 10, ground := Ground.chain }, { on := 10, ground := Ground.guard }], guard := some (10, false) } : Oper) (by kernel_rfl) rfl (fun K hK => ?_)
    go_simp
    (go_at_call 10; (with_reducible refine (HS.out _ (RI.keep hS.2 HR2.out)).mono ?_); rintro r w4 ⟨rfl, hb4⟩; (try clear hN); have hN := And.intro (show (convert 23 9 (.slice p3 (11 + n) c3)).run Tryd.prog w4 = .ok (.string s) w4 from by have := conv_ri (RI.keep hb4 HR3.out); rwa [HSS.out] at this) (hS.2.trans (hb4.mono hS.2.size)))
    refine hK.out _ _ ?_ (fun hS1 => ?_)
    · (first | exact hN | exact hS)
    clear hK K hS; have hS := hS1; clear hS1
    (try simp only [Act.put, List.setIfInBounds_toArray, List.set_cons_zero, List.set_cons_succ])
    refine wpAnyH_take (i := 14) (oi := ({ dst := some 48, op := Op.unOp UnOp.not 4 (Operand.tmp 47), type := 4, pos := "law.go:23", after := #[{ on := 13, ground := Ground.data }, { on := 10, ground := Ground.guard }], guard := some (10, false) } : Oper)) (v := ?_) rfl (by kernel_rfl) (by kernel_rfl) (by kernel_rfl) (fun _ _ _ h => h) (Or.inl ⟨by rfl, ?_⟩) hS ?_
    rotate_left
    · (intro w hSw; (try dsimp only at hSw); go_simp; try with_reducible rfl)
    (try simp only [Act.put, List.setIfInBounds_toArray, List.set_cons_zero, List.set_cons_succ])
    refine wpAnyH_take (i := 15) (oi := ({ dst := some 49, op := Op.pick (Operand.tmp 44) (Operand.const (Value.bool true)) (Operand.tmp 48), type := 4, pos := "law.go:23", after := #[{ on := 10, ground := Ground.data }, { on := 14, ground := Ground.data }], guard := none } : Oper)) (v := ?_) rfl (by kernel_rfl) (by kernel_rfl) (by kernel_rfl) (fun _ _ _ h => h) (Or.inl ⟨by rfl, ?_⟩) hS ?_
    rotate_left
    · (intro w hSw; (try dsimp only at hSw); go_simp; try with_reducible rfl)
    (try simp only [Act.put, List.setIfInBounds_toArray, List.set_cons_zero, List.set_cons_succ])
    refine wpAnyH_done (by kernel_rfl) ?_ _
    have HB4 := Lib.hid (bch HB2.out hS.2)
    have HA4 := Lib.hid (HA2.out.keep hS.2)
    have HE4 := Lib.hid (HE2.out.keep hS.2)
    clear hS hb3 HR3
    go_wp2_with (first
      | (at_builtin; refine wpl_appn rfl (.tmp 50) (.tmp 51) 23 rfl 5 .u8 1 Tryd.underlying23 Tryd.info_u8 w4.heap.size _ 0 [] rfl (own_empty rfl (Nat.le_refl _)) _ (11 + n) B rfl (HE4.out.keep (balloc _ _)) (by have := HN.out; omega) (by have := HN.out; omega) w4.heap.size w4 (Lib.hid (balloc _ _)) (Nat.le_refl _) (by simp) ?_; intro v5 w5 HO5 HB5; rw [Nat.zero_add, List.nil_append] at HO5)
      | (at_builtin; refine wpl_appn rfl (.tmp 52) (.tmp 53) 23 rfl 5 .u8 1 Tryd.underlying23 Tryd.info_u8 w4.heap.size _ (11 + n) B rfl HO5 _ m rs rfl ((HV.out.keep HB4.out).keep HB5.out) (by have := HN.out; omega) (by have := HN.out; omega) w4.heap.size w4 HB5 (Nat.le_refl _) HB5.out.size ?_; intro v6 w6 HO6 HB6; have HR6 := Lib.hid (RI.own HO6.out); have HBB := Lib.hid (bch HB4.out HB6.out); have HA6 := Lib.hid (HA4.out.keep HB6.out); obtain ⟨x0, x1, x2⟩ := HA6.out.cells)
      | (go_at_call 11; (with_reducible refine (HD1.out _ _ (HT.out.keep HBB.out) HR6.out).mono ?_); rintro r w7 ⟨p7, c7, rfl, hr7, hb7⟩; have HR7 := Lib.hid hr7; have HB7 := Lib.hid hb7; clear hr7 hb7)
      | (refine wpList_store_row rfl 25 _ _ rfl w7.heap.size (fA k ep (.slice p7 n c7)) rfl rfl _ _ (heap_alloc_last w7 _) (fr_info _ rfl) rfl (fr_one _ _ _ _ _) ?_; obtain ⟨wx7, hwx7⟩ : ∃ q, World.setRow (w7.alloc (.cells (fA 0 0 (.slice none 0 0)) 25)) w7.heap.size (fA k ep (.slice p7 n c7)) = q := ⟨_, rfl⟩; rw [hwx7]; have HX7 : Hid (Below w7.heap.size w7 wx7) := Lib.hid (by rw [← hwx7]; exact bnew _ _ _); have HF7 : Hid (FO wx7 w7.heap.size k ep (.slice p7 n c7)) := Lib.hid (by rw [← hwx7]; exact FO.new _); clear hwx7)
      | (go_at_call 11; (with_reducible refine (HD1.out _ _ (HT.out.keep (bch (bch HBB.out HB7.out) HX7.out)) ((HR6.out.keep HB7.out).keep HX7.out)).mono ?_); rintro r w8 ⟨p8, c8, rfl, hr8, hb8⟩; have HB8 := Lib.hid hb8; clear hr8 hb8)
      | (refine wpList_store_row rfl 25 _ _ rfl w8.heap.size (fA k ep (.slice p8 n c8)) rfl rfl _ _ (heap_alloc_last w8 _) (fr_info _ rfl) rfl (fr_one _ _ _ _ _) ?_; obtain ⟨wx8, hwx8⟩ : ∃ q, World.setRow (w8.alloc (.cells (fA 0 0 (.slice none 0 0)) 25)) w8.heap.size (fA k ep (.slice p8 n c8)) = q := ⟨_, rfl⟩; rw [hwx8]; have HX8 : Hid (Below w8.heap.size w8 wx8) := Lib.hid (by rw [← hwx8]; exact bnew _ _ _); have HF8 : Hid (FO wx8 w8.heap.size k ep (.slice p8 n c8)) := Lib.hid (by rw [← hwx8]; exact FO.new _); have HB9 := Lib.hid (bch HB8.out HX8.out); have HBZ := Lib.hid (bch (bch (bch HBB.out HB7.out) HX7.out) HB9.out); have HAZ := Lib.hid (((HA6.out.keep HB7.out).keep HX7.out).keep HB9.out); obtain ⟨y0, y1, y2⟩ := HAZ.out.cells; clear hwx8)
      | (go_at_call 12; (with_reducible refine (HSR.out _ _ ((HR7.out.keep HX7.out).keep HB9.out) (HR.out.keep HBZ.out)).mono ?_); rintro r wa ⟨rfl, hba⟩; obtain ⟨z0, z1, z2⟩ := (HAZ.out.keep hba).cells; have HBA := Lib.hid (bch HBZ.out hba); clear hba)
      | (go_at_call 8; (with_reducible refine (awake_any (HT.out.keep HBA.out)).mono ?_); rintro r wb ⟨rfl, hbb⟩; have HBC := Lib.hid (bch HBA.out hbb); clear hbb)
      | (refine wpl_load_fr rfl (.tmp 10) rfl rfl (HF7.out.keep HB9.out) ?_)
      | (refine wpl_load_fr rfl (.tmp 3) rfl rfl HAZ.out ?_))
    go_ret
    exact ⟨rfl, bch HB.out HBC.out⟩
  · have hne : (ep == e) = false := by simpa using hep
    have hg2 := frag_other (k := k) (e := e) (d := d) rs (by rw [hd]; exact hr) (by omega) hep
    rw [hB] at hg2
    have HD2 : Hid (∀ w v, Tab w → RI .u8 w v (11 + n + m) (B ++ rs) → Calls Tryd.prog 11 #[v, .int .u32 ep] w fun r w' => ∃ p n' c, r = .returned (.tuple #[.agg (fA 0 0 (.slice p n' c)), .int .i64 0, .int .i64 2]) ∧ Below w.heap.size w w') := Lib.hid fun w v h0 h =>
      (fdec_any v _ _ ep w h0 h (hbB.append hbr)).mono fun _ _ hq => by
        obtain ⟨p, n', c, g1, _, g4⟩ := decf_short hg2 hq
        exact ⟨p, n', c, g1, g4⟩
    clear hr hri hp hd hbd hrr hbr hm hbB hlB hB hg hg2 hs ht he hep
    go_enter Tryd.func3, Tryd.ntmps3
    go_wp2_with (first
      | (go_at_call 6; (with_reducible refine (HE.out _ HT.out HR.out).mono ?_); rintro r w1 ⟨p1, c1, rfl, hr1, hb1⟩; have HE1 := Lib.hid hr1; have HA1 := Lib.hid (HA.out.keep hb1); have HB1 := Lib.hid hb1; clear hr1 hb1)
      | (go_at_call 7; (with_reducible refine (HO.out _).mono ?_); rintro r w2 ⟨rfl, hb2⟩; have HA2 := Lib.hid (HA1.out.keep hb2); have HE2 := Lib.hid (HE1.out.keep hb2); have HB2 := Lib.hid (bch HB1.out hb2); have HR2 := Lib.hid ((HR.out.keep HB1.out).keep hb2); clear hb2)
      | (refine wpl_load_fr rfl (.tmp 3) rfl rfl HA1.out ?_)
      | (refine wpl_load_fr rfl (.tmp 3) rfl rfl HA.out ?_))
    refine wp_region_held_drew (S := (fun W' => Below w2.heap.size w2 W')) (by kernel_rfl) ((Below.refl _ _).drew) (fun hS => ?_)
    refine wpAnyH_take (i := 0) (oi := ({ dst := some 34, op := Op.move (Operand.tmp 8), type := 26, pos := "law.go:23", after := #[], guard := none } : Oper)) (v := ?_) rfl (by kernel_rfl) (by kernel_rfl) (by kernel_rfl) (fun _ _ _ h => h) (Or.inl ⟨by rfl, ?_⟩) hS ?_
    rotate_left
    · (intro w hSw; (try dsimp only at hSw); go_simp; try with_reducible rfl)
    (try simp only [Act.put, List.setIfInBounds_toArray, List.set_cons_zero, List.set_cons_succ])
    refine wpAnyH_take (i := 1) (oi := ({ dst := some 35, op := Op.binOp BinOp.neq 26 (Operand.tmp 34) (Operand.const (Value.int IntKind.i64 0)) 26, type := 4, pos := "law.go:23", after := #[{ on := 0, ground := Ground.data }], guard := none } : Oper)) (v := ?_) rfl (by kernel_rfl) (by kernel_rfl) (by kernel_rfl) (fun _ _ _ h => h) (Or.inl ⟨by rfl, ?_⟩) hS ?_
    rotate_left
    · (intro w hSw; (try dsimp only at hSw); go_simp; try with_reducible rfl)
    (try simp only [Act.put, List.setIfInBounds_toArray, List.set_cons_zero, List.set_cons_succ])
    refine wpAnyH_take (i := 2) (oi := ({ dst := some 36, op := Op.move (Operand.tmp 35), type := 4, pos := "law.go:23", after := #[{ on := 1, ground := Ground.data }], guard := none } : Oper)) (v := ?_) rfl (by kernel_rfl) (by kernel_rfl) (by kernel_rfl) (fun _ _ _ h => h) (Or.inl ⟨by rfl, ?_⟩) hS ?_
    rotate_left
    · (intro w hSw; (try dsimp only at hSw); go_simp; try with_reducible rfl)
    (try simp only [Act.put, List.setIfInBounds_toArray, List.set_cons_zero, List.set_cons_succ])
    refine wpAnyH_take (i := 3) (oi := ({ dst := some 37, op := Op.move (Operand.tmp 7), type := 23, pos := "law.go:23", after := #[{ on := 2, ground := Ground.guard }], guard := some (2, false) } : Oper)) (v := ?_) rfl (by kernel_rfl) (by kernel_rfl) (by kernel_rfl) (fun _ _ _ h => h) (Or.inl ⟨by rfl, ?_⟩) hS ?_
    rotate_left
    · (intro w hSw; (try dsimp only at hSw); go_simp; try with_reducible rfl)
    (try simp only [Act.put, List.setIfInBounds_toArray, List.set_cons_zero, List.set_cons_succ])
    refine wpAnyH_take (i := 4) (oi := ({ dst := some 38, op := Op.convert 23 9 (Operand.tmp 37), type := 9, pos := "law.go:23", after := #[{ on := 3, ground := Ground.data }, { on := 2, ground := Ground.guard }], guard := some (2, false) } : Oper)) (v := ?_) rfl (by kernel_rfl) (by kernel_rfl) (by kernel_rfl) (fun _ _ _ h => h) (Or.inl ⟨by rfl, ?_⟩) hS ?_
    rotate_left
    · (intro w hSw; (try dsimp only at hSw); have z := conv_ri (RI.keep hSw HE2.out); rw [HSS.out] at z; go_simp; try with_reducible rfl)
    (try simp only [Act.put, List.setIfInBounds_toArray, List.set_cons_zero, List.set_cons_succ])
    refine wpAnyH_take (i := 5) (oi := ({ dst := some 39, op := Op.load 25 (Operand.tmp 3), type := 25, pos := "law.go:23", after := #[{ on := 2, ground := Ground.guard }], guard := some (2, false) } : Oper)) (v := .agg (fA k e (.slice a n cap))) rfl (by kernel_rfl) (by kernel_rfl) (by kernel_rfl) (fun _ _ _ h => h) (Or.inl ⟨by rfl, ?_⟩) hS ?_
    · (intro w hSw; (try dsimp only at hSw); exact exec_load_fr (.tmp 3) rfl rfl (HA2.out.keep hSw))
    (try simp only [Act.put, List.setIfInBounds_toArray, List.set_cons_zero, List.set_cons_succ])
    refine rg_one 6 ({ dst := some 40, op := Op.call { callee := Callee.value (Operand.func 9), args := #[Operand.tmp 39], argTypes := #[25] }, type := 23, pos := "law.go:23", after := #[{ on := 5, ground := Ground.data }, { on := 2, ground := Ground.chain }, { on := 2, ground := Ground.guard }], guard := some (2, false) } : Oper) (by kernel_rfl) rfl (fun K hK => ?_)
    go_simp
    (go_at_call 9; (with_reducible refine (HY.out _ (RI.keep hS HR2.out)).mono ?_); rintro r w3 ⟨p3, c3, rfl, hr3, hb3⟩; have HR3 := Lib.hid hr3; have hN := hS.trans (hb3.mono hS.size))
    refine hK.out _ _ ?_ (fun hS1 => ?_)
    · (first | exact hN | exact hS)
    clear hK K hS; have hS := hS1; clear hS1
    (try simp only [Act.put, List.setIfInBounds_toArray, List.set_cons_zero, List.set_cons_succ])
    (apply rg_strong (S' := fun w' => (convert 23 9 (.slice p3 (11 + n) c3)).run Tryd.prog w' = .ok (.string s) w' ∧ Below w2.heap.size w2 w') (fun _ h => h.2); have hS2 := hS; clear hS; (try clear hN); have hS := And.intro (show (convert 23 9 (.slice p3 (11 + n) c3)).run Tryd.prog w3 = .ok (.string s) w3 from by have := conv_ri HR3.out; rwa [HSS.out] at this) hS2)
    refine wpAnyH_take (i := 7) (oi := ({ dst := some 41, op := Op.convert 23 9 (Operand.tmp 40), type := 9, pos := "law.go:23", after := #[{ on := 6, ground := Ground.data }, { on := 2, ground := Ground.guard }], guard := some (2, false) } : Oper)) (v := ?_) rfl (by kernel_rfl) (by kernel_rfl) (by kernel_rfl) (fun _ _ _ h => h) (Or.inl ⟨by rfl, ?_⟩) hS ?_
    rotate_left
    · (intro w hSw; (try dsimp only at hSw); have z := hSw.1; go_simp; try with_reducible rfl)
    (try simp only [Act.put, List.setIfInBounds_toArray, List.set_cons_zero, List.set_cons_succ])
    refine wpAnyH_take (i := 8) (oi := ({ dst := some 42, op := Op.binOp BinOp.neq 9 (Operand.tmp 38) (Operand.tmp 41) 9, type := 4, pos := "law.go:23", after := #[{ on := 4, ground := Ground.data }, { on := 7, ground := Ground.data }, { on := 2, ground := Ground.guard }], guard := some (2, false) } : Oper)) (v := ?_) rfl (by kernel_rfl) (by kernel_rfl) (by kernel_rfl) (fun _ _ _ h => h) (Or.inl ⟨by rfl, ?_⟩) hS ?_
    rotate_left
    · (intro w hSw; (try dsimp only at hSw); go_simp; try with_reducible rfl)
    (try simp only [Act.put, List.setIfInBounds_toArray, List.set_cons_zero, List.set_cons_succ])
    refine wpAnyH_take (i := 9) (oi := ({ dst := some 43, op := Op.pick (Operand.tmp 36) (Operand.const (Value.bool true)) (Operand.tmp 42), type := 4, pos := "law.go:23", after := #[{ on := 2, ground := Ground.data }, { on := 8, ground := Ground.data }], guard := none } : Oper)) (v := ?_) rfl (by kernel_rfl) (by kernel_rfl) (by kernel_rfl) (fun _ _ _ h => h) (Or.inl ⟨by rfl, ?_⟩) hS ?_
    rotate_left
    · (intro w hSw; (try dsimp only at hSw); go_simp; try with_reducible rfl)
    (try simp only [Act.put, List.setIfInBounds_toArray, List.set_cons_zero, List.set_cons_succ])
    refine wpAnyH_take (i := 10) (oi := ({ dst := some 44, op := Op.move (Operand.tmp 43), type := 4, pos := "law.go:23", after := #[{ on := 9, ground := Ground.data }, { on := 6, ground := Ground.chain }], guard := none } : Oper)) (v := ?_) rfl (by kernel_rfl) (by kernel_rfl) (by kernel_rfl) (fun _ _ _ h => h) (Or.inl ⟨by rfl, ?_⟩) hS ?_
    rotate_left
    · (intro w hSw; (try dsimp only at hSw); go_simp; try with_reducible rfl)
    (try simp only [Act.put, List.setIfInBounds_toArray, List.set_cons_zero, List.set_cons_succ])
    refine wpAnyH_take (i := 11) (oi := ({ dst := some 45, op := Op.load 25 (Operand.tmp 3), type := 25, pos := "law.go:23", after := #[{ on := 10, ground := Ground.guard }], guard := some (10, false) } : Oper)) (v := .agg (fA k e (.slice a n cap))) rfl (by kernel_rfl) (by kernel_rfl) (by kernel_rfl) (fun _ _ _ h => h) (Or.inl ⟨by rfl, ?_⟩) hS ?_
    · (intro w hSw; (try dsimp only at hSw); exact exec_load_fr (.tmp 3) rfl rfl (HA2.out.keep hSw.2))
    (try simp only [Act.put, List.setIfInBounds_toArray, List.set_cons_zero, List.set_cons_succ])
    refine wpAnyH_take (i := 12) (oi := ({ dst := some 46, op := Op.load 25 (Operand.tmp 3), type := 25, pos := "law.go:23", after := #[{ on := 10, ground := Ground.guard }], guard := some (10, false) } : Oper)) (v := .agg (fA k e (.slice a n cap))) rfl (by kernel_rfl) (by kernel_rfl) (by kernel_rfl) (fun _ _ _ h => h) (Or.inl ⟨by rfl, ?_⟩) hS ?_
    · (intro w hSw; (try dsimp only at hSw); exact exec_load_fr (.tmp 3) rfl rfl (HA2.out.keep hSw.2))
    (try simp only [Act.put, List.setIfInBounds_toArray, List.set_cons_zero, List.set_cons_succ])
    refine rg_one 13 ({ dst := some 47, op := Op.call { callee := Callee.value (Operand.func 10), args := #[Operand.tmp 45, Operand.tmp 46], argTypes := #[25, 25] }, type := 4, pos := "law.go:23", after := #[{ on := 11, ground := Ground.data }, { on := 12, ground := Ground.data }, { on := 10, ground := Ground.chain }, { on := 10, ground := Ground.guard }], guard := some (10, false) } : Oper) (by kernel_rfl) rfl (fun K hK => ?_)
    go_simp
    (go_at_call 10; (with_reducible refine (HS.out _ (RI.keep hS.2 HR2.out)).mono ?_); rintro r w4 ⟨rfl, hb4⟩; (try clear hN); have hN := And.intro (show (convert 23 9 (.slice p3 (11 + n) c3)).run Tryd.prog w4 = .ok (.string s) w4 from by have := conv_ri (RI.keep hb4 HR3.out); rwa [HSS.out] at this) (hS.2.trans (hb4.mono hS.2.size)))
    refine hK.out _ _ ?_ (fun hS1 => ?_)
    · (first | exact hN | exact hS)
    clear hK K hS; have hS := hS1; clear hS1
    (try simp only [Act.put, List.setIfInBounds_toArray, List.set_cons_zero, List.set_cons_succ])
    refine wpAnyH_take (i := 14) (oi := ({ dst := some 48, op := Op.unOp UnOp.not 4 (Operand.tmp 47), type := 4, pos := "law.go:23", after := #[{ on := 13, ground := Ground.data }, { on := 10, ground := Ground.guard }], guard := some (10, false) } : Oper)) (v := ?_) rfl (by kernel_rfl) (by kernel_rfl) (by kernel_rfl) (fun _ _ _ h => h) (Or.inl ⟨by rfl, ?_⟩) hS ?_
    rotate_left
    · (intro w hSw; (try dsimp only at hSw); go_simp; try with_reducible rfl)
    (try simp only [Act.put, List.setIfInBounds_toArray, List.set_cons_zero, List.set_cons_succ])
    refine wpAnyH_take (i := 15) (oi := ({ dst := some 49, op := Op.pick (Operand.tmp 44) (Operand.const (Value.bool true)) (Operand.tmp 48), type := 4, pos := "law.go:23", after := #[{ on := 10, ground := Ground.data }, { on := 14, ground := Ground.data }], guard := none } : Oper)) (v := ?_) rfl (by kernel_rfl) (by kernel_rfl) (by kernel_rfl) (fun _ _ _ h => h) (Or.inl ⟨by rfl, ?_⟩) hS ?_
    rotate_left
    · (intro w hSw; (try dsimp only at hSw); go_simp; try with_reducible rfl)
    (try simp only [Act.put, List.setIfInBounds_toArray, List.set_cons_zero, List.set_cons_succ])
    refine wpAnyH_done (by kernel_rfl) ?_ _
    have HB4 := Lib.hid (bch HB2.out hS.2)
    have HA4 := Lib.hid (HA2.out.keep hS.2)
    have HE4 := Lib.hid (HE2.out.keep hS.2)
    clear hS hb3 HR3
    go_wp2_with (first
      | (at_builtin; refine wpl_appn rfl (.tmp 50) (.tmp 51) 23 rfl 5 .u8 1 Tryd.underlying23 Tryd.info_u8 w4.heap.size _ 0 [] rfl (own_empty rfl (Nat.le_refl _)) _ (11 + n) B rfl (HE4.out.keep (balloc _ _)) (by have := HN.out; omega) (by have := HN.out; omega) w4.heap.size w4 (Lib.hid (balloc _ _)) (Nat.le_refl _) (by simp) ?_; intro v5 w5 HO5 HB5; rw [Nat.zero_add, List.nil_append] at HO5)
      | (at_builtin; refine wpl_appn rfl (.tmp 52) (.tmp 53) 23 rfl 5 .u8 1 Tryd.underlying23 Tryd.info_u8 w4.heap.size _ (11 + n) B rfl HO5 _ m rs rfl ((HV.out.keep HB4.out).keep HB5.out) (by have := HN.out; omega) (by have := HN.out; omega) w4.heap.size w4 HB5 (Nat.le_refl _) HB5.out.size ?_; intro v6 w6 HO6 HB6; have HR6 := Lib.hid (RI.own HO6.out); have HBB := Lib.hid (bch HB4.out HB6.out); have HA6 := Lib.hid (HA4.out.keep HB6.out); obtain ⟨x0, x1, x2⟩ := HA6.out.cells)
      | (go_at_call 11; (with_reducible refine (HD1.out _ _ (HT.out.keep HBB.out) HR6.out).mono ?_); rintro r w7 ⟨p7, c7, rfl, hr7, hb7⟩; have HR7 := Lib.hid hr7; have HB7 := Lib.hid hb7; clear hr7 hb7)
      | (refine wpList_store_row rfl 25 _ _ rfl w7.heap.size (fA k e (.slice p7 n c7)) rfl rfl _ _ (heap_alloc_last w7 _) (fr_info _ rfl) rfl (fr_one _ _ _ _ _) ?_; obtain ⟨wx7, hwx7⟩ : ∃ q, World.setRow (w7.alloc (.cells (fA 0 0 (.slice none 0 0)) 25)) w7.heap.size (fA k e (.slice p7 n c7)) = q := ⟨_, rfl⟩; rw [hwx7]; have HX7 : Hid (Below w7.heap.size w7 wx7) := Lib.hid (by rw [← hwx7]; exact bnew _ _ _); have HF7 : Hid (FO wx7 w7.heap.size k e (.slice p7 n c7)) := Lib.hid (by rw [← hwx7]; exact FO.new _); clear hwx7)
      | (go_at_call 11; (with_reducible refine (HD2.out _ _ (HT.out.keep (bch (bch HBB.out HB7.out) HX7.out)) ((HR6.out.keep HB7.out).keep HX7.out)).mono ?_); rintro r w8 ⟨p8, n8, c8, rfl, hb8⟩; have HB8 := Lib.hid hb8; clear hb8)
      | (refine wpList_store_row rfl 25 _ _ rfl w8.heap.size (fA 0 0 (.slice p8 n8 c8)) rfl rfl _ _ (heap_alloc_last w8 _) (fr_info _ rfl) rfl (fr_one _ _ _ _ _) ?_; obtain ⟨wx8, hwx8⟩ : ∃ q, World.setRow (w8.alloc (.cells (fA 0 0 (.slice none 0 0)) 25)) w8.heap.size (fA 0 0 (.slice p8 n8 c8)) = q := ⟨_, rfl⟩; rw [hwx8]; have HX8 : Hid (Below w8.heap.size w8 wx8) := Lib.hid (by rw [← hwx8]; exact bnew _ _ _); have HF8 : Hid (FO wx8 w8.heap.size 0 0 (.slice p8 n8 c8)) := Lib.hid (by rw [← hwx8]; exact FO.new _); have HB9 := Lib.hid (bch HB8.out HX8.out); have HBZ := Lib.hid (bch (bch (bch HBB.out HB7.out) HX7.out) HB9.out); have HAZ := Lib.hid (((HA6.out.keep HB7.out).keep HX7.out).keep HB9.out); obtain ⟨y0, y1, y2⟩ := HAZ.out.cells; clear hwx8)
      | (go_at_call 12; (with_reducible refine (HSR.out _ _ ((HR7.out.keep HX7.out).keep HB9.out) (HR.out.keep HBZ.out)).mono ?_); rintro r wa ⟨rfl, hba⟩; obtain ⟨z0, z1, z2⟩ := (HAZ.out.keep hba).cells; have HBA := Lib.hid (bch HBZ.out hba); clear hba)
      | (go_at_call 8; (with_reducible refine (awake_any (HT.out.keep HBA.out)).mono ?_); rintro r wb ⟨rfl, hbb⟩; have HBC := Lib.hid (bch HBA.out hbb); clear hbb)
      | (refine wpl_load_fr rfl (.tmp 10) rfl rfl (HF7.out.keep HB9.out) ?_)
      | (refine wpl_load_fr rfl (.tmp 3) rfl rfl HAZ.out ?_))
    go_ret
    exact ⟨rfl, bch HB.out HBC.out⟩
end Go.Proofs.YtkomlapgjblnlaaDoor
