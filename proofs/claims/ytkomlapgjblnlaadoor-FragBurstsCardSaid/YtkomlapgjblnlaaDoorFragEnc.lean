/-
  WHAT THE PROGRAM'S Encode OF LAYER 13 (frag) ANSWERS (written by wip/gen/g19.py). The table of half a byte's steps must lie in its block as start-up lays it.
-/
import Derived.Test.YtkomlapgjblnlaaDoorFragCode
namespace Go.Proofs.YtkomlapgjblnlaaDoor
open Go.RowKit
theorem enc_head (k e : Int) (n : Nat) (hk : 0 ≤ k ∧ k ≤ 255) : splice (splice (splice z11 4 (putL n 2)) 6 (putL k 1)) 7 (putL e 4) = [0, 0, 0, 0] ++ fragK k e n := by
  have h1 : putL k 1 = [k] := by simp [putL, List.range_succ]; omega
  unfold fragK
  rw [h1]
  have h2 := putL_length n 2
  have h4 := putL_length e 4
  generalize putL n 2 = a at *
  generalize putL e 4 = b at *
  match a, b, h2, h4 with
  | [a0, a1], [b0, b1, b2, b3], _, _ => simp [splice, z11, List.replicate]
theorem enc_sum (k e : Int) (n m : Nat) : splice ([0, 0, 0, 0] ++ fragK k e n) 0 (putL m 4) = putL m 4 ++ fragK k e n := by
  have h4 := putL_length m 4
  generalize putL m 4 = b at *
  match b, h4 with
  | [b0, b1, b2, b3], _ => simp [splice]
set_option maxRecDepth 8000 in
set_option maxHeartbeats 1000000 in
theorem fenc_wrong (k e : Int) (a : Option Addr) (n cap : Nat) (w : World) (hr : fragOk k n = false) :
    Calls Tryd.prog 6 #[.agg (fA k e (.slice a n cap))] w fun r w' => r = .returned (.tuple #[.slice none 0 0, .int .i64 13]) ∧ Below w.heap.size w w' := by
  have HO : Hid (∀ w, Calls Tryd.prog 14 #[.agg (fA k e (.slice a n cap))] w fun e w' => e = .returned (.bool false) ∧ Below w.heap.size w w') := Lib.hid fun w => by rw [← hr]; exact fright_any k e a n cap w
  have HA := Lib.hid (FO.alloc (k := k) (e := e) (v := .slice a n cap) w)
  have HB := Lib.hid (balloc w (.cells (fA k e (.slice a n cap)) 25))
  clear hr
  go_enter Tryd.func6, Tryd.ntmps6
  go_wp2_with (first
    | (go_at_call 14; (with_reducible refine (HO.out _).mono ?_); rintro r w1 ⟨rfl, hb1⟩; have HB1 := Lib.hid (bch HB.out hb1); clear hb1)
    | (refine wpl_load_fr rfl (.tmp 1) rfl rfl HA.out ?_))
  go_ret2
  exact ⟨rfl, HB1.out⟩
set_option maxRecDepth 8000 in
set_option maxHeartbeats 4000000 in
theorem fenc_right (k e : Int) (a : Option Addr) (n cap : Nat) (d : List Int) (w : World) (ht : Tab w) (hr : fragOk k n = true) (he : 0 ≤ e ∧ e ≤ 4294967295) (hri : RI .u8 w (.slice a n cap) n d) (hbd : isB d) :
    Calls Tryd.prog 6 #[.agg (fA k e (.slice a n cap))] w fun r w' => ∃ p c, r = .returned (.tuple #[.slice p (11 + n) c, .int .i64 0]) ∧ RI .u8 w' (.slice p (11 + n) c) (11 + n) (fragB k e d) ∧ Below w.heap.size w w' := by
  have hp := fok_parts hr
  have hd := hri.length
  obtain ⟨he0, he1⟩ := he
  obtain ⟨m, hm⟩ : ∃ m, fragS k e d = m := ⟨_, rfl⟩
  have hm8 : (m : Int) ≤ 4294967295 := by have := fragS_lt k e d; omega
  obtain ⟨z1, hz1⟩ : ∃ z, splice z11 4 (putL n 2) = z := ⟨_, rfl⟩
  obtain ⟨z2, hz2⟩ : ∃ z, splice z1 6 (putL k 1) = z := ⟨_, rfl⟩
  obtain ⟨z3, hz3⟩ : ∃ z, splice z2 7 (putL e 4) = z := ⟨_, rfl⟩
  obtain ⟨z4, hz4⟩ : ∃ z, splice z3 0 (putL m 4) = z := ⟨_, rfl⟩
  have h3 : z3 = [0, 0, 0, 0] ++ fragK k e n := by rw [← hz3, ← hz2, ← hz1]; exact enc_head k e n (by omega)
  have h4 : z4 = putL m 4 ++ fragK k e n := by rw [← hz4, h3]; exact enc_sum k e n m
  have h3b : isB z3 := by rw [h3]; exact isB.append (fun x hx => by simp at hx; omega) (fragK_bytes (by omega) e n)
  have hsm : maskS (ofS (z3.drop 4 ++ d)) = m := by rw [← hm, h3]; unfold fragS fragT; rw [hd]; rfl
  have HZ4 : Hid ((z4.drop 0).take 11 = z4 ∧ z4 ++ d = fragB k e d) := Lib.hid ⟨by rw [List.drop_zero, List.take_of_length_le (by rw [h4]; simp [putL_length, fragK_length])], by rw [h4, ← hm]; unfold fragB fragT; rw [hd, List.append_assoc]⟩
  have HO : Hid (∀ w, Calls Tryd.prog 14 #[.agg (fA k e (.slice a n cap))] w fun e w' => e = .returned (.bool true) ∧ Below w.heap.size w w') := Lib.hid fun w => by rw [← hr]; exact fright_any k e a n cap w
  have HPA : Hid (∀ w b, HD w b z11 → Calls Tryd.prog 15 #[.pointer (some ⟨b, 0, none⟩), .int .i64 4, .int .i64 6, .int .u64 n] w fun e w' => e = .returned (.tuple #[]) ∧ HD w' b z1 ∧ Below b w w') := Lib.hid fun w b h => by rw [← hz1]; exact hput_any b 4 2 6 rfl (by omega) (by omega) (by omega) n h
  have HPB : Hid (∀ w b, HD w b z1 → Calls Tryd.prog 15 #[.pointer (some ⟨b, 0, none⟩), .int .i64 6, .int .i64 7, .int .u64 k] w fun e w' => e = .returned (.tuple #[]) ∧ HD w' b z2 ∧ Below b w w') := Lib.hid fun w b h => by rw [← hz2]; exact hput_any b 6 1 7 rfl (by omega) (by omega) (by omega) k h
  have HPC : Hid (∀ w b, HD w b z2 → Calls Tryd.prog 15 #[.pointer (some ⟨b, 0, none⟩), .int .i64 7, .int .i64 11, .int .u64 e] w fun e w' => e = .returned (.tuple #[]) ∧ HD w' b z3 ∧ Below b w w') := Lib.hid fun w b h => by rw [← hz3]; exact hput_any b 7 4 11 rfl (by omega) (by omega) (by omega) e h
  have HPD : Hid (∀ w b, HD w b z3 → Calls Tryd.prog 15 #[.pointer (some ⟨b, 0, none⟩), .int .i64 0, .int .i64 4, .int .u64 m] w fun e w' => e = .returned (.tuple #[]) ∧ HD w' b z4 ∧ Below b w w') := Lib.hid fun w b h => by rw [← hz4]; exact hput_any b 0 4 4 rfl (by omega) (by omega) (by omega) m h
  have HS : Hid (∀ w b, Tab w → HD w b z3 → RI .u8 w (.slice a n cap) n d → Calls Tryd.prog 16 #[.pointer (some ⟨b, 0, none⟩), .slice a n cap] w fun e w' => e = .returned (.int .u64 m) ∧ w = w') := Lib.hid fun w b h1 h2 h3 => hsum_any b h1 h2 h3b h3 hbd hsm
  have HC : Hid (∀ w b, Calls Tryd.prog 17 #[.pointer (some ⟨b, 0, none⟩), .int .i64 0, .int .i64 11] w fun e w' => e = .returned (.slice (some ⟨b, 0, none⟩) 11 11) ∧ w = w') := Lib.hid fun w b => hcut_any b 0 11 11 rfl (by omega) (by omega) w
  obtain ⟨w0, hw0⟩ : ∃ q, w.alloc (.cells (fA k e (.slice a n cap)) 25) = q := ⟨_, rfl⟩
  have HA : Hid (FO w0 w.heap.size k e (.slice a n cap)) := Lib.hid (by rw [← hw0]; exact FO.alloc w)
  have HB : Hid (Below w.heap.size w w0) := Lib.hid (by rw [← hw0]; exact balloc w _)
  have HR := Lib.hid (hri.keep HB.out)
  have HT := Lib.hid (ht.keep HB.out)
  have HN : Hid (n ≤ 197) := Lib.hid hp.2.2
  have hn9 : (n : Int) ≤ 197 := by omega
  have hk1 : 1 ≤ k := hp.1
  have hk4 : k ≤ 4 := hp.2.1
  clear hr hri hp hd hbd hm hz1 hz2 hz3 hz4 h3 h4 h3b hsm ht
  go_enter Tryd.func6, Tryd.ntmps6
  go_wp2_with (first
    | (go_at_call 14; (with_reducible refine (HO.out _).mono ?_); rintro r w1 ⟨rfl, hb1⟩; have HH2 : Hid (HD (w1.alloc (.cells #[.int .u8 0, .int .u8 0, .int .u8 0, .int .u8 0, .int .u8 0, .int .u8 0, .int .u8 0, .int .u8 0, .int .u8 0, .int .u8 0, .int .u8 0] 41)) w1.heap.size z11) := Lib.hid (HD.new w1 z11 z11_length); have HB2 : Hid (Below w1.heap.size w1 (w1.alloc (.cells #[.int .u8 0, .int .u8 0, .int .u8 0, .int .u8 0, .int .u8 0, .int .u8 0, .int .u8 0, .int .u8 0, .int .u8 0, .int .u8 0, .int .u8 0] 41))) := Lib.hid (balloc _ _); have HA1 := Lib.hid (HA.out.keep hb1); have HR1 := Lib.hid (HR.out.keep hb1); have HT1 := Lib.hid (HT.out.keep hb1); have HB1 := Lib.hid (bch HB.out hb1); obtain ⟨x0, x1, x2⟩ := (HA1.out.keep HB2.out).cells; clear hb1)
    | (go_at_call 15; (with_reducible refine (HPA.out _ _ HH2.out).mono ?_); rintro r w3 ⟨rfl, hh3, hb3⟩; have HH3 := Lib.hid hh3; have HB3 := Lib.hid (HB2.out.trans hb3); obtain ⟨y0, y1, y2⟩ := (HA1.out.keep HB3.out).cells; clear hh3 hb3)
    | (go_at_call 15; (with_reducible refine (HPB.out _ _ HH3.out).mono ?_); rintro r w4 ⟨rfl, hh4, hb4⟩; have HH4 := Lib.hid hh4; have HB4 := Lib.hid (HB3.out.trans hb4); obtain ⟨u0, u1, u2⟩ := (HA1.out.keep HB4.out).cells; clear hh4 hb4)
    | (go_at_call 15; (with_reducible refine (HPC.out _ _ HH4.out).mono ?_); rintro r w5 ⟨rfl, hh5, hb5⟩; have HH5 := Lib.hid hh5; have HB5 := Lib.hid (HB4.out.trans hb5); have HT5 := Lib.hid (HT1.out.keep HB5.out); have HR5 := Lib.hid (HR1.out.keep HB5.out); obtain ⟨v0, v1, v2⟩ := (HA1.out.keep HB5.out).cells; clear hh5 hb5)
    | (go_at_call 16; (with_reducible refine (HS.out _ _ HT5.out HH5.out HR5.out).mono ?_); rintro r w' ⟨rfl, rfl⟩)
    | (go_at_call 15; (with_reducible refine (HPD.out _ _ HH5.out).mono ?_); rintro r w6 ⟨rfl, hh6, hb6⟩; have HH6 := Lib.hid hh6; have HB6 := Lib.hid (HB5.out.trans hb6); have HR6 := Lib.hid (HR1.out.keep HB6.out); have HX6 := Lib.hid (HA1.out.keep HB6.out).cells.2.2; clear hh6 hb6)
    | (refine wpl_load_fr rfl (.tmp 1) rfl rfl HA.out ?_))
  refine wp_region_held_drew (S := (fun W' => Below w6.heap.size w6 W')) (by kernel_rfl) ((Below.refl _ _).drew) (fun hS => ?_)
  refine wpAnyH_take (i := 1) (oi := ({ dst := some 26, op := Op.fieldAddr 25 (Operand.tmp 1) 2, type := 0, pos := "frag.go:24", after := #[], guard := none } : Oper)) (v := ?_) rfl (by kernel_rfl) (by kernel_rfl) (by kernel_rfl) (fun _ _ _ h => h) (Or.inl ⟨by rfl, ?_⟩) hS ?_
  rotate_left
  · (intro w hSw; (try dsimp only at hSw); go_simp; try with_reducible rfl)
  (try simp only [Act.put, List.setIfInBounds_toArray, List.set_cons_zero, List.set_cons_succ])
  refine wpAnyH_take (i := 2) (oi := ({ dst := some 27, op := Op.load 23 (Operand.tmp 26), type := 23, pos := "frag.go:24", after := #[{ on := 1, ground := Ground.data }], guard := none } : Oper)) (v := ?_) rfl (by kernel_rfl) (by kernel_rfl) (by kernel_rfl) (fun _ _ _ h => h) (Or.inl ⟨by rfl, ?_⟩) hS ?_
  rotate_left
  · (intro w hSw; (try dsimp only at hSw); have z := cell_keep hSw HX6.out; go_simp; try with_reducible rfl)
  (try simp only [Act.put, List.setIfInBounds_toArray, List.set_cons_zero, List.set_cons_succ])
  refine rg_one 0 ({ dst := some 25, op := Op.call { callee := Callee.value (Operand.func 17), args := #[Operand.tmp 4, Operand.const (Value.int IntKind.i64 0), Operand.const (Value.int IntKind.i64 11)], argTypes := #[41, 3, 3] }, type := 23, pos := "frag.go:24", after := #[], guard := none } : Oper) (by kernel_rfl) rfl (fun K hK => ?_)
  go_simp
  (go_at_call 17; (with_reducible refine (HC.out _ _).mono ?_); rintro e w' ⟨rfl, rfl⟩)
  refine hK.out _ _ ?_ (fun hS1 => ?_)
  · (first | exact hN | exact hS)
  clear hK K hS; have hS := hS1; clear hS1
  (try simp only [Act.put, List.setIfInBounds_toArray, List.set_cons_zero, List.set_cons_succ])
  refine rg_one 3 ({ dst := some 28, op := Op.call { callee := Callee.builtin Builtin.append, args := #[Operand.tmp 25, Operand.tmp 27], argTypes := #[23, 23] }, type := 23, pos := "frag.go:24", after := #[{ on := 0, ground := Ground.data }, { on := 2, ground := Ground.data }, { on := 0, ground := Ground.chain }], guard := none } : Oper) (by kernel_rfl) rfl (fun K hK => ?_)
  rw [if_pos (by rfl)]; refine wp_app_full (.tmp 25) (.tmp 27) 23 rfl 5 .u8 1 Tryd.underlying23 Tryd.info_u8 w1.heap.size 0 11 z4 rfl (by have := (HH6.out.keep hS).ri 0 11 (by omega); rwa [HZ4.out.1] at this) _ n d rfl (HR6.out.keep hS) (by omega) (by have := HN.out; omega) (by have := HN.out; omega) ?_; intro p9 c9 w9 hr9 hb9; have HR9 := Lib.hid hr9; have hN := hS.trans (hb9.mono hS.size); clear hr9 hb9
  refine hK.out _ _ ?_ (fun hS1 => ?_)
  · (first | exact hN | exact hS)
  clear hK K hS; have hS := hS1; clear hS1
  (try simp only [Act.put, List.setIfInBounds_toArray, List.set_cons_zero, List.set_cons_succ])
  refine wpAnyH_take (i := 4) (oi := ({ dst := some 2, op := Op.assign (Operand.tmp 28), type := 23, pos := "frag.go:24", after := #[{ on := 3, ground := Ground.data }, { on := 3, ground := Ground.chain }, { on := 0, ground := Ground.phase }, { on := 1, ground := Ground.phase }, { on := 2, ground := Ground.phase }, { on := 3, ground := Ground.phase }], guard := none } : Oper)) (v := ?_) rfl (by kernel_rfl) (by kernel_rfl) (by kernel_rfl) (fun _ _ _ h => h) (Or.inl ⟨by rfl, ?_⟩) hS ?_
  rotate_left
  · (intro w hSw; (try dsimp only at hSw); go_simp; try with_reducible rfl)
  (try simp only [Act.put, List.setIfInBounds_toArray, List.set_cons_zero, List.set_cons_succ])
  refine wpAnyH_take (i := 5) (oi := ({ dst := some 3, op := Op.assign (Operand.const (Value.int IntKind.i64 0)), type := 26, pos := "frag.go:24", after := #[{ on := 4, ground := Ground.chain }, { on := 0, ground := Ground.phase }, { on := 1, ground := Ground.phase }, { on := 2, ground := Ground.phase }, { on := 3, ground := Ground.phase }, { on := 4, ground := Ground.phase }], guard := none } : Oper)) (v := ?_) rfl (by kernel_rfl) (by kernel_rfl) (by kernel_rfl) (fun _ _ _ h => h) (Or.inl ⟨by rfl, ?_⟩) hS ?_
  rotate_left
  · (intro w hSw; (try dsimp only at hSw); go_simp; try with_reducible rfl)
  (try simp only [Act.put, List.setIfInBounds_toArray, List.set_cons_zero, List.set_cons_succ])
  refine wpAnyH_done (by kernel_rfl) ?_ _
  go_wp2
  go_ret2
  have h9 := HR9.out
  rw [HZ4.out.2] at h9
  exact ⟨p9, c9, rfl, h9, bch HB1.out (bch HB6.out hS)⟩
end Go.Proofs.YtkomlapgjblnlaaDoor
