/-
  THE WALK OF THE 4 FragDecodes: whatever bytes and epoch come in: the call returns true and changes nothing that was there (written by wip/gen/g22.py).
-/
import Derived.Test.YtkomlapgjblnlaaDoorFragLaws
namespace Go.Proofs.YtkomlapgjblnlaaDoor
open Go.RowKit
theorem fsame_self (k e : Int) (d : List Int) (hb : isB d) (v v' : Value) (n n' : Nat) (w : World) (h1 : RI .u8 w v n d) (h2 : RI .u8 w v' n' d) :
    Calls Tryd.prog 12 #[.agg (fA k e v), .agg (fA k e v')] w fun r w' => r = .returned (.bool true) ∧ Below w.heap.size w w' :=
  (rfsame_any k e v n d k e v' n' d w h1 h2 hb hb).mono fun _ _ ⟨h, b⟩ => ⟨by rw [h]; simp, b⟩
set_option maxRecDepth 8000 in
set_option maxHeartbeats 4000000 in
theorem decodes_walk (a : Option Addr) (len cap : Nat) (zs : List Int) (ep : Int) (W : World) (ht : Tab W) (hri : RI .u8 W (.slice a len cap) len zs) (hbz : isB zs) (hep : 0 ≤ ep ∧ ep ≤ 4294967295) :
    Calls Tryd.prog 4 #[.slice a len cap, .int .u32 ep] W fun e w' => e = .returned (.bool true) ∧ Below W.heap.size W w' := by
  obtain ⟨⟨⟨k, e, d⟩, sz, x3⟩, hg⟩ : ∃ g, fragD zs ep = g := ⟨_, rfl⟩
  have hbd := fragD_data (ep := ep) hbz
  rw [hg] at hbd
  simp only at hbd
  have HG1 : Hid (∀ w, Tab w → RI .u8 w (.slice a len cap) len zs → Calls Tryd.prog 11 #[.slice a len cap, .int .u32 ep] w fun r w' => ∃ a n c, r = .returned (.tuple #[.agg (fA k e (.slice a n c)), .int .i64 sz, .int .i64 x3]) ∧ RI .u8 w' (.slice a n c) n d ∧ Below w.heap.size w w') := Lib.hid fun w h0 h =>
    (fdec_any _ len zs ep w h0 h hbz).mono fun _ _ hq => decf_short hg hq
  have HG2 : Hid (∀ w, RI .u8 w (.slice a len cap) len zs → Calls Tryd.prog 13 #[.slice a len cap, .int .u32 ep] w fun r w' => ∃ a n c, r = .returned (.tuple #[.agg (fA k e (.slice a n c)), .int .i64 sz, .int .i64 x3]) ∧ RI .u8 w' (.slice a n c) n d ∧ Below w.heap.size w w') := Lib.hid fun w h =>
    (rfdec_any _ len zs ep w h hbz).mono fun _ _ hq => decf_short hg hq
  have HR := Lib.hid hri
  have HT := Lib.hid ht
  by_cases he : x3 = 0
  · subst he
    have HS := Lib.hid (fsame_self k e d hbd)
    obtain ⟨h1, h2, h3, h4, h5⟩ := frag_back hbz (by rw [hg] : (fragD zs ep).2.2 = 0)
    rw [hg] at h1 h2 h3 h4 h5
    simp only at h1 h2 h3 h4 h5
    have hcap : len ≤ cap := by obtain ⟨_, _, e, _, h, _⟩ := hri; simp only [Value.slice.injEq, true_and] at e; omega
    have hzl := hri.length
    have HP : Hid (∀ (p : Option Addr) (n c : Nat) (w : World), Tab w → RI .u8 w (.slice p n c) n d → Calls Tryd.prog 6 #[.agg (fA k e (.slice p n c))] w fun r w' => ∃ p c, r = .returned (.tuple #[.slice p sz c, .int .i64 0]) ∧ RI .u8 w' (.slice p sz c) sz (zs.take sz) ∧ Below w.heap.size w w') := Lib.hid fun p n c w h0 h => by
      have hn := h.length
      refine (fenc_right k e p n c d w h0 (by rw [← hn]; exact h1) (by rw [h2]; exact hep) h hbd).mono fun _ _ ⟨p', c', g1, g2, g3⟩ => ⟨p', c', ?_, ?_, g3⟩
      · rw [g1, h4, hn]
      · rw [h5, ← hn, ← h4] at g2; exact g2
    obtain ⟨s, hs⟩ : ∃ s, strOfNums (zs.take sz) = s := ⟨_, rfl⟩
    have HZS := Lib.hid hs
    obtain ⟨pz, cz, hslz⟩ : ∃ pz cz, sliced a 0 sz cap 1 = .slice pz sz cz := by have := sliced_form a 0 sz cap 1; rwa [Nat.zero_add] at this
    have HSLZ := Lib.hid hslz
    have hrz := hri.cut 0 sz cap (by omega) (by omega) (Nat.le_refl _)
    rw [Nat.zero_add, hslz, List.drop_zero] at hrz
    have HRZ := Lib.hid hrz
    have HSZ : Hid (sz ≤ len ∧ len ≤ cap) := Lib.hid ⟨by omega, hcap⟩
    clear hg hbz hbd h1 h2 h3 h4 h5 hri hrz hslz hs hzl hcap ht hep
    go_enter Tryd.func4, Tryd.ntmps4
    go_wp2_with (first
      | (go_at_call 11; (with_reducible refine (HG1.out _ HT.out HR.out).mono ?_); rintro r w1 ⟨a1, n1, c1, rfl, hr1, hb1⟩; have HR1 := Lib.hid hr1; have HB1 := Lib.hid hb1; clear hr1 hb1)
      | (refine wpList_store_row rfl 25 _ _ rfl w1.heap.size (fA k e (.slice a1 n1 c1)) rfl rfl _ _ (heap_alloc_last w1 _) (fr_info _ rfl) rfl (fr_one _ _ _ _ _) ?_; obtain ⟨wx1, hwx1⟩ : ∃ q, World.setRow (w1.alloc (.cells (fA 0 0 (.slice none 0 0)) 25)) w1.heap.size (fA k e (.slice a1 n1 c1)) = q := ⟨_, rfl⟩; rw [hwx1]; have HX1 : Hid (Below w1.heap.size w1 wx1) := Lib.hid (by rw [← hwx1]; exact bnew _ _ _); have HF1 : Hid (FO wx1 w1.heap.size k e (.slice a1 n1 c1)) := Lib.hid (by rw [← hwx1]; exact FO.new _); clear hwx1)
      | (go_at_call 13; (with_reducible refine (HG2.out _ ((HR.out.keep HB1.out).keep HX1.out)).mono ?_); rintro r w2 ⟨a2, n2, c2, rfl, hr2, hb2⟩; have HF1 := Lib.hid (HF1.out.keep hb2); have HR1 := Lib.hid ((HR1.out.keep HX1.out).keep hb2); have HR2 := Lib.hid hr2; have HB2 := Lib.hid (bch HB1.out (bch HX1.out hb2)); clear hr2 hb2)
      | (refine wpList_store_row rfl 25 _ _ rfl w2.heap.size (fA k e (.slice a2 n2 c2)) rfl rfl _ _ (heap_alloc_last w2 _) (fr_info _ rfl) rfl (fr_one _ _ _ _ _) ?_; obtain ⟨wx2, hwx2⟩ : ∃ q, World.setRow (w2.alloc (.cells (fA 0 0 (.slice none 0 0)) 25)) w2.heap.size (fA k e (.slice a2 n2 c2)) = q := ⟨_, rfl⟩; rw [hwx2]; have HX2 : Hid (Below w2.heap.size w2 wx2) := Lib.hid (by rw [← hwx2]; exact bnew _ _ _); have HF2 : Hid (FO wx2 w2.heap.size k e (.slice a2 n2 c2)) := Lib.hid (by rw [← hwx2]; exact FO.new _); clear hwx2)
      | (go_at_call 12; (with_reducible refine (HS.out _ _ _ _ _ (HR1.out.keep HX2.out) (HR2.out.keep HX2.out)).mono ?_); rintro r w3 ⟨rfl, hb3⟩; have HF3 := Lib.hid ((HF1.out.keep HX2.out).keep hb3); have HR3 := Lib.hid ((HR1.out.keep HX2.out).keep hb3); have HB3 := Lib.hid (bch HB2.out (bch HX2.out hb3)); clear hb3)
      | (refine wpl_load_fr rfl (.tmp 5) rfl rfl HF3.out ?_)
      | (refine wpl_load_fr rfl (.tmp 5) rfl rfl (HF1.out.keep HX2.out) ?_)
      | (refine wpl_load_fr rfl (.tmp 8) rfl rfl HF2.out ?_)
      | (go_at_call 6; (with_reducible refine (HP.out _ _ _ _ (HT.out.keep HB3.out) HR3.out).mono ?_); rintro r w4 ⟨p4, c4, rfl, hr4, hb4⟩; have HR4 := Lib.hid hr4; have HB4 := Lib.hid (bch HB3.out hb4); clear hr4 hb4))
    have HT4 := Lib.hid (HT.out.keep HB4.out)
    refine wp_region_held_drew (S := (fun W' => Below w4.heap.size w4 W')) (by kernel_rfl) ((Below.refl _ _).drew) (fun hS => ?_)
    refine wpAnyH_take (i := 0) (oi := ({ dst := some 46, op := Op.move (Operand.tmp 7), type := 26, pos := "law.go:40", after := #[], guard := none } : Oper)) (v := ?_) rfl (by kernel_rfl) (by kernel_rfl) (by kernel_rfl) (fun _ _ _ h => h) (Or.inl ⟨by rfl, ?_⟩) hS ?_
    rotate_left
    · (intro w hSw; (try dsimp only at hSw); go_simp; try with_reducible rfl)
    (try simp only [Act.put, List.setIfInBounds_toArray, List.set_cons_zero, List.set_cons_succ])
    refine wpAnyH_take (i := 1) (oi := ({ dst := some 47, op := Op.binOp BinOp.neq 26 (Operand.tmp 46) (Operand.const (Value.int IntKind.i64 0)) 26, type := 4, pos := "law.go:40", after := #[{ on := 0, ground := Ground.data }], guard := none } : Oper)) (v := ?_) rfl (by kernel_rfl) (by kernel_rfl) (by kernel_rfl) (fun _ _ _ h => h) (Or.inl ⟨by rfl, ?_⟩) hS ?_
    rotate_left
    · (intro w hSw; (try dsimp only at hSw); go_simp; try with_reducible rfl)
    (try simp only [Act.put, List.setIfInBounds_toArray, List.set_cons_zero, List.set_cons_succ])
    refine wpAnyH_take (i := 2) (oi := ({ dst := some 48, op := Op.move (Operand.tmp 47), type := 4, pos := "law.go:40", after := #[{ on := 1, ground := Ground.data }], guard := none } : Oper)) (v := ?_) rfl (by kernel_rfl) (by kernel_rfl) (by kernel_rfl) (fun _ _ _ h => h) (Or.inl ⟨by rfl, ?_⟩) hS ?_
    rotate_left
    · (intro w hSw; (try dsimp only at hSw); go_simp; try with_reducible rfl)
    (try simp only [Act.put, List.setIfInBounds_toArray, List.set_cons_zero, List.set_cons_succ])
    refine wpAnyH_take (i := 3) (oi := ({ dst := some 49, op := Op.move (Operand.tmp 12), type := 26, pos := "law.go:40", after := #[{ on := 2, ground := Ground.guard }], guard := some (2, false) } : Oper)) (v := ?_) rfl (by kernel_rfl) (by kernel_rfl) (by kernel_rfl) (fun _ _ _ h => h) (Or.inl ⟨by rfl, ?_⟩) hS ?_
    rotate_left
    · (intro w hSw; (try dsimp only at hSw); go_simp; try with_reducible rfl)
    (try simp only [Act.put, List.setIfInBounds_toArray, List.set_cons_zero, List.set_cons_succ])
    refine wpAnyH_take (i := 4) (oi := ({ dst := some 50, op := Op.binOp BinOp.eql 26 (Operand.tmp 49) (Operand.const (Value.int IntKind.i64 0)) 26, type := 4, pos := "law.go:40", after := #[{ on := 3, ground := Ground.data }, { on := 2, ground := Ground.guard }], guard := some (2, false) } : Oper)) (v := ?_) rfl (by kernel_rfl) (by kernel_rfl) (by kernel_rfl) (fun _ _ _ h => h) (Or.inl ⟨by rfl, ?_⟩) hS ?_
    rotate_left
    · (intro w hSw; (try dsimp only at hSw); go_simp; try with_reducible rfl)
    (try simp only [Act.put, List.setIfInBounds_toArray, List.set_cons_zero, List.set_cons_succ])
    refine wpAnyH_take (i := 5) (oi := ({ dst := some 51, op := Op.move (Operand.tmp 50), type := 4, pos := "law.go:40", after := #[{ on := 4, ground := Ground.data }, { on := 2, ground := Ground.chain }, { on := 2, ground := Ground.guard }], guard := some (2, false) } : Oper)) (v := ?_) rfl (by kernel_rfl) (by kernel_rfl) (by kernel_rfl) (fun _ _ _ h => h) (Or.inl ⟨by rfl, ?_⟩) hS ?_
    rotate_left
    · (intro w hSw; (try dsimp only at hSw); go_simp; try with_reducible rfl)
    (try simp only [Act.put, List.setIfInBounds_toArray, List.set_cons_zero, List.set_cons_succ])
    refine wpAnyH_take (i := 6) (oi := ({ dst := some 52, op := Op.move (Operand.tmp 11), type := 23, pos := "law.go:40", after := #[{ on := 5, ground := Ground.guard }], guard := some (5, true) } : Oper)) (v := ?_) rfl (by kernel_rfl) (by kernel_rfl) (by kernel_rfl) (fun _ _ _ h => h) (Or.inl ⟨by rfl, ?_⟩) hS ?_
    rotate_left
    · (intro w hSw; (try dsimp only at hSw); go_simp; try with_reducible rfl)
    (try simp only [Act.put, List.setIfInBounds_toArray, List.set_cons_zero, List.set_cons_succ])
    refine wpAnyH_take (i := 7) (oi := ({ dst := some 53, op := Op.convert 23 9 (Operand.tmp 52), type := 9, pos := "law.go:40", after := #[{ on := 6, ground := Ground.data }, { on := 5, ground := Ground.guard }], guard := some (5, true) } : Oper)) (v := ?_) rfl (by kernel_rfl) (by kernel_rfl) (by kernel_rfl) (fun _ _ _ h => h) (Or.inl ⟨by rfl, ?_⟩) hS ?_
    rotate_left
    · (intro w hSw; (try dsimp only at hSw); have z := conv_ri (RI.keep hSw HR4.out); rw [HZS.out] at z; go_simp; try with_reducible rfl)
    (try simp only [Act.put, List.setIfInBounds_toArray, List.set_cons_zero, List.set_cons_succ])
    refine wpAnyH_take (i := 8) (oi := ({ dst := some 54, op := Op.move (Operand.tmp 0), type := 23, pos := "law.go:40", after := #[{ on := 5, ground := Ground.guard }], guard := some (5, true) } : Oper)) (v := ?_) rfl (by kernel_rfl) (by kernel_rfl) (by kernel_rfl) (fun _ _ _ h => h) (Or.inl ⟨by rfl, ?_⟩) hS ?_
    rotate_left
    · (intro w hSw; (try dsimp only at hSw); go_simp; try with_reducible rfl)
    (try simp only [Act.put, List.setIfInBounds_toArray, List.set_cons_zero, List.set_cons_succ])
    refine wpAnyH_take (i := 9) (oi := ({ dst := some 55, op := Op.move (Operand.tmp 6), type := 3, pos := "law.go:40", after := #[{ on := 5, ground := Ground.guard }], guard := some (5, true) } : Oper)) (v := ?_) rfl (by kernel_rfl) (by kernel_rfl) (by kernel_rfl) (fun _ _ _ h => h) (Or.inl ⟨by rfl, ?_⟩) hS ?_
    rotate_left
    · (intro w hSw; (try dsimp only at hSw); go_simp; try with_reducible rfl)
    (try simp only [Act.put, List.setIfInBounds_toArray, List.set_cons_zero, List.set_cons_succ])
    refine wpAnyH_take (i := 10) (oi := ({ dst := some 56, op := Op.slice 23 (Operand.tmp 54) none (some (Operand.tmp 55)) none, type := 23, pos := "law.go:40", after := #[{ on := 8, ground := Ground.data }, { on := 9, ground := Ground.data }, { on := 5, ground := Ground.guard }], guard := some (5, true) } : Oper)) (v := .slice pz sz cz) rfl (by kernel_rfl) (by kernel_rfl) (by kernel_rfl) (fun _ _ _ h => h) (Or.inl ⟨by rfl, ?_⟩) hS ?_
    · (intro w hSw; (try dsimp only at hSw); exact (exec_cut_h (.tmp 54) (.tmp 55) rfl _ len cap sz rfl rfl (by have := HSZ.out; omega)).trans (by rw [HSLZ.out]))
    (try simp only [Act.put, List.setIfInBounds_toArray, List.set_cons_zero, List.set_cons_succ])
    refine wpAnyH_take (i := 11) (oi := ({ dst := some 57, op := Op.convert 23 9 (Operand.tmp 56), type := 9, pos := "law.go:40", after := #[{ on := 10, ground := Ground.data }, { on := 5, ground := Ground.guard }], guard := some (5, true) } : Oper)) (v := ?_) rfl (by kernel_rfl) (by kernel_rfl) (by kernel_rfl) (fun _ _ _ h => h) (Or.inl ⟨by rfl, ?_⟩) hS ?_
    rotate_left
    · (intro w hSw; (try dsimp only at hSw); have z := conv_ri (RI.keep (bch HB4.out hSw) HRZ.out); rw [HZS.out] at z; go_simp; try with_reducible rfl)
    (try simp only [Act.put, List.setIfInBounds_toArray, List.set_cons_zero, List.set_cons_succ])
    refine wpAnyH_take (i := 12) (oi := ({ dst := some 58, op := Op.binOp BinOp.eql 9 (Operand.tmp 53) (Operand.tmp 57) 9, type := 4, pos := "law.go:40", after := #[{ on := 7, ground := Ground.data }, { on := 11, ground := Ground.data }, { on := 5, ground := Ground.guard }], guard := some (5, true) } : Oper)) (v := ?_) rfl (by kernel_rfl) (by kernel_rfl) (by kernel_rfl) (fun _ _ _ h => h) (Or.inl ⟨by rfl, ?_⟩) hS ?_
    rotate_left
    · (intro w hSw; (try dsimp only at hSw); go_simp; try with_reducible rfl)
    (try simp only [Act.put, List.setIfInBounds_toArray, List.set_cons_zero, List.set_cons_succ])
    refine wpAnyH_take (i := 13) (oi := ({ dst := some 59, op := Op.pick (Operand.tmp 51) (Operand.tmp 58) (Operand.const (Value.bool false)), type := 4, pos := "law.go:40", after := #[{ on := 5, ground := Ground.data }, { on := 12, ground := Ground.data }, { on := 2, ground := Ground.guard }], guard := some (2, false) } : Oper)) (v := ?_) rfl (by kernel_rfl) (by kernel_rfl) (by kernel_rfl) (fun _ _ _ h => h) (Or.inl ⟨by rfl, ?_⟩) hS ?_
    rotate_left
    · (intro w hSw; (try dsimp only at hSw); go_simp; try with_reducible rfl)
    (try simp only [Act.put, List.setIfInBounds_toArray, List.set_cons_zero, List.set_cons_succ])
    refine wpAnyH_take (i := 14) (oi := ({ dst := some 60, op := Op.pick (Operand.tmp 48) (Operand.const (Value.bool true)) (Operand.tmp 59), type := 4, pos := "law.go:40", after := #[{ on := 2, ground := Ground.data }, { on := 13, ground := Ground.data }], guard := none } : Oper)) (v := ?_) rfl (by kernel_rfl) (by kernel_rfl) (by kernel_rfl) (fun _ _ _ h => h) (Or.inl ⟨by rfl, ?_⟩) hS ?_
    rotate_left
    · (intro w hSw; (try dsimp only at hSw); go_simp; try with_reducible rfl)
    (try simp only [Act.put, List.setIfInBounds_toArray, List.set_cons_zero, List.set_cons_succ])
    refine wpAnyH_take (i := 15) (oi := ({ dst := some 61, op := Op.move (Operand.tmp 60), type := 4, pos := "law.go:40", after := #[{ on := 14, ground := Ground.data }, { on := 5, ground := Ground.chain }], guard := none } : Oper)) (v := ?_) rfl (by kernel_rfl) (by kernel_rfl) (by kernel_rfl) (fun _ _ _ h => h) (Or.inl ⟨by rfl, ?_⟩) hS ?_
    rotate_left
    · (intro w hSw; (try dsimp only at hSw); go_simp; try with_reducible rfl)
    (try simp only [Act.put, List.setIfInBounds_toArray, List.set_cons_zero, List.set_cons_succ])
    refine rg_one 16 ({ dst := some 62, op := Op.call { callee := Callee.value (Operand.func 8), args := #[], argTypes := #[] }, type := 4, pos := "law.go:40", after := #[{ on := 15, ground := Ground.chain }, { on := 15, ground := Ground.guard }], guard := some (15, true) } : Oper) (by kernel_rfl) rfl (fun K hK => ?_)
    go_simp
    (go_at_call 8; (with_reducible refine (awake_any (HT4.out.keep hS)).mono ?_); rintro r w5 ⟨rfl, hb5⟩; (try clear hN); have hN := hS.trans (hb5.mono hS.size))
    refine hK.out _ _ ?_ (fun hS1 => ?_)
    · (first | exact hN | exact hS)
    clear hK K hS; have hS := hS1; clear hS1
    (try simp only [Act.put, List.setIfInBounds_toArray, List.set_cons_zero, List.set_cons_succ])
    refine wpAnyH_take (i := 17) (oi := ({ dst := some 63, op := Op.pick (Operand.tmp 61) (Operand.tmp 62) (Operand.const (Value.bool false)), type := 4, pos := "law.go:40", after := #[{ on := 15, ground := Ground.data }, { on := 16, ground := Ground.data }], guard := none } : Oper)) (v := ?_) rfl (by kernel_rfl) (by kernel_rfl) (by kernel_rfl) (fun _ _ _ h => h) (Or.inl ⟨by rfl, ?_⟩) hS ?_
    rotate_left
    · (intro w hSw; (try dsimp only at hSw); go_simp; try with_reducible rfl)
    (try simp only [Act.put, List.setIfInBounds_toArray, List.set_cons_zero, List.set_cons_succ])
    refine wpAnyH_take (i := 18) (oi := ({ dst := some 4, op := Op.assign (Operand.tmp 63), type := 4, pos := "law.go:40", after := #[{ on := 17, ground := Ground.data }, { on := 16, ground := Ground.chain }, { on := 0, ground := Ground.phase }, { on := 1, ground := Ground.phase }, { on := 2, ground := Ground.phase }, { on := 3, ground := Ground.phase }, { on := 4, ground := Ground.phase }, { on := 5, ground := Ground.phase }, { on := 6, ground := Ground.phase }, { on := 7, ground := Ground.phase }, { on := 8, ground := Ground.phase }, { on := 9, ground := Ground.phase }, { on := 10, ground := Ground.phase }, { on := 11, ground := Ground.phase }, { on := 12, ground := Ground.phase }, { on := 13, ground := Ground.phase }, { on := 14, ground := Ground.phase }, { on := 15, ground := Ground.phase }, { on := 16, ground := Ground.phase }, { on := 17, ground := Ground.phase }], guard := none } : Oper)) (v := ?_) rfl (by kernel_rfl) (by kernel_rfl) (by kernel_rfl) (fun _ _ _ h => h) (Or.inl ⟨by rfl, ?_⟩) hS ?_
    rotate_left
    · (intro w hSw; (try dsimp only at hSw); go_simp; try with_reducible rfl)
    (try simp only [Act.put, List.setIfInBounds_toArray, List.set_cons_zero, List.set_cons_succ])
    refine wpAnyH_done (by kernel_rfl) ?_ _
    go_wp2
    go_ret
    exact ⟨rfl, bch HB4.out hS⟩
  · have hne : (x3 != 0) = true := by simpa using he
    have hnr := fragD_err (zs := zs) (ep := ep) (by rw [hg]; exact he)
    rw [hg] at hnr
    simp only [noF, Prod.mk.injEq, FR.mk.injEq] at hnr
    obtain ⟨⟨rfl, rfl, rfl⟩, rfl, _⟩ := hnr
    have HS := Lib.hid (fsame_self 0 0 [] hbd)
    have HP : Hid (∀ (p : Option Addr) (n c : Nat) (w : World), Calls Tryd.prog 6 #[.agg (fA 0 0 (.slice p n c))] w fun e w' => e = .returned (.tuple #[.slice none 0 0, .int .i64 13]) ∧ Below w.heap.size w w') := Lib.hid fun p n c w => fenc_wrong 0 0 p n c w (decide_eq_false (by omega))
    clear hg hbz hbd hri ht hep
    go_enter Tryd.func4, Tryd.ntmps4
    go_wp2_with (first
      | (go_at_call 11; (with_reducible refine (HG1.out _ HT.out HR.out).mono ?_); rintro r w1 ⟨a1, n1, c1, rfl, hr1, hb1⟩; have HR1 := Lib.hid hr1; have HB1 := Lib.hid hb1; clear hr1 hb1)
      | (refine wpList_store_row rfl 25 _ _ rfl w1.heap.size (fA 0 0 (.slice a1 n1 c1)) rfl rfl _ _ (heap_alloc_last w1 _) (fr_info _ rfl) rfl (fr_one _ _ _ _ _) ?_; obtain ⟨wx1, hwx1⟩ : ∃ q, World.setRow (w1.alloc (.cells (fA 0 0 (.slice none 0 0)) 25)) w1.heap.size (fA 0 0 (.slice a1 n1 c1)) = q := ⟨_, rfl⟩; rw [hwx1]; have HX1 : Hid (Below w1.heap.size w1 wx1) := Lib.hid (by rw [← hwx1]; exact bnew _ _ _); have HF1 : Hid (FO wx1 w1.heap.size 0 0 (.slice a1 n1 c1)) := Lib.hid (by rw [← hwx1]; exact FO.new _); clear hwx1)
      | (go_at_call 13; (with_reducible refine (HG2.out _ ((HR.out.keep HB1.out).keep HX1.out)).mono ?_); rintro r w2 ⟨a2, n2, c2, rfl, hr2, hb2⟩; have HF1 := Lib.hid (HF1.out.keep hb2); have HR1 := Lib.hid ((HR1.out.keep HX1.out).keep hb2); have HR2 := Lib.hid hr2; have HB2 := Lib.hid (bch HB1.out (bch HX1.out hb2)); clear hr2 hb2)
      | (refine wpList_store_row rfl 25 _ _ rfl w2.heap.size (fA 0 0 (.slice a2 n2 c2)) rfl rfl _ _ (heap_alloc_last w2 _) (fr_info _ rfl) rfl (fr_one _ _ _ _ _) ?_; obtain ⟨wx2, hwx2⟩ : ∃ q, World.setRow (w2.alloc (.cells (fA 0 0 (.slice none 0 0)) 25)) w2.heap.size (fA 0 0 (.slice a2 n2 c2)) = q := ⟨_, rfl⟩; rw [hwx2]; have HX2 : Hid (Below w2.heap.size w2 wx2) := Lib.hid (by rw [← hwx2]; exact bnew _ _ _); have HF2 : Hid (FO wx2 w2.heap.size 0 0 (.slice a2 n2 c2)) := Lib.hid (by rw [← hwx2]; exact FO.new _); clear hwx2)
      | (go_at_call 12; (with_reducible refine (HS.out _ _ _ _ _ (HR1.out.keep HX2.out) (HR2.out.keep HX2.out)).mono ?_); rintro r w3 ⟨rfl, hb3⟩; have HF3 := Lib.hid ((HF1.out.keep HX2.out).keep hb3); have HR3 := Lib.hid ((HR1.out.keep HX2.out).keep hb3); have HB3 := Lib.hid (bch HB2.out (bch HX2.out hb3)); clear hb3)
      | (refine wpl_load_fr rfl (.tmp 5) rfl rfl HF3.out ?_)
      | (refine wpl_load_fr rfl (.tmp 5) rfl rfl (HF1.out.keep HX2.out) ?_)
      | (refine wpl_load_fr rfl (.tmp 8) rfl rfl HF2.out ?_)
      | (go_at_call 6; (with_reducible refine (HP.out _ _ _ _).mono ?_); rintro r w4 ⟨rfl, hb4⟩; have HB4 := Lib.hid (bch HB3.out hb4); clear hb4))
    have HT4 := Lib.hid (HT.out.keep HB4.out)
    refine wp_region_held_drew (S := (fun W' => Below w4.heap.size w4 W')) (by kernel_rfl) ((Below.refl _ _).drew) (fun hS => ?_)
    refine wpAnyH_take (i := 0) (oi := ({ dst := some 46, op := Op.move (Operand.tmp 7), type := 26, pos := "law.go:40", after := #[], guard := none } : Oper)) (v := ?_) rfl (by kernel_rfl) (by kernel_rfl) (by kernel_rfl) (fun _ _ _ h => h) (Or.inl ⟨by rfl, ?_⟩) hS ?_
    rotate_left
    · (intro w hSw; (try dsimp only at hSw); go_simp; try with_reducible rfl)
    (try simp only [Act.put, List.setIfInBounds_toArray, List.set_cons_zero, List.set_cons_succ])
    refine wpAnyH_take (i := 1) (oi := ({ dst := some 47, op := Op.binOp BinOp.neq 26 (Operand.tmp 46) (Operand.const (Value.int IntKind.i64 0)) 26, type := 4, pos := "law.go:40", after := #[{ on := 0, ground := Ground.data }], guard := none } : Oper)) (v := ?_) rfl (by kernel_rfl) (by kernel_rfl) (by kernel_rfl) (fun _ _ _ h => h) (Or.inl ⟨by rfl, ?_⟩) hS ?_
    rotate_left
    · (intro w hSw; (try dsimp only at hSw); go_simp; try with_reducible rfl)
    (try simp only [Act.put, List.setIfInBounds_toArray, List.set_cons_zero, List.set_cons_succ])
    refine wpAnyH_take (i := 2) (oi := ({ dst := some 48, op := Op.move (Operand.tmp 47), type := 4, pos := "law.go:40", after := #[{ on := 1, ground := Ground.data }], guard := none } : Oper)) (v := ?_) rfl (by kernel_rfl) (by kernel_rfl) (by kernel_rfl) (fun _ _ _ h => h) (Or.inl ⟨by rfl, ?_⟩) hS ?_
    rotate_left
    · (intro w hSw; (try dsimp only at hSw); go_simp; try with_reducible rfl)
    (try simp only [Act.put, List.setIfInBounds_toArray, List.set_cons_zero, List.set_cons_succ])
    refine wpAnyH_take (i := 3) (oi := ({ dst := some 49, op := Op.move (Operand.tmp 12), type := 26, pos := "law.go:40", after := #[{ on := 2, ground := Ground.guard }], guard := some (2, false) } : Oper)) (v := undef) rfl (by kernel_rfl) (by kernel_rfl) (by kernel_rfl) (fun _ _ _ h => h) (Or.inr ⟨by rfl, rfl⟩) hS ?_
    (try simp only [Act.put, List.setIfInBounds_toArray, List.set_cons_zero, List.set_cons_succ])
    refine wpAnyH_take (i := 4) (oi := ({ dst := some 50, op := Op.binOp BinOp.eql 26 (Operand.tmp 49) (Operand.const (Value.int IntKind.i64 0)) 26, type := 4, pos := "law.go:40", after := #[{ on := 3, ground := Ground.data }, { on := 2, ground := Ground.guard }], guard := some (2, false) } : Oper)) (v := undef) rfl (by kernel_rfl) (by kernel_rfl) (by kernel_rfl) (fun _ _ _ h => h) (Or.inr ⟨by rfl, rfl⟩) hS ?_
    (try simp only [Act.put, List.setIfInBounds_toArray, List.set_cons_zero, List.set_cons_succ])
    refine wpAnyH_take (i := 5) (oi := ({ dst := some 51, op := Op.move (Operand.tmp 50), type := 4, pos := "law.go:40", after := #[{ on := 4, ground := Ground.data }, { on := 2, ground := Ground.chain }, { on := 2, ground := Ground.guard }], guard := some (2, false) } : Oper)) (v := undef) rfl (by kernel_rfl) (by kernel_rfl) (by kernel_rfl) (fun _ _ _ h => h) (Or.inr ⟨by rfl, rfl⟩) hS ?_
    (try simp only [Act.put, List.setIfInBounds_toArray, List.set_cons_zero, List.set_cons_succ])
    refine wpAnyH_take (i := 6) (oi := ({ dst := some 52, op := Op.move (Operand.tmp 11), type := 23, pos := "law.go:40", after := #[{ on := 5, ground := Ground.guard }], guard := some (5, true) } : Oper)) (v := undef) rfl (by kernel_rfl) (by kernel_rfl) (by kernel_rfl) (fun _ _ _ h => h) (Or.inr ⟨by rfl, rfl⟩) hS ?_
    (try simp only [Act.put, List.setIfInBounds_toArray, List.set_cons_zero, List.set_cons_succ])
    refine wpAnyH_take (i := 7) (oi := ({ dst := some 53, op := Op.convert 23 9 (Operand.tmp 52), type := 9, pos := "law.go:40", after := #[{ on := 6, ground := Ground.data }, { on := 5, ground := Ground.guard }], guard := some (5, true) } : Oper)) (v := undef) rfl (by kernel_rfl) (by kernel_rfl) (by kernel_rfl) (fun _ _ _ h => h) (Or.inr ⟨by rfl, rfl⟩) hS ?_
    (try simp only [Act.put, List.setIfInBounds_toArray, List.set_cons_zero, List.set_cons_succ])
    refine wpAnyH_take (i := 8) (oi := ({ dst := some 54, op := Op.move (Operand.tmp 0), type := 23, pos := "law.go:40", after := #[{ on := 5, ground := Ground.guard }], guard := some (5, true) } : Oper)) (v := undef) rfl (by kernel_rfl) (by kernel_rfl) (by kernel_rfl) (fun _ _ _ h => h) (Or.inr ⟨by rfl, rfl⟩) hS ?_
    (try simp only [Act.put, List.setIfInBounds_toArray, List.set_cons_zero, List.set_cons_succ])
    refine wpAnyH_take (i := 9) (oi := ({ dst := some 55, op := Op.move (Operand.tmp 6), type := 3, pos := "law.go:40", after := #[{ on := 5, ground := Ground.guard }], guard := some (5, true) } : Oper)) (v := undef) rfl (by kernel_rfl) (by kernel_rfl) (by kernel_rfl) (fun _ _ _ h => h) (Or.inr ⟨by rfl, rfl⟩) hS ?_
    (try simp only [Act.put, List.setIfInBounds_toArray, List.set_cons_zero, List.set_cons_succ])
    refine wpAnyH_take (i := 10) (oi := ({ dst := some 56, op := Op.slice 23 (Operand.tmp 54) none (some (Operand.tmp 55)) none, type := 23, pos := "law.go:40", after := #[{ on := 8, ground := Ground.data }, { on := 9, ground := Ground.data }, { on := 5, ground := Ground.guard }], guard := some (5, true) } : Oper)) (v := undef) rfl (by kernel_rfl) (by kernel_rfl) (by kernel_rfl) (fun _ _ _ h => h) (Or.inr ⟨by rfl, rfl⟩) hS ?_
    (try simp only [Act.put, List.setIfInBounds_toArray, List.set_cons_zero, List.set_cons_succ])
    refine wpAnyH_take (i := 11) (oi := ({ dst := some 57, op := Op.convert 23 9 (Operand.tmp 56), type := 9, pos := "law.go:40", after := #[{ on := 10, ground := Ground.data }, { on := 5, ground := Ground.guard }], guard := some (5, true) } : Oper)) (v := undef) rfl (by kernel_rfl) (by kernel_rfl) (by kernel_rfl) (fun _ _ _ h => h) (Or.inr ⟨by rfl, rfl⟩) hS ?_
    (try simp only [Act.put, List.setIfInBounds_toArray, List.set_cons_zero, List.set_cons_succ])
    refine wpAnyH_take (i := 12) (oi := ({ dst := some 58, op := Op.binOp BinOp.eql 9 (Operand.tmp 53) (Operand.tmp 57) 9, type := 4, pos := "law.go:40", after := #[{ on := 7, ground := Ground.data }, { on := 11, ground := Ground.data }, { on := 5, ground := Ground.guard }], guard := some (5, true) } : Oper)) (v := undef) rfl (by kernel_rfl) (by kernel_rfl) (by kernel_rfl) (fun _ _ _ h => h) (Or.inr ⟨by rfl, rfl⟩) hS ?_
    (try simp only [Act.put, List.setIfInBounds_toArray, List.set_cons_zero, List.set_cons_succ])
    refine wpAnyH_take (i := 13) (oi := ({ dst := some 59, op := Op.pick (Operand.tmp 51) (Operand.tmp 58) (Operand.const (Value.bool false)), type := 4, pos := "law.go:40", after := #[{ on := 5, ground := Ground.data }, { on := 12, ground := Ground.data }, { on := 2, ground := Ground.guard }], guard := some (2, false) } : Oper)) (v := undef) rfl (by kernel_rfl) (by kernel_rfl) (by kernel_rfl) (fun _ _ _ h => h) (Or.inr ⟨by rfl, rfl⟩) hS ?_
    (try simp only [Act.put, List.setIfInBounds_toArray, List.set_cons_zero, List.set_cons_succ])
    refine wpAnyH_take (i := 14) (oi := ({ dst := some 60, op := Op.pick (Operand.tmp 48) (Operand.const (Value.bool true)) (Operand.tmp 59), type := 4, pos := "law.go:40", after := #[{ on := 2, ground := Ground.data }, { on := 13, ground := Ground.data }], guard := none } : Oper)) (v := ?_) rfl (by kernel_rfl) (by kernel_rfl) (by kernel_rfl) (fun _ _ _ h => h) (Or.inl ⟨by rfl, ?_⟩) hS ?_
    rotate_left
    · (intro w hSw; (try dsimp only at hSw); go_simp; try with_reducible rfl)
    (try simp only [Act.put, List.setIfInBounds_toArray, List.set_cons_zero, List.set_cons_succ])
    refine wpAnyH_take (i := 15) (oi := ({ dst := some 61, op := Op.move (Operand.tmp 60), type := 4, pos := "law.go:40", after := #[{ on := 14, ground := Ground.data }, { on := 5, ground := Ground.chain }], guard := none } : Oper)) (v := ?_) rfl (by kernel_rfl) (by kernel_rfl) (by kernel_rfl) (fun _ _ _ h => h) (Or.inl ⟨by rfl, ?_⟩) hS ?_
    rotate_left
    · (intro w hSw; (try dsimp only at hSw); go_simp; try with_reducible rfl)
    (try simp only [Act.put, List.setIfInBounds_toArray, List.set_cons_zero, List.set_cons_succ])
    refine rg_one 16 ({ dst := some 62, op := Op.call { callee := Callee.value (Operand.func 8), args := #[], argTypes := #[] }, type := 4, pos := "law.go:40", after := #[{ on := 15, ground := Ground.chain }, { on := 15, ground := Ground.guard }], guard := some (15, true) } : Oper) (by kernel_rfl) rfl (fun K hK => ?_)
    go_simp
    (go_at_call 8; (with_reducible refine (awake_any (HT4.out.keep hS)).mono ?_); rintro r w5 ⟨rfl, hb5⟩; (try clear hN); have hN := hS.trans (hb5.mono hS.size))
    refine hK.out _ _ ?_ (fun hS1 => ?_)
    · (first | exact hN | exact hS)
    clear hK K hS; have hS := hS1; clear hS1
    (try simp only [Act.put, List.setIfInBounds_toArray, List.set_cons_zero, List.set_cons_succ])
    refine wpAnyH_take (i := 17) (oi := ({ dst := some 63, op := Op.pick (Operand.tmp 61) (Operand.tmp 62) (Operand.const (Value.bool false)), type := 4, pos := "law.go:40", after := #[{ on := 15, ground := Ground.data }, { on := 16, ground := Ground.data }], guard := none } : Oper)) (v := ?_) rfl (by kernel_rfl) (by kernel_rfl) (by kernel_rfl) (fun _ _ _ h => h) (Or.inl ⟨by rfl, ?_⟩) hS ?_
    rotate_left
    · (intro w hSw; (try dsimp only at hSw); go_simp; try with_reducible rfl)
    (try simp only [Act.put, List.setIfInBounds_toArray, List.set_cons_zero, List.set_cons_succ])
    refine wpAnyH_take (i := 18) (oi := ({ dst := some 4, op := Op.assign (Operand.tmp 63), type := 4, pos := "law.go:40", after := #[{ on := 17, ground := Ground.data }, { on := 16, ground := Ground.chain }, { on := 0, ground := Ground.phase }, { on := 1, ground := Ground.phase }, { on := 2, ground := Ground.phase }, { on := 3, ground := Ground.phase }, { on := 4, ground := Ground.phase }, { on := 5, ground := Ground.phase }, { on := 6, ground := Ground.phase }, { on := 7, ground := Ground.phase }, { on := 8, ground := Ground.phase }, { on := 9, ground := Ground.phase }, { on := 10, ground := Ground.phase }, { on := 11, ground := Ground.phase }, { on := 12, ground := Ground.phase }, { on := 13, ground := Ground.phase }, { on := 14, ground := Ground.phase }, { on := 15, ground := Ground.phase }, { on := 16, ground := Ground.phase }, { on := 17, ground := Ground.phase }], guard := none } : Oper)) (v := ?_) rfl (by kernel_rfl) (by kernel_rfl) (by kernel_rfl) (fun _ _ _ h => h) (Or.inl ⟨by rfl, ?_⟩) hS ?_
    rotate_left
    · (intro w hSw; (try dsimp only at hSw); go_simp; try with_reducible rfl)
    (try simp only [Act.put, List.setIfInBounds_toArray, List.set_cons_zero, List.set_cons_succ])
    refine wpAnyH_done (by kernel_rfl) ?_ _
    go_wp2
    go_ret
    exact ⟨rfl, bch HB4.out hS⟩
end Go.Proofs.YtkomlapgjblnlaaDoor
