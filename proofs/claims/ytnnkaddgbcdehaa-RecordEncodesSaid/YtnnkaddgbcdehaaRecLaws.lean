/-
  WALKS OF THE LAWS OF LAYER 11 (record): RecordSames, RecordDecodes; awake. No condition of ours but a bound on lengths.
-/
import Derived.Test.YtnnkaddgbcdehaaRecDec
namespace Go.Proofs.Ytnnkaddgbcdehaa
open Go.RowKit
theorem awake_enc (w : World) : Calls Try.prog 6 #[.agg (rA 1 0 1 0 (.slice none 0 0))] w fun e w' =>
    ∃ v, e = .returned (.tuple #[v, .int .i64 0]) ∧ (convert 22 9 v).run Try.prog w' = .ok (.string ⟨#[1, 0, 1, 1]⟩) w' ∧ Below w.heap.size w w' := by
  refine (prenc_right 1 0 1 0 (.slice none 0 0) 0 [] w (by decide) (RI.nil _ _) (by rw [awake_rec]; decide)).mono fun e w' ⟨v, he, ho, hb⟩ => ⟨v, he, ?_, hb⟩
  have h := conv_ri (RI.own ho)
  rw [awake_rec] at h
  exact h.trans rfl
set_option maxHeartbeats 400000 in
theorem awake_any (w : World) : Calls Try.prog 15 #[] w fun e w' => e = .returned (.bool true) ∧ Below w.heap.size w w' := by
  go_enter Try.func15, Try.ntmps15
  go_wp2_with (first
    | (go_at_call 6; (with_reducible refine (awake_enc _).mono ?_); rintro e w' ⟨v, rfl, hc, hb⟩; have HB := Lib.hid hb; clear hb))
  go_ret
  exact ⟨rfl, HB.out⟩
theorem recD_err {zs : List Int} (h : (recD zs).2 ≠ 0) : recD zs = (noR, (recD zs).2) := by
  unfold recD at h ⊢
  split at h
  · rw [if_pos ‹_›]
  · rw [if_neg ‹_›]
    split at h
    · rw [if_pos ‹_›]
    · rw [if_neg ‹_›]
      split at h
      · rw [if_pos ‹_›]
      · rw [if_neg ‹_›]
        split at h
        · rw [if_pos ‹_›]
        · rw [if_neg ‹_›]
          split at h
          · exact absurd rfl h
          · rw [if_neg ‹_›]
set_option maxRecDepth 8000 in
set_option maxHeartbeats 2000000 in
theorem sames_walk (k c l p : Int) (v : Value) (n : Nat) (d : List Int) (k' c' l' p' : Int) (v' : Value) (n' : Nat) (d' : List Int) (W : World) (h1 : RI .u8 W v n d) (h2 : RI .u8 W v' n' d') (hb1 : isB d) (hb2 : isB d') :
    Calls Try.prog 5 #[.agg (rA k c l p v), .agg (rA k' c' l' p' v')] W fun e w' => e = .returned (.bool true) ∧ Below W.heap.size W w' := by
  obtain ⟨y, hy⟩ : ∃ y, decide ((⟨k, c, l, p, d⟩ : RC) = ⟨k', c', l', p', d'⟩) = y := ⟨_, rfl⟩
  have H1 : Hid (∀ w, RI .u8 w v n d → RI .u8 w v' n' d' → Calls Try.prog 10 #[.agg (rA k c l p v), .agg (rA k' c' l' p' v')] w fun e w' => e = .returned (.bool y) ∧ Below w.heap.size w w') := Lib.hid fun w a b => by rw [← hy]; exact prsame_any k c l p v n d k' c' l' p' v' n' d' w a b hb1 hb2
  have H2 : Hid (∀ w, RI .u8 w v n d → RI .u8 w v' n' d' → Calls Try.prog 14 #[.agg (rA k c l p v), .agg (rA k' c' l' p' v')] w fun e w' => e = .returned (.bool y) ∧ Below w.heap.size w w') := Lib.hid fun w a b => by rw [← hy]; exact rrsame_any k c l p v n d k' c' l' p' v' n' d' w a b hb1 hb2
  obtain ⟨w1, hw1⟩ : ∃ q, (W.alloc (.cells (rA k c l p v) 24)).alloc (.cells (rA k' c' l' p' v') 24) = q := ⟨_, rfl⟩
  have HA : Hid (RO w1 W.heap.size k c l p v) := Lib.hid (by rw [← hw1]; exact (RO.alloc W).keep (balloc _ _))
  have HC : Hid (RO w1 (W.heap.size + 1) k' c' l' p' v') := Lib.hid (by
    have := RO.alloc (k := k') (c := c') (l := l') (p := p') (v := v') (W.alloc (.cells (rA k c l p v) 24))
    rw [show (W.alloc (.cells (rA k c l p v) 24)).heap.size = W.heap.size + 1 from by simp, hw1] at this
    exact this)
  have HB : Hid (Below W.heap.size W w1) := Lib.hid (by rw [← hw1]; exact below2 _ _ _)
  have HR := Lib.hid (And.intro h1 h2)
  clear h1 h2 hb1 hb2 hy
  go_enter Try.func5, Try.ntmps5
  go_wp2_with fail
  clear hw1
  refine wp_region_held_drew (S := (fun W' => RO W' W.heap.size k c l p v ∧ RO W' (W.heap.size + 1) k' c' l' p' v' ∧ Below W.heap.size W W')) (by kernel_rfl) ⟨HA.out.keep ((Below.refl _ _).drew), HC.out.keep ((Below.refl _ _).drew), HB.out.drew⟩ (fun hS => ?_)
  refine wpAnyH_take (i := 0) (oi := ({ dst := some 5, op := Op.load 24 (Operand.tmp 2), type := 24, pos := "law.go:46", after := #[], guard := none } : Oper)) (v := .agg (rA k c l p v)) rfl (by kernel_rfl) (by kernel_rfl) (by kernel_rfl) (fun _ _ _ h => h) (Or.inl ⟨by rfl, ?_⟩) hS ?_
  · (intro w hSw; (try dsimp only at hSw); exact exec_load_rec (.tmp 2) rfl rfl hSw.1)
  (try simp only [Act.put, List.setIfInBounds_toArray, List.set_cons_zero, List.set_cons_succ])
  refine wpAnyH_take (i := 1) (oi := ({ dst := some 6, op := Op.load 24 (Operand.tmp 3), type := 24, pos := "law.go:46", after := #[], guard := none } : Oper)) (v := .agg (rA k' c' l' p' v')) rfl (by kernel_rfl) (by kernel_rfl) (by kernel_rfl) (fun _ _ _ h => h) (Or.inl ⟨by rfl, ?_⟩) hS ?_
  · (intro w hSw; (try dsimp only at hSw); exact exec_load_rec (.tmp 3) rfl rfl hSw.2.1)
  (try simp only [Act.put, List.setIfInBounds_toArray, List.set_cons_zero, List.set_cons_succ])
  refine wpAnyH_take (i := 3) (oi := ({ dst := some 8, op := Op.load 24 (Operand.tmp 2), type := 24, pos := "law.go:46", after := #[], guard := none } : Oper)) (v := .agg (rA k c l p v)) rfl (by kernel_rfl) (by kernel_rfl) (by kernel_rfl) (fun _ _ _ h => h) (Or.inl ⟨by rfl, ?_⟩) hS ?_
  · (intro w hSw; (try dsimp only at hSw); exact exec_load_rec (.tmp 2) rfl rfl hSw.1)
  (try simp only [Act.put, List.setIfInBounds_toArray, List.set_cons_zero, List.set_cons_succ])
  refine wpAnyH_take (i := 4) (oi := ({ dst := some 9, op := Op.load 24 (Operand.tmp 3), type := 24, pos := "law.go:46", after := #[], guard := none } : Oper)) (v := .agg (rA k' c' l' p' v')) rfl (by kernel_rfl) (by kernel_rfl) (by kernel_rfl) (fun _ _ _ h => h) (Or.inl ⟨by rfl, ?_⟩) hS ?_
  · (intro w hSw; (try dsimp only at hSw); exact exec_load_rec (.tmp 3) rfl rfl hSw.2.1)
  (try simp only [Act.put, List.setIfInBounds_toArray, List.set_cons_zero, List.set_cons_succ])
  refine rg_one 2 ({ dst := some 7, op := Op.call { callee := Callee.value (Operand.func 10), args := #[Operand.tmp 5, Operand.tmp 6], argTypes := #[24, 24] }, type := 4, pos := "law.go:46", after := #[{ on := 0, ground := Ground.data }, { on := 1, ground := Ground.data }], guard := none } : Oper) (by kernel_rfl) rfl (fun K hK => ?_)
  go_simp
  (go_at_call 10; (with_reducible refine (H1.out _ (HR.out.1.keep hS.2.2) (HR.out.2.keep hS.2.2)).mono ?_); rintro e w2 ⟨rfl, hb⟩)
  refine hK.out _ _ ?_ (fun hS1 => ?_)
  · (first | exact hS | exact ⟨hS.1.keep hb, hS.2.1.keep hb, bch hS.2.2 hb⟩)
  clear hK K hS; have hS := hS1; clear hS1
  (try simp only [Act.put, List.setIfInBounds_toArray, List.set_cons_zero, List.set_cons_succ])
  refine rg_one 5 ({ dst := some 10, op := Op.call { callee := Callee.value (Operand.func 14), args := #[Operand.tmp 8, Operand.tmp 9], argTypes := #[24, 24] }, type := 4, pos := "law.go:46", after := #[{ on := 3, ground := Ground.data }, { on := 4, ground := Ground.data }, { on := 2, ground := Ground.chain }], guard := none } : Oper) (by kernel_rfl) rfl (fun K hK => ?_)
  go_simp
  (go_at_call 14; (with_reducible refine (H2.out _ (HR.out.1.keep hS.2.2) (HR.out.2.keep hS.2.2)).mono ?_); rintro e w3 ⟨rfl, hb⟩)
  refine hK.out _ _ ?_ (fun hS1 => ?_)
  · (first | exact hS | exact ⟨hS.1.keep hb, hS.2.1.keep hb, bch hS.2.2 hb⟩)
  clear hK K hS; have hS := hS1; clear hS1
  (try simp only [Act.put, List.setIfInBounds_toArray, List.set_cons_zero, List.set_cons_succ])
  refine wpAnyH_take (i := 6) (oi := ({ dst := some 11, op := Op.binOp BinOp.eql 4 (Operand.tmp 7) (Operand.tmp 10) 4, type := 4, pos := "law.go:46", after := #[{ on := 2, ground := Ground.data }, { on := 5, ground := Ground.data }], guard := none } : Oper)) (v := ?_) rfl (by kernel_rfl) (by kernel_rfl) (by kernel_rfl) (fun _ _ _ h => h) (Or.inl ⟨by rfl, ?_⟩) hS ?_
  rotate_left
  · (intro w hSw; (try dsimp only at hSw); go_simp; try with_reducible rfl)
  (try simp only [Act.put, List.setIfInBounds_toArray, List.set_cons_zero, List.set_cons_succ])
  refine wpAnyH_take (i := 7) (oi := ({ dst := some 12, op := Op.move (Operand.tmp 11), type := 4, pos := "law.go:46", after := #[{ on := 6, ground := Ground.data }, { on := 5, ground := Ground.chain }], guard := none } : Oper)) (v := ?_) rfl (by kernel_rfl) (by kernel_rfl) (by kernel_rfl) (fun _ _ _ h => h) (Or.inl ⟨by rfl, ?_⟩) hS ?_
  rotate_left
  · (intro w hSw; (try dsimp only at hSw); go_simp; try with_reducible rfl)
  (try simp only [Act.put, List.setIfInBounds_toArray, List.set_cons_zero, List.set_cons_succ])
  refine rg_one 8 ({ dst := some 13, op := Op.call { callee := Callee.value (Operand.func 15), args := #[], argTypes := #[] }, type := 4, pos := "law.go:46", after := #[{ on := 7, ground := Ground.chain }, { on := 7, ground := Ground.guard }], guard := some (7, true) } : Oper) (by kernel_rfl) rfl (fun K hK => ?_)
  go_simp
  (go_at_call 15; (with_reducible refine (awake_any _).mono ?_); rintro e w4 ⟨rfl, hb⟩)
  refine hK.out _ _ ?_ (fun hS1 => ?_)
  · (first | exact hS | exact ⟨hS.1.keep hb, hS.2.1.keep hb, bch hS.2.2 hb⟩)
  clear hK K hS; have hS := hS1; clear hS1
  (try simp only [Act.put, List.setIfInBounds_toArray, List.set_cons_zero, List.set_cons_succ])
  refine wpAnyH_take (i := 9) (oi := ({ dst := some 14, op := Op.pick (Operand.tmp 12) (Operand.tmp 13) (Operand.const (Value.bool false)), type := 4, pos := "law.go:46", after := #[{ on := 7, ground := Ground.data }, { on := 8, ground := Ground.data }], guard := none } : Oper)) (v := ?_) rfl (by kernel_rfl) (by kernel_rfl) (by kernel_rfl) (fun _ _ _ h => h) (Or.inl ⟨by rfl, ?_⟩) hS ?_
  rotate_left
  · (intro w hSw; (try dsimp only at hSw); go_simp; try with_reducible rfl)
  (try simp only [Act.put, List.setIfInBounds_toArray, List.set_cons_zero, List.set_cons_succ])
  refine wpAnyH_take (i := 10) (oi := ({ dst := some 4, op := Op.assign (Operand.tmp 14), type := 4, pos := "law.go:46", after := #[{ on := 9, ground := Ground.data }, { on := 8, ground := Ground.chain }, { on := 0, ground := Ground.phase }, { on := 1, ground := Ground.phase }, { on := 2, ground := Ground.phase }, { on := 3, ground := Ground.phase }, { on := 4, ground := Ground.phase }, { on := 5, ground := Ground.phase }, { on := 6, ground := Ground.phase }, { on := 7, ground := Ground.phase }, { on := 8, ground := Ground.phase }, { on := 9, ground := Ground.phase }], guard := none } : Oper)) (v := ?_) rfl (by kernel_rfl) (by kernel_rfl) (by kernel_rfl) (fun _ _ _ h => h) (Or.inl ⟨by rfl, ?_⟩) hS ?_
  rotate_left
  · (intro w hSw; (try dsimp only at hSw); go_simp; try with_reducible rfl)
  (try simp only [Act.put, List.setIfInBounds_toArray, List.set_cons_zero, List.set_cons_succ])
  refine wpAnyH_done (by kernel_rfl) ?_ _
  have HB4 := Lib.hid hS.2.2
  clear hS
  go_wp2
  go_ret
  exact ⟨rfl, HB4.out⟩
theorem recD_bytes {zs : List Int} (h : isB zs) : isB (recD zs).1.data := by
  unfold recD
  split
  · intro x hx; exact absurd hx (by simp [noR])
  · split
    · intro x hx; exact absurd hx (by simp [noR])
    · split
      · intro x hx; exact absurd hx (by simp [noR])
      · split
        · intro x hx; exact absurd hx (by simp [noR])
        · split
          · exact (((h.drop _).drop _).drop _)
          · intro x hx; exact absurd hx (by simp [noR])
theorem same_self (k c l p : Int) (d : List Int) (hb : isB d) (v v' : Value) (n n' : Nat) (w : World) (h1 : RI .u8 w v n d) (h2 : RI .u8 w v' n' d) :
    Calls Try.prog 14 #[.agg (rA k c l p v), .agg (rA k c l p v')] w fun e w' => e = .returned (.bool true) ∧ Below w.heap.size w w' :=
  (rrsame_any k c l p v n d k c l p v' n' d w h1 h2 hb hb).mono fun _ _ ⟨e, b⟩ => ⟨by rw [e]; simp, b⟩
theorem dec_form {zs : List Int} {r : RC} {x : Int} (hz : recD zs = (r, x)) {w : World} {e : Ending} {w' : World} (h : DecR zs w e w') :
    ∃ a n c, e = .returned (.tuple #[.agg (rA r.kind r.chain r.lsn r.prev (.slice a n c)), .int .i64 x]) ∧ RI .u8 w' (.slice a n c) n r.data ∧ Below w.heap.size w w' := by
  obtain ⟨dv, he, ho, hb⟩ := h
  rw [hz] at he ho
  obtain ⟨a, c, rfl⟩ := own_form ho
  exact ⟨a, _, c, he, RI.own ho, hb⟩
set_option maxRecDepth 8000 in
set_option maxHeartbeats 4000000 in
theorem decodes_walk (a : Option Addr) (len cap : Nat) (zs : List Int) (W : World) (hri : RI .u8 W (.slice a len cap) len zs) (hbz : isB zs) :
    Calls Try.prog 4 #[.slice a len cap] W fun e w' => e = .returned (.bool true) ∧ Below W.heap.size W w' := by
  obtain ⟨⟨⟨k, c, l, p, d⟩, e3⟩, hg⟩ : ∃ g, recD zs = g := ⟨_, rfl⟩
  have hbd := recD_bytes hbz
  rw [hg] at hbd
  simp only at hbd
  have HG1 : Hid (∀ w, RI .u8 w (.slice a len cap) len zs → Calls Try.prog 13 #[.slice a len cap] w fun e w' => ∃ a n c', e = .returned (.tuple #[.agg (rA k c l p (.slice a n c')), .int .i64 e3]) ∧ RI .u8 w' (.slice a n c') n d ∧ Below w.heap.size w w') := Lib.hid fun w h =>
    (prdec_any _ len zs w h hbz).mono fun _ _ hq => dec_form hg hq
  have HG2 : Hid (∀ w, RI .u8 w (.slice a len cap) len zs → Calls Try.prog 16 #[.slice a len cap] w fun e w' => ∃ a n c', e = .returned (.tuple #[.agg (rA k c l p (.slice a n c')), .int .i64 e3]) ∧ RI .u8 w' (.slice a n c') n d ∧ Below w.heap.size w w') := Lib.hid fun w h =>
    (rrdec_any _ len zs w h hbz).mono fun _ _ hq => dec_form hg hq
  have HR := Lib.hid hri
  by_cases he : e3 = 0
  · subst he
    have HS := Lib.hid (same_self k c l p d hbd)
    obtain ⟨h1, h2, h3⟩ := rec_back zs hbz (by rw [hg])
    rw [hg] at h2 h3
    simp only at h2 h3
    have HP : Hid (∀ (v : Value) (n : Nat) (w : World), RI .u8 w v n d → Calls Try.prog 6 #[.agg (rA k c l p v)] w fun e w' => ∃ v', e = .returned (.tuple #[v', .int .i64 0]) ∧ RI .u8 w' v' zs.length zs ∧ Below w.heap.size w w') := Lib.hid fun v n w h =>
      (prenc_right k c l p v n d w h2 h (by rw [h3]; exact h1)).mono fun _ _ ⟨v, he, ho, hb⟩ => ⟨v, he, by rw [h3] at ho; exact RI.own ho, hb⟩
    clear hg hbz hbd h1 h2 h3 hri
    go_enter Try.func4, Try.ntmps4
    go_wp2_with (first
      | (go_at_call 13; (with_reducible refine (HG1.out _ HR.out).mono ?_); rintro e w1 ⟨a1, n1, c1, rfl, hr1, hb1⟩; have HR1 := Lib.hid hr1; have HB1 := Lib.hid hb1; clear hr1 hb1)
      | (refine wpList_store_row rfl 24 _ _ rfl w1.heap.size (rA k c l p (.slice a1 n1 c1)) rfl rfl _ _ (heap_alloc_last w1 _) (rec_info _ rfl) rfl (rec_one _ _ _ _ _ _ _) ?_; have HO1 := Lib.hid (RO.new (w := w1) (k := k) (c := c) (l := l) (p := p) (v := .slice a1 n1 c1) (rA 0 0 0 0 (.slice none 0 0))); have HW1 := Lib.hid (bnew w1 (.cells (rA 0 0 0 0 (.slice none 0 0)) 24) (rA k c l p (.slice a1 n1 c1))))
      | (go_at_call 16; (with_reducible refine (HG2.out _ ((HR.out.keep HB1.out).keep HW1.out)).mono ?_); rintro e w2 ⟨a2, n2, c2, rfl, hr2, hb2⟩; have HO1 := Lib.hid (HO1.out.keep hb2); have HR1 := Lib.hid ((HR1.out.keep HW1.out).keep hb2); have HR2 := Lib.hid hr2; have HB2 := Lib.hid (bch HB1.out (bch HW1.out hb2)); clear hr2 hb2)
      | (refine wpList_store_row rfl 24 _ _ rfl w2.heap.size (rA k c l p (.slice a2 n2 c2)) rfl rfl _ _ (heap_alloc_last w2 _) (rec_info _ rfl) rfl (rec_one _ _ _ _ _ _ _) ?_; have HO2 := Lib.hid (RO.new (w := w2) (k := k) (c := c) (l := l) (p := p) (v := .slice a2 n2 c2) (rA 0 0 0 0 (.slice none 0 0))); have HW2 := Lib.hid (bnew w2 (.cells (rA 0 0 0 0 (.slice none 0 0)) 24) (rA k c l p (.slice a2 n2 c2))); have HO12 := Lib.hid (HO1.out.keep HW2.out); have HR12 := Lib.hid (HR1.out.keep HW2.out); have HR22 := Lib.hid (HR2.out.keep HW2.out); have HB22 := Lib.hid (bch HB2.out HW2.out))
      | (go_at_call 14; (with_reducible refine (HS.out _ _ _ _ _ HR12.out HR22.out).mono ?_); rintro e w3 ⟨rfl, hb3⟩; have HO3 := Lib.hid (HO12.out.keep hb3); have HR3 := Lib.hid (HR12.out.keep hb3); have HB3 := Lib.hid (bch HB22.out hb3); clear hb3)
      | (refine wpl_load_rec rfl (.tmp 3) rfl rfl HO3.out ?_)
      | (refine wpl_load_rec rfl (.tmp 3) rfl rfl HO12.out ?_)
      | (refine wpl_load_rec rfl (.tmp 5) rfl rfl HO2.out ?_)
      | (go_at_call 6; (with_reducible refine (HP.out _ _ _ HR3.out).mono ?_); rintro e w4 ⟨v4, rfl, hr4, hb4⟩; have hq4 := conv_ri hr4; have HB4 := Lib.hid (bch HB3.out hb4); have hq5 := conv_ri (HR.out.keep HB4.out); clear hr4 hb4)
      | (go_at_call 15; (with_reducible refine (awake_any _).mono ?_); rintro e w5 ⟨rfl, hb⟩; have HB5 := Lib.hid (bch HB4.out hb); clear hb))
    go_ret
    exact ⟨rfl, HB5.out⟩
  · have hne : (e3 != 0) = true := by simpa using he
    have hnr := recD_err (zs := zs) (by rw [hg]; exact he)
    rw [hg] at hnr
    simp only [noR, Prod.mk.injEq, RC.mk.injEq] at hnr
    obtain ⟨⟨rfl, rfl, rfl, rfl, rfl⟩, _⟩ := hnr
    have HS := Lib.hid (same_self 0 0 0 0 [] hbd)
    have HP : Hid (∀ (v : Value) (w : World), Calls Try.prog 6 #[.agg (rA 0 0 0 0 v)] w fun e w' => e = .returned (.tuple #[.slice none 0 0, .int .i64 13]) ∧ Below w.heap.size w w') := Lib.hid fun v w => prenc_wrong 0 0 0 0 v w (by decide)
    clear hg hbz hbd hri
    go_enter Try.func4, Try.ntmps4
    go_wp2_with (first
      | (go_at_call 13; (with_reducible refine (HG1.out _ HR.out).mono ?_); rintro e w1 ⟨a1, n1, c1, rfl, hr1, hb1⟩; have HR1 := Lib.hid hr1; have HB1 := Lib.hid hb1; clear hr1 hb1)
      | (refine wpList_store_row rfl 24 _ _ rfl w1.heap.size (rA 0 0 0 0 (.slice a1 n1 c1)) rfl rfl _ _ (heap_alloc_last w1 _) (rec_info _ rfl) rfl (rec_one _ _ _ _ _ _ _) ?_; have HO1 := Lib.hid (RO.new (w := w1) (k := 0) (c := 0) (l := 0) (p := 0) (v := .slice a1 n1 c1) (rA 0 0 0 0 (.slice none 0 0))); have HW1 := Lib.hid (bnew w1 (.cells (rA 0 0 0 0 (.slice none 0 0)) 24) (rA 0 0 0 0 (.slice a1 n1 c1))))
      | (go_at_call 16; (with_reducible refine (HG2.out _ ((HR.out.keep HB1.out).keep HW1.out)).mono ?_); rintro e w2 ⟨a2, n2, c2, rfl, hr2, hb2⟩; have HO1 := Lib.hid (HO1.out.keep hb2); have HR1 := Lib.hid ((HR1.out.keep HW1.out).keep hb2); have HR2 := Lib.hid hr2; have HB2 := Lib.hid (bch HB1.out (bch HW1.out hb2)); clear hr2 hb2)
      | (refine wpList_store_row rfl 24 _ _ rfl w2.heap.size (rA 0 0 0 0 (.slice a2 n2 c2)) rfl rfl _ _ (heap_alloc_last w2 _) (rec_info _ rfl) rfl (rec_one _ _ _ _ _ _ _) ?_; have HO2 := Lib.hid (RO.new (w := w2) (k := 0) (c := 0) (l := 0) (p := 0) (v := .slice a2 n2 c2) (rA 0 0 0 0 (.slice none 0 0))); have HW2 := Lib.hid (bnew w2 (.cells (rA 0 0 0 0 (.slice none 0 0)) 24) (rA 0 0 0 0 (.slice a2 n2 c2))); have HO12 := Lib.hid (HO1.out.keep HW2.out); have HR12 := Lib.hid (HR1.out.keep HW2.out); have HR22 := Lib.hid (HR2.out.keep HW2.out); have HB22 := Lib.hid (bch HB2.out HW2.out))
      | (go_at_call 14; (with_reducible refine (HS.out _ _ _ _ _ HR12.out HR22.out).mono ?_); rintro e w3 ⟨rfl, hb3⟩; have HO3 := Lib.hid (HO12.out.keep hb3); have HR3 := Lib.hid (HR12.out.keep hb3); have HB3 := Lib.hid (bch HB22.out hb3); clear hb3)
      | (refine wpl_load_rec rfl (.tmp 3) rfl rfl HO3.out ?_)
      | (refine wpl_load_rec rfl (.tmp 3) rfl rfl HO12.out ?_)
      | (refine wpl_load_rec rfl (.tmp 5) rfl rfl HO2.out ?_)
      | (go_at_call 6; (with_reducible refine (HP.out _ _).mono ?_); rintro e w4 ⟨rfl, hb4⟩; have HB4 := Lib.hid (bch HB3.out hb4); clear hb4)
      | (go_at_call 15; (with_reducible refine (awake_any _).mono ?_); rintro e w5 ⟨rfl, hb⟩; have HB5 := Lib.hid (bch HB4.out hb); clear hb))
    go_ret
    exact ⟨rfl, HB5.out⟩
end Go.Proofs.Ytnnkaddgbcdehaa
