/-
  LAYER 12 (batch): awake; the walks of the laws BatchEncodes and BatchDecodes. Within the form's own bounds.
-/
import Derived.Test.YtmcfnlfaclkbhaaBatDecR
namespace Go.Proofs.Ytmcfnlfaclkbhaa
open Go.RowKit
/-- what awake decodes -/
def twoO : List AO := [⟨2, ⟨#[97]⟩, ⟨#[]⟩⟩, ⟨1, ⟨#[98]⟩, ⟨#[]⟩⟩]
theorem two_bytes : batB twoO ++ [] = [2, 1, 97, 1, 1, 98, 0] := by
  unfold twoO
  rw [batB_cons, batB_cons]
  unfold oB
  simp only
  rw [opB_two _ _ (by decide), opB_one _ _ (by decide) (by decide)]
  unfold fb
  rw [show (sl ⟨#[97]⟩).length = 1 from rfl, show (sl ⟨#[98]⟩).length = 1 from rfl, show (sl ⟨#[]⟩).length = 0 from rfl, vb, vb]
  rfl
theorem two_right : ∀ o ∈ twoO, oR o = true := by decide
theorem two_answer : batE twoO [] = 0 ∧ batL twoO [] = twoO := by
  obtain ⟨h1, h2⟩ := batL_zero (k := twoO) (by decide)
  exact ⟨h2, h1⟩
abbrev litA : Array Value := #[.int .u8 2, .int .u8 1, .int .u8 97, .int .u8 1, .int .u8 1, .int .u8 98, .int .u8 0]
theorem two_ri (w : World) : RI .u8 (w.alloc (.cells litA 5 (7, 8))) (.slice (some ⟨w.heap.size, 0, none⟩) 7 7) 7 (batB twoO ++ []) := by
  rw [two_bytes]
  refine ⟨_, 7, rfl, rfl, Nat.le_refl _, by omega, fun h => by simp at h, fun _ => ⟨_, 0, rfl, fun j hj => ?_⟩⟩
  rw [Nat.zero_add, World.cell?_alloc_mark]
  match j, hj with
  | 0, _ => rfl
  | 1, _ => rfl
  | 2, _ => rfl
  | 3, _ => rfl
  | 4, _ => rfl
  | 5, _ => rfl
  | 6, _ => rfl
  | j + 7, h => omega
set_option maxRecDepth 8000 in
set_option maxHeartbeats 1000000 in
theorem awake_any (w : World) : Calls Try.prog 6 #[] w fun e w' => e = .returned (.bool true) ∧ Below w.heap.size w w' := by
  have HB0 := Lib.hid (balloc w (.cells litA 5 (7, 8)))
  have hcv := Go.Joins.run_convert_bytes_const_at (P := Try.prog) w 24 5 litA 7 7 w.heap.size rfl Try.underlying24 Try.underlying5
  have HC : Hid (∀ w', Below (w.alloc (.cells litA 5 (7, 8))).heap.size (w.alloc (.cells litA 5 (7, 8))) w' → Calls Try.prog 10 #[.slice (some ⟨w.heap.size, 0, none⟩) 7 7] w' fun e w'' => ∃ b off c, e = .returned (.tuple #[.slice (some ⟨b, off, none⟩) 2 c, .int .i64 0]) ∧ 2 ≤ c ∧ c ≤ 9223372036854775807 ∧ w''.cell? ⟨b, off + 3 + 1, none⟩ = some (.string ⟨#[98]⟩) ∧ Below w'.heap.size w' w'') := Lib.hid fun w' hb => by
    refine (bdecode_any _ 7 twoO [] w' ((two_ri w).keep hb) (fun x hx => by simp at hx) two_right (.inl rfl) (by omega)).mono ?_
    rintro e w'' ⟨v, rfl, ho, hb2⟩
    rw [two_answer.1, two_answer.2] at *
    obtain ⟨a, c, rfl, h1, h2, _⟩ := ho.form
    obtain ⟨b, off, rfl, hr⟩ := ho.at_ 1 ⟨1, ⟨#[98]⟩, ⟨#[]⟩⟩ rfl
    exact ⟨b, off, c, rfl, h1, h2, hr 1 _ rfl, hb2⟩
  go_enter Try.func6, Try.ntmps6
  go_wp2_with (first
    | (go_at_call 10; (with_reducible refine (HC.out _ (Below.refl _ _)).mono ?_); rintro e w' ⟨b, off, c, rfl, hc2, hc63, hcell, hb⟩; have HB := Lib.hid (bch HB0.out hb); clear hb))
  go_ret
  exact ⟨rfl, HB.out⟩
set_option maxRecDepth 8000 in
set_option maxHeartbeats 4000000 in
theorem encodes_walk (v : Value) (l : List AO) (W : World) (h : OS W v l) :
    Calls Try.prog 3 #[v] W fun e w' => e = .returned (.bool true) ∧ Below W.heap.size W w' := by
  obtain ⟨a, c, rfl, hc, hm, _⟩ := h.form
  obtain ⟨n, hn⟩ : ∃ n, l.length = n := ⟨_, rfl⟩
  rw [hn] at h hc ⊢
  by_cases hbig : 200 < (n : Int)
  · clear h hn
    go_enter Try.func3, Try.ntmps3
    go_wp2_with (first
      | (go_at_call 6; (with_reducible refine (awake_any _).mono ?_); rintro e w1 ⟨rfl, hb⟩; have HB := Lib.hid hb; clear hb))
    go_ret
    exact ⟨rfl, HB.out⟩
  · have HL := Lib.hid h
    cases hr : batR l with
    | false =>
      have HE : Hid (∀ w, OS w (.slice a n c) l → Calls Try.prog 7 #[.slice a n c] w fun e w' => e = .returned (.tuple #[.slice none 0 0, .int .i64 13]) ∧ Below w.heap.size w w') := Lib.hid fun w h => bencode_wrong _ l w h hr
      have H1 : Hid (∀ w, OS w (.slice a n c) l → Calls Try.prog 8 #[.slice a n c] w fun e w' => e = .returned (.bool false) ∧ Below w.heap.size w w') := Lib.hid fun w h => by have := bright_any _ l w h; rwa [hr] at this
      have H2 : Hid (∀ w, OS w (.slice a n c) l → Calls Try.prog 9 #[.slice a n c] w fun e w' => e = .returned (.bool false) ∧ Below w.heap.size w w') := Lib.hid fun w h => by have := rbright_any _ l w h; rwa [hr] at this
      clear h hr hn
      go_enter Try.func3, Try.ntmps3
      go_wp2_with (first
        | (go_at_call 7; (with_reducible refine (HE.out _ HL.out).mono ?_); rintro e w1 ⟨rfl, hb⟩; have HB1 := Lib.hid hb; clear hb)
        | (go_at_call 9; (with_reducible refine (H2.out _ (HL.out.keep HB3.out)).mono ?_); rintro e w4 ⟨rfl, hb⟩; have HB4 := Lib.hid (bch HB3.out hb); clear hb)
        | (go_at_call 9; (with_reducible refine (H2.out _ (HL.out.keep HB2.out)).mono ?_); rintro e w3 ⟨rfl, hb⟩; have HB3 := Lib.hid (bch HB2.out hb); clear hb)
        | (go_at_call 8; (with_reducible refine (H1.out _ (HL.out.keep HB1.out)).mono ?_); rintro e w2 ⟨rfl, hb⟩; have HB2 := Lib.hid (bch HB1.out hb); clear hb)
        | (go_at_call 6; (with_reducible refine (awake_any _).mono ?_); rintro e w5 ⟨rfl, hb⟩; have HB5 := Lib.hid (bch HB4.out hb); clear hb))
      go_ret
      exact ⟨rfl, HB5.out⟩
    | true =>
      obtain ⟨m, hmm⟩ : ∃ m, (batB l).length = m := ⟨_, rfl⟩
      obtain ⟨g1, g2, g3⟩ := batR_of hr
      have hml := batB_len g1
      obtain ⟨d1, d2⟩ := batL_zero hr
      have HE : Hid (∀ w, OS w (.slice a n c) l → Calls Try.prog 7 #[.slice a n c] w fun e w' => ∃ p c', e = .returned (.tuple #[.slice p m c', .int .i64 0]) ∧ RI .u8 w' (.slice p m c') m (batB l) ∧ Below w.heap.size w w') := Lib.hid fun w h => by
        refine (bencode_right _ l w h hr).mono ?_
        rintro e w' ⟨v, rfl, ho, hb⟩
        rw [hmm] at ho
        obtain ⟨p, c', rfl⟩ := own_form ho
        exact ⟨p, c', rfl, RI.own ho, hb⟩
      have H1 : Hid (∀ w, OS w (.slice a n c) l → Calls Try.prog 8 #[.slice a n c] w fun e w' => e = .returned (.bool true) ∧ Below w.heap.size w w') := Lib.hid fun w h => by have := bright_any _ l w h; rwa [hr] at this
      have H2 : Hid (∀ w, OS w (.slice a n c) l → Calls Try.prog 9 #[.slice a n c] w fun e w' => e = .returned (.bool true) ∧ Below w.heap.size w w') := Lib.hid fun w h => by have := rbright_any _ l w h; rwa [hr] at this
      have H3 : Hid (∀ p c' w, RI .u8 w (.slice p m c') m (batB l) → Calls Try.prog 10 #[.slice p m c'] w fun e w' => ∃ p2 c2, e = .returned (.tuple #[.slice p2 n c2, .int .i64 0]) ∧ OS w' (.slice p2 n c2) l ∧ Below w.heap.size w w') := Lib.hid fun p c' w h => by
        refine (bdecode_any _ m l [] w (by rw [List.append_nil]; exact h) (fun x hx => by simp at hx) g1 (.inl rfl) (by omega)).mono ?_
        rintro e w' ⟨v, rfl, ho, hb⟩
        rw [d1] at ho
        rw [d2]
        obtain ⟨p2, c2, rfl, _⟩ := ho.form
        rw [hn] at ho ⊢
        exact ⟨p2, c2, rfl, ho, hb⟩
      have H4 : Hid (∀ w, OS w (.slice a n c) l → Calls Try.prog 11 #[.slice a n c] w fun e w' => ∃ p c', e = .returned (.slice p m c') ∧ RI .u8 w' (.slice p m c') m (batB l) ∧ Below w.heap.size w w') := Lib.hid fun w h => by
        refine (rbbytes_any _ l w h hr).mono ?_
        rintro e w' ⟨v, rfl, ho, hb⟩
        rw [hmm] at ho
        obtain ⟨p, c', rfl⟩ := own_form ho
        exact ⟨p, c', rfl, RI.own ho, hb⟩
      have H5 : Hid (∀ v1 v2 w, OS w v1 l → OS w v2 l → Calls Try.prog 12 #[v1, v2] w fun e w' => e = .returned (.bool true) ∧ Below w.heap.size w w') := Lib.hid fun v1 v2 w h1 h2 => (rosame_any v1 v2 l l w h1 h2).mono fun _ _ ⟨e, b⟩ => ⟨by rw [e]; simp, b⟩
      obtain ⟨x, hx⟩ : ∃ x, strOfNums (batB l) = x := ⟨_, rfl⟩
      have HX := Lib.hid hx
      clear h hr hn hmm g1 g2 g3 hml d1 d2 hx
      go_enter Try.func3, Try.ntmps3
      go_wp2_with (first
        | (go_at_call 7; (with_reducible refine (HE.out _ HL.out).mono ?_); rintro e w1 ⟨p1, c1, rfl, hr1, hb⟩; have HR1 := Lib.hid hr1; have HB1 := Lib.hid hb; clear hb hr1)
        | (go_at_call 9; (with_reducible refine (H2.out _ (HL.out.keep HB3.out)).mono ?_); rintro e w4 ⟨rfl, hb⟩; have HB4 := Lib.hid (bch HB3.out hb); have HR4 := Lib.hid (HR3.out.keep hb); clear hb)
        | (go_at_call 9; (with_reducible refine (H2.out _ (HL.out.keep HB2.out)).mono ?_); rintro e w3 ⟨rfl, hb⟩; have HB3 := Lib.hid (bch HB2.out hb); have HR3 := Lib.hid (HR2.out.keep hb); clear hb)
        | (go_at_call 8; (with_reducible refine (H1.out _ (HL.out.keep HB1.out)).mono ?_); rintro e w2 ⟨rfl, hb⟩; have HB2 := Lib.hid (bch HB1.out hb); have HR2 := Lib.hid (HR1.out.keep hb); clear hb)
        | (go_at_call 10; (with_reducible refine (H3.out _ _ _ HR4.out).mono ?_); rintro e w5 ⟨p2, c2, rfl, ho5, hb⟩; have HO5 := Lib.hid ho5; have HB5 := Lib.hid (bch HB4.out hb); have HR5 := Lib.hid (HR4.out.keep hb); clear hb ho5))
      refine wp_region_held_drew (S := (fun w' => RI .u8 w' (.slice p1 m c1) m (batB l) ∧ OS w' (.slice a n c) l ∧ OS w' (.slice p2 n c2) l ∧ Below W.heap.size W w')) (by kernel_rfl) ⟨HR5.out.keep ((Below.refl _ _).drew), (HL.out.keep HB5.out).keep ((Below.refl _ _).drew), HO5.out.keep ((Below.refl _ _).drew), HB5.out.trans (((Below.refl _ _).drew).mono HB5.out.size)⟩ (fun hS => ?_)
      refine wpAnyH_take (i := 0) (oi := ({ dst := some 39, op := Op.move (Operand.tmp 4), type := 25, pos := "law.go:30", after := #[], guard := none } : Oper)) (v := ?_) rfl (by kernel_rfl) (by kernel_rfl) (by kernel_rfl) (fun _ _ _ h => h) (Or.inl ⟨by rfl, ?_⟩) hS ?_
      rotate_left
      · (intro w hSw; (try dsimp only at hSw); go_simp; try with_reducible rfl)
      (try simp only [Act.put, List.setIfInBounds_toArray, List.set_cons_zero, List.set_cons_succ])
      refine wpAnyH_take (i := 1) (oi := ({ dst := some 40, op := Op.binOp BinOp.eql 25 (Operand.tmp 39) (Operand.const (Value.int IntKind.i64 0)) 25, type := 4, pos := "law.go:30", after := #[{ on := 0, ground := Ground.data }], guard := none } : Oper)) (v := ?_) rfl (by kernel_rfl) (by kernel_rfl) (by kernel_rfl) (fun _ _ _ h => h) (Or.inl ⟨by rfl, ?_⟩) hS ?_
      rotate_left
      · (intro w hSw; (try dsimp only at hSw); go_simp; try with_reducible rfl)
      (try simp only [Act.put, List.setIfInBounds_toArray, List.set_cons_zero, List.set_cons_succ])
      refine wpAnyH_take (i := 2) (oi := ({ dst := some 41, op := Op.move (Operand.tmp 40), type := 4, pos := "law.go:30", after := #[{ on := 1, ground := Ground.data }], guard := none } : Oper)) (v := ?_) rfl (by kernel_rfl) (by kernel_rfl) (by kernel_rfl) (fun _ _ _ h => h) (Or.inl ⟨by rfl, ?_⟩) hS ?_
      rotate_left
      · (intro w hSw; (try dsimp only at hSw); go_simp; try with_reducible rfl)
      (try simp only [Act.put, List.setIfInBounds_toArray, List.set_cons_zero, List.set_cons_succ])
      refine wpAnyH_take (i := 3) (oi := ({ dst := some 42, op := Op.move (Operand.tmp 3), type := 24, pos := "law.go:30", after := #[{ on := 2, ground := Ground.guard }], guard := some (2, true) } : Oper)) (v := ?_) rfl (by kernel_rfl) (by kernel_rfl) (by kernel_rfl) (fun _ _ _ h => h) (Or.inl ⟨by rfl, ?_⟩) hS ?_
      rotate_left
      · (intro w hSw; (try dsimp only at hSw); go_simp; try with_reducible rfl)
      (try simp only [Act.put, List.setIfInBounds_toArray, List.set_cons_zero, List.set_cons_succ])
      refine wpAnyH_take (i := 4) (oi := ({ dst := some 43, op := Op.convert 24 9 (Operand.tmp 42), type := 9, pos := "law.go:30", after := #[{ on := 3, ground := Ground.data }, { on := 2, ground := Ground.guard }], guard := some (2, true) } : Oper)) (v := ?_) rfl (by kernel_rfl) (by kernel_rfl) (by kernel_rfl) (fun _ _ _ h => h) (Or.inl ⟨by rfl, ?_⟩) hS ?_
      rotate_left
      · (intro w hSw; (try dsimp only at hSw); have hq := conv_ri hSw.1; rw [HX.out] at hq; go_simp; try with_reducible rfl)
      (try simp only [Act.put, List.setIfInBounds_toArray, List.set_cons_zero, List.set_cons_succ])
      refine wpAnyH_take (i := 5) (oi := ({ dst := some 44, op := Op.move (Operand.tmp 0), type := 22, pos := "law.go:30", after := #[{ on := 2, ground := Ground.guard }], guard := some (2, true) } : Oper)) (v := ?_) rfl (by kernel_rfl) (by kernel_rfl) (by kernel_rfl) (fun _ _ _ h => h) (Or.inl ⟨by rfl, ?_⟩) hS ?_
      rotate_left
      · (intro w hSw; (try dsimp only at hSw); go_simp; try with_reducible rfl)
      (try simp only [Act.put, List.setIfInBounds_toArray, List.set_cons_zero, List.set_cons_succ])
      refine rg_one 6 ({ dst := some 45, op := Op.call { callee := Callee.value (Operand.func 11), args := #[Operand.tmp 44], argTypes := #[22] }, type := 24, pos := "law.go:30", after := #[{ on := 5, ground := Ground.data }, { on := 2, ground := Ground.chain }, { on := 2, ground := Ground.guard }], guard := some (2, true) } : Oper) (by kernel_rfl) rfl (fun K hK => ?_)
      go_simp
      (go_at_call 11; (with_reducible refine (H4.out _ hS.2.1).mono ?_); rintro e w6 ⟨p6, c6, rfl, hr6, hb⟩; have hq6 := conv_ri hr6; rw [HX.out] at hq6)
      refine hK.out _ _ ?_ (fun hS1 => ?_)
      · (first | exact hS | exact ⟨hS.1.keep hb, hS.2.1.keep hb, hS.2.2.1.keep hb, bch hS.2.2.2 hb⟩)
      clear hK K hS; have hS := hS1; clear hS1
      (try simp only [Act.put, List.setIfInBounds_toArray, List.set_cons_zero, List.set_cons_succ])
      refine rg_one 7 ({ dst := some 46, op := Op.convert 24 9 (Operand.tmp 45), type := 9, pos := "law.go:30", after := #[{ on := 6, ground := Ground.data }, { on := 2, ground := Ground.guard }], guard := some (2, true) } : Oper) (by kernel_rfl) rfl (fun K hK => ?_)
      go_simp
      refine hK.out _ _ ?_ (fun hS1 => ?_)
      · (first | exact hS | exact ⟨hS.1.keep hb, hS.2.1.keep hb, hS.2.2.1.keep hb, bch hS.2.2.2 hb⟩)
      clear hK K hS; have hS := hS1; clear hS1
      (try simp only [Act.put, List.setIfInBounds_toArray, List.set_cons_zero, List.set_cons_succ])
      refine wpAnyH_take (i := 8) (oi := ({ dst := some 47, op := Op.binOp BinOp.eql 9 (Operand.tmp 43) (Operand.tmp 46) 9, type := 4, pos := "law.go:30", after := #[{ on := 4, ground := Ground.data }, { on := 7, ground := Ground.data }, { on := 2, ground := Ground.guard }], guard := some (2, true) } : Oper)) (v := ?_) rfl (by kernel_rfl) (by kernel_rfl) (by kernel_rfl) (fun _ _ _ h => h) (Or.inl ⟨by rfl, ?_⟩) hS ?_
      rotate_left
      · (intro w hSw; (try dsimp only at hSw); go_simp; try with_reducible rfl)
      (try simp only [Act.put, List.setIfInBounds_toArray, List.set_cons_zero, List.set_cons_succ])
      refine wpAnyH_take (i := 9) (oi := ({ dst := some 48, op := Op.pick (Operand.tmp 41) (Operand.tmp 47) (Operand.const (Value.bool false)), type := 4, pos := "law.go:30", after := #[{ on := 2, ground := Ground.data }, { on := 8, ground := Ground.data }], guard := none } : Oper)) (v := ?_) rfl (by kernel_rfl) (by kernel_rfl) (by kernel_rfl) (fun _ _ _ h => h) (Or.inl ⟨by rfl, ?_⟩) hS ?_
      rotate_left
      · (intro w hSw; (try dsimp only at hSw); go_simp; try with_reducible rfl)
      (try simp only [Act.put, List.setIfInBounds_toArray, List.set_cons_zero, List.set_cons_succ])
      refine wpAnyH_take (i := 10) (oi := ({ dst := some 49, op := Op.move (Operand.tmp 48), type := 4, pos := "law.go:30", after := #[{ on := 9, ground := Ground.data }, { on := 6, ground := Ground.chain }], guard := none } : Oper)) (v := ?_) rfl (by kernel_rfl) (by kernel_rfl) (by kernel_rfl) (fun _ _ _ h => h) (Or.inl ⟨by rfl, ?_⟩) hS ?_
      rotate_left
      · (intro w hSw; (try dsimp only at hSw); go_simp; try with_reducible rfl)
      (try simp only [Act.put, List.setIfInBounds_toArray, List.set_cons_zero, List.set_cons_succ])
      refine wpAnyH_take (i := 11) (oi := ({ dst := some 50, op := Op.move (Operand.tmp 6), type := 25, pos := "law.go:30", after := #[{ on := 10, ground := Ground.guard }], guard := some (10, true) } : Oper)) (v := ?_) rfl (by kernel_rfl) (by kernel_rfl) (by kernel_rfl) (fun _ _ _ h => h) (Or.inl ⟨by rfl, ?_⟩) hS ?_
      rotate_left
      · (intro w hSw; (try dsimp only at hSw); go_simp; try with_reducible rfl)
      (try simp only [Act.put, List.setIfInBounds_toArray, List.set_cons_zero, List.set_cons_succ])
      refine wpAnyH_take (i := 12) (oi := ({ dst := some 51, op := Op.binOp BinOp.eql 25 (Operand.tmp 50) (Operand.const (Value.int IntKind.i64 0)) 25, type := 4, pos := "law.go:30", after := #[{ on := 11, ground := Ground.data }, { on := 10, ground := Ground.guard }], guard := some (10, true) } : Oper)) (v := ?_) rfl (by kernel_rfl) (by kernel_rfl) (by kernel_rfl) (fun _ _ _ h => h) (Or.inl ⟨by rfl, ?_⟩) hS ?_
      rotate_left
      · (intro w hSw; (try dsimp only at hSw); go_simp; try with_reducible rfl)
      (try simp only [Act.put, List.setIfInBounds_toArray, List.set_cons_zero, List.set_cons_succ])
      refine wpAnyH_take (i := 13) (oi := ({ dst := some 52, op := Op.pick (Operand.tmp 49) (Operand.tmp 51) (Operand.const (Value.bool false)), type := 4, pos := "law.go:30", after := #[{ on := 10, ground := Ground.data }, { on := 12, ground := Ground.data }], guard := none } : Oper)) (v := ?_) rfl (by kernel_rfl) (by kernel_rfl) (by kernel_rfl) (fun _ _ _ h => h) (Or.inl ⟨by rfl, ?_⟩) hS ?_
      rotate_left
      · (intro w hSw; (try dsimp only at hSw); go_simp; try with_reducible rfl)
      (try simp only [Act.put, List.setIfInBounds_toArray, List.set_cons_zero, List.set_cons_succ])
      refine wpAnyH_take (i := 14) (oi := ({ dst := some 53, op := Op.move (Operand.tmp 52), type := 4, pos := "law.go:30", after := #[{ on := 13, ground := Ground.data }, { on := 10, ground := Ground.chain }], guard := none } : Oper)) (v := ?_) rfl (by kernel_rfl) (by kernel_rfl) (by kernel_rfl) (fun _ _ _ h => h) (Or.inl ⟨by rfl, ?_⟩) hS ?_
      rotate_left
      · (intro w hSw; (try dsimp only at hSw); go_simp; try with_reducible rfl)
      (try simp only [Act.put, List.setIfInBounds_toArray, List.set_cons_zero, List.set_cons_succ])
      refine wpAnyH_take (i := 15) (oi := ({ dst := some 54, op := Op.move (Operand.tmp 5), type := 22, pos := "law.go:30", after := #[{ on := 14, ground := Ground.guard }], guard := some (14, true) } : Oper)) (v := ?_) rfl (by kernel_rfl) (by kernel_rfl) (by kernel_rfl) (fun _ _ _ h => h) (Or.inl ⟨by rfl, ?_⟩) hS ?_
      rotate_left
      · (intro w hSw; (try dsimp only at hSw); go_simp; try with_reducible rfl)
      (try simp only [Act.put, List.setIfInBounds_toArray, List.set_cons_zero, List.set_cons_succ])
      refine wpAnyH_take (i := 16) (oi := ({ dst := some 55, op := Op.move (Operand.tmp 0), type := 22, pos := "law.go:30", after := #[{ on := 14, ground := Ground.guard }], guard := some (14, true) } : Oper)) (v := ?_) rfl (by kernel_rfl) (by kernel_rfl) (by kernel_rfl) (fun _ _ _ h => h) (Or.inl ⟨by rfl, ?_⟩) hS ?_
      rotate_left
      · (intro w hSw; (try dsimp only at hSw); go_simp; try with_reducible rfl)
      (try simp only [Act.put, List.setIfInBounds_toArray, List.set_cons_zero, List.set_cons_succ])
      refine rg_one 17 ({ dst := some 56, op := Op.call { callee := Callee.value (Operand.func 12), args := #[Operand.tmp 54, Operand.tmp 55], argTypes := #[22, 22] }, type := 4, pos := "law.go:30", after := #[{ on := 15, ground := Ground.data }, { on := 16, ground := Ground.data }, { on := 14, ground := Ground.chain }, { on := 14, ground := Ground.guard }], guard := some (14, true) } : Oper) (by kernel_rfl) rfl (fun K hK => ?_)
      go_simp
      (go_at_call 12; (with_reducible refine (H5.out _ _ _ hS.2.2.1 hS.2.1).mono ?_); rintro e w7 ⟨rfl, hb⟩)
      refine hK.out _ _ ?_ (fun hS1 => ?_)
      · (first | exact hS | exact ⟨hS.1.keep hb, hS.2.1.keep hb, hS.2.2.1.keep hb, bch hS.2.2.2 hb⟩)
      clear hK K hS; have hS := hS1; clear hS1
      (try simp only [Act.put, List.setIfInBounds_toArray, List.set_cons_zero, List.set_cons_succ])
      refine wpAnyH_take (i := 18) (oi := ({ dst := some 57, op := Op.pick (Operand.tmp 53) (Operand.tmp 56) (Operand.const (Value.bool false)), type := 4, pos := "law.go:30", after := #[{ on := 14, ground := Ground.data }, { on := 17, ground := Ground.data }], guard := none } : Oper)) (v := ?_) rfl (by kernel_rfl) (by kernel_rfl) (by kernel_rfl) (fun _ _ _ h => h) (Or.inl ⟨by rfl, ?_⟩) hS ?_
      rotate_left
      · (intro w hSw; (try dsimp only at hSw); go_simp; try with_reducible rfl)
      (try simp only [Act.put, List.setIfInBounds_toArray, List.set_cons_zero, List.set_cons_succ])
      refine wpAnyH_take (i := 19) (oi := ({ dst := some 58, op := Op.move (Operand.tmp 57), type := 4, pos := "law.go:30", after := #[{ on := 18, ground := Ground.data }, { on := 17, ground := Ground.chain }], guard := none } : Oper)) (v := ?_) rfl (by kernel_rfl) (by kernel_rfl) (by kernel_rfl) (fun _ _ _ h => h) (Or.inl ⟨by rfl, ?_⟩) hS ?_
      rotate_left
      · (intro w hSw; (try dsimp only at hSw); go_simp; try with_reducible rfl)
      (try simp only [Act.put, List.setIfInBounds_toArray, List.set_cons_zero, List.set_cons_succ])
      refine rg_one 20 ({ dst := some 59, op := Op.call { callee := Callee.value (Operand.func 6), args := #[], argTypes := #[] }, type := 4, pos := "law.go:30", after := #[{ on := 19, ground := Ground.chain }, { on := 19, ground := Ground.guard }], guard := some (19, true) } : Oper) (by kernel_rfl) rfl (fun K hK => ?_)
      go_simp
      (go_at_call 6; (with_reducible refine (awake_any _).mono ?_); rintro e w8 ⟨rfl, hb⟩)
      refine hK.out _ _ ?_ (fun hS1 => ?_)
      · (first | exact hS | exact ⟨hS.1.keep hb, hS.2.1.keep hb, hS.2.2.1.keep hb, bch hS.2.2.2 hb⟩)
      clear hK K hS; have hS := hS1; clear hS1
      (try simp only [Act.put, List.setIfInBounds_toArray, List.set_cons_zero, List.set_cons_succ])
      refine wpAnyH_take (i := 21) (oi := ({ dst := some 60, op := Op.pick (Operand.tmp 58) (Operand.tmp 59) (Operand.const (Value.bool false)), type := 4, pos := "law.go:30", after := #[{ on := 19, ground := Ground.data }, { on := 20, ground := Ground.data }], guard := none } : Oper)) (v := ?_) rfl (by kernel_rfl) (by kernel_rfl) (by kernel_rfl) (fun _ _ _ h => h) (Or.inl ⟨by rfl, ?_⟩) hS ?_
      rotate_left
      · (intro w hSw; (try dsimp only at hSw); go_simp; try with_reducible rfl)
      (try simp only [Act.put, List.setIfInBounds_toArray, List.set_cons_zero, List.set_cons_succ])
      refine wpAnyH_take (i := 22) (oi := ({ dst := some 2, op := Op.assign (Operand.tmp 60), type := 4, pos := "law.go:30", after := #[{ on := 21, ground := Ground.data }, { on := 20, ground := Ground.chain }, { on := 0, ground := Ground.phase }, { on := 1, ground := Ground.phase }, { on := 2, ground := Ground.phase }, { on := 3, ground := Ground.phase }, { on := 4, ground := Ground.phase }, { on := 5, ground := Ground.phase }, { on := 6, ground := Ground.phase }, { on := 7, ground := Ground.phase }, { on := 8, ground := Ground.phase }, { on := 9, ground := Ground.phase }, { on := 10, ground := Ground.phase }, { on := 11, ground := Ground.phase }, { on := 12, ground := Ground.phase }, { on := 13, ground := Ground.phase }, { on := 14, ground := Ground.phase }, { on := 15, ground := Ground.phase }, { on := 16, ground := Ground.phase }, { on := 17, ground := Ground.phase }, { on := 18, ground := Ground.phase }, { on := 19, ground := Ground.phase }, { on := 20, ground := Ground.phase }, { on := 21, ground := Ground.phase }], guard := none } : Oper)) (v := ?_) rfl (by kernel_rfl) (by kernel_rfl) (by kernel_rfl) (fun _ _ _ h => h) (Or.inl ⟨by rfl, ?_⟩) hS ?_
      rotate_left
      · (intro w hSw; (try dsimp only at hSw); go_simp; try with_reducible rfl)
      (try simp only [Act.put, List.setIfInBounds_toArray, List.set_cons_zero, List.set_cons_succ])
      refine wpAnyH_done (by kernel_rfl) ?_ _
      have HB8 := Lib.hid hS.2.2.2
      clear hS
      go_wp2
      go_ret
      exact ⟨rfl, HB8.out⟩
end Go.Proofs.Ytmcfnlfaclkbhaa
