/-
  WHAT header.lay ANSWERS (layer 18): a right header's sector. The table of half a byte's steps must lie in its block as start-up lays it. (Written by wip/gen/g26.py.)
-/
import Derived.Test.YtncnmmillhnhlaaDoorHeadFd
import Derived.Test.YtncnmmillhnhlaaDoorHeadGet
namespace Go.Proofs.YtncnmmillhnhlaaDoor
open Go.RowKit
/-- what is put first -/
def p0 (e s f : Int) : List Int := mark ++ putL e 8 ++ putL s 4 ++ putL f 4
theorem p0_length (e s f : Int) : (p0 e s f).length = 21 := by simp [p0, putL_length, mark_length]
theorem p0_flat (e s f : Int) : [mark, putL e 8, putL s 4, putL f 4].flatten = p0 e s f := by simp [p0]
theorem put4_take (l : List Int) (i : Nat) (hi : i < l.length) : put4 (l.take i) ++ putL (l.getD i 0) 4 = put4 (l.take (i + 1)) := by
  rw [List.take_succ_eq_append_getElem hi, put4_snoc]
  simp [List.getD, hi]
theorem fd_one {w : World} {base : Nat} {v : Value} {l : List Int} (h : FD w base v l) : ∀ (j : Nat) (x : Value) (k : List Int), [v][j]? = some x → [l][j]? = some k → FD w base x k := by
  intro j x k hx hk
  match j with
  | 0 => simp at hx hk; subst hx; subst hk; exact h
  | j + 1 => simp at hx
theorem fd_four {w : World} {base : Nat} {v0 v1 v2 v3 : Value} {l0 l1 l2 l3 : List Int} (h0 : FD w base v0 l0) (h1 : FD w base v1 l1) (h2 : FD w base v2 l2) (h3 : FD w base v3 l3) :
    ∀ (j : Nat) (x : Value) (k : List Int), [v0, v1, v2, v3][j]? = some x → [l0, l1, l2, l3][j]? = some k → FD w base x k := by
  intro j x k hx hk
  match j with
  | 0 => simp at hx hk; subst hx; subst hk; exact h0
  | 1 => simp at hx hk; subst hx; subst hk; exact h1
  | 2 => simp at hx hk; subst hx; subst hk; exact h2
  | 3 => simp at hx hk; subst hx; subst hk; exact h3
  | j + 4 => simp at hx
theorem lay_done (h : Hdr) (hn : h.l.length = 4) : isB (splice z64 0 (headP h)) ∧ (splice z64 0 (headP h)).take 37 = headP h ∧ splice (splice z64 0 (headP h)) 37 (putL (headS h) 4) = secH h := by
  have hl := headP_length hn
  have e0 : splice z64 0 (headP h) = headP h ++ z64.drop 37 := by unfold splice; rw [List.take_zero, List.nil_append, hl]
  refine ⟨by rw [e0]; exact (headP_bytes h).append ((zeros_bytes 64).drop 37), by rw [e0, List.take_left' hl], ?_⟩
  have h2 := splice_more z64 0 (headP h) (putL (headS h) 4) (by rw [hl, z64_length]; omega)
  rw [hl, Nat.zero_add] at h2
  rw [h2]
  unfold splice secH headB
  rw [List.take_zero, List.nil_append, List.length_append, hl, putL_length]
  rfl
/-- where lay stands: the header that came in, room for the result -/
structure LS (W : World) (h : Hdr) (w : World) : Prop where
  below : Below W.heap.size W w
  sz : W.heap.size + 3 ≤ w.heap.size
  hb : HB w W.heap.size h
  old : Blk w (W.heap.size + 1) z64
theorem LS.next {W w w' : World} {h : Hdr} (k : LS W h w) (hb : Below w.heap.size w w') : LS W h w' := ⟨bch k.below hb, Nat.le_trans k.sz hb.size, k.hb.keep hb, k.old.keep hb⟩
theorem LS.over {W w w' : World} {h : Hdr} (k : LS W h w) (hg : w.grownBy w' (some (W.heap.size + 2))) : LS W h w' :=
  ⟨hbelow_grown k.below hg (by omega) k.below.size, Nat.le_trans k.sz hg.size, k.hb.over hg (by omega), k.old.over hg (by omega)⟩
theorem LS.overq {W w w' : World} {h : Hdr} {q : Nat} (k : LS W h w) (hg : w.grownBy w' (some q)) (hq : W.heap.size + 3 ≤ q) : LS W h w' :=
  ⟨hbelow_grown k.below hg (by omega) k.below.size, Nat.le_trans k.sz hg.size, k.hb.over hg (by omega), k.old.over hg (by omega)⟩
theorem LS.all {W w : World} {e s f : Int} {l : List Int} (k : LS W ⟨e, s, f, l⟩ w) : w.cell? ⟨W.heap.size, 0, none⟩ = some (.int .u64 e) ∧ w.cell? ⟨W.heap.size, 1, none⟩ = some (.int .i64 s) ∧ w.cell? ⟨W.heap.size, 2, none⟩ = some (.int .i64 f) ∧ LS W ⟨e, s, f, l⟩ w :=
  ⟨k.hb.cells.1, k.hb.cells.2.1, k.hb.cells.2.2, k⟩
set_option maxRecDepth 8000 in
set_option maxHeartbeats 4000000 in
theorem hlay_any (h : Hdr) (ht : HdT h) (hk : hdOk h = true) (w : World) (hT : Tab w) :
    Calls Tryd.prog 14 #[.agg (hv h)] w fun e w' => e = .returned (.agg (sv (secH h))) ∧ Below w.heap.size w w' := by
  have hok := hdOk_parts hk
  obtain ⟨w0, hw0⟩ : ∃ q, ((w.alloc (.cells (hv h) 25)).alloc (.cells (sv z64) 27)).alloc (.cells (sv z64) 27) = q := ⟨_, rfl⟩
  have hs1 : (w.alloc (.cells (hv h) 25)).heap.size = w.heap.size + 1 := alloc_size w _
  have hs2 : ((w.alloc (.cells (hv h) 25)).alloc (.cells (sv z64) 27)).heap.size = w.heap.size + 2 := by rw [alloc_size, hs1]
  have HN0 := Lib.hid (show Blk w0 (w.heap.size + 2) z64 from by rw [← hw0, ← hs2]; exact Blk.new _ z64 z64_length)
  have HLS0 : Hid (LS w h w0) := Lib.hid ⟨by rw [← hw0]; exact bch (bch (balloc w _) (balloc _ _)) (balloc _ _), by rw [← hw0, alloc_size, hs2]; omega, by rw [← hw0]; exact ((HB.new w h ht.n).keep (balloc _ _)).keep (balloc _ _), by rw [← hw0]; exact Blk.keep (by rw [← hs1]; exact Blk.new _ z64 z64_length) (balloc _ _)⟩
  have HLN := Lib.hid ht.n
  have HT := Lib.hid hT
  have HLB := Lib.hid (show ∀ x ∈ h.l, 0 ≤ x ∧ x ≤ 2147483647 from fun x hx => by have := hok.2.2.2 x hx; have := hok.2.2.1; omega)
  have hZ := z64_cells
  have HZ := Lib.hid hZ
  have he : 0 ≤ h.e ∧ h.e ≤ 18446744073709551615 := ht.e
  have hs := hok.2.1
  have hf := hok.2.2.1
  obtain ⟨e, s, f, l⟩ := h
  dsimp only at *
  have HP8 : Hid (∀ w, Calls Tryd.prog 24 #[.int .u64 e, .int .i64 8] w fun r w' => r = .returned (.slice (some ⟨w.heap.size, 0, none⟩) 8 8) ∧ w'.ownsRow w.heap.size 5 1 (.slice (some ⟨w.heap.size, 0, none⟩) 8 8) 8 (il .u8 (putL e 8)) ∧ Below w.heap.size w w') := Lib.hid (hword_put e 8 (by omega))
  have HPS : Hid (∀ w, Calls Tryd.prog 25 #[.int .i64 s] w fun r w' => r = .returned (.slice (some ⟨w.heap.size, 0, none⟩) 4 4) ∧ w'.ownsRow w.heap.size 5 1 (.slice (some ⟨w.heap.size, 0, none⟩) 4 4) 4 (il .u8 (putL s 4)) ∧ Below w.heap.size w w') := Lib.hid (number_any s (by omega) hs.2)
  have HPF : Hid (∀ w, Calls Tryd.prog 25 #[.int .i64 f] w fun r w' => r = .returned (.slice (some ⟨w.heap.size, 0, none⟩) 4 4) ∧ w'.ownsRow w.heap.size 5 1 (.slice (some ⟨w.heap.size, 0, none⟩) 4 4) 4 (il .u8 (putL f 4)) ∧ Below w.heap.size w w') := Lib.hid (number_any f (by omega) hf.2)
  clear hok hk ht hT hZ hs1 hs2
  go_enter Tryd.func14, Tryd.ntmps14
  go_wp2_with fail
  rw [← HZ.out, hw0]
  have HN : Hid (Blk w0.drew (w.heap.size + 2) z64) := Lib.hid (HN0.out.keep (Below.refl _ _).drew)
  refine wp_region_held_drew (S := (fun w' => w'.cell? ⟨w.heap.size, 0, none⟩ = some (.int .u64 e) ∧ w'.cell? ⟨w.heap.size, 1, none⟩ = some (.int .i64 s) ∧ w'.cell? ⟨w.heap.size, 2, none⟩ = some (.int .i64 f) ∧ LS w ⟨e, s, f, l⟩ w')) (by kernel_rfl) (LS.all (HLS0.out.next (Below.refl _ _).drew)) (fun hS => ?_)
  refine wpAnyH_take (i := 2) (oi := ({ dst := some 8, op := Op.fieldAddr 25 (Operand.tmp 1) 0, type := 0, pos := "sector.go:31", after := #[], guard := none } : Oper)) (v := ?_) rfl (by kernel_rfl) (by kernel_rfl) (by kernel_rfl) (fun _ _ _ h => h) (Or.inl ⟨by rfl, ?_⟩) hS ?_
  rotate_left
  · (intro w hSw; (try dsimp only at hSw); go_simp; try with_reducible rfl)
  (try simp only [Act.put, List.setIfInBounds_toArray, List.set_cons_zero, List.set_cons_succ])
  refine wpAnyH_take (i := 3) (oi := ({ dst := some 9, op := Op.load 22 (Operand.tmp 8), type := 22, pos := "sector.go:31", after := #[{ on := 2, ground := Ground.data }], guard := none } : Oper)) (v := ?_) rfl (by kernel_rfl) (by kernel_rfl) (by kernel_rfl) (fun _ _ _ h => h) (Or.inl ⟨by rfl, ?_⟩) hS ?_
  rotate_left
  · (intro w hSw; (try dsimp only at hSw); go_simp; try with_reducible rfl)
  (try simp only [Act.put, List.setIfInBounds_toArray, List.set_cons_zero, List.set_cons_succ])
  refine wpAnyH_take (i := 5) (oi := ({ dst := some 11, op := Op.fieldAddr 25 (Operand.tmp 1) 1, type := 0, pos := "sector.go:31", after := #[], guard := none } : Oper)) (v := ?_) rfl (by kernel_rfl) (by kernel_rfl) (by kernel_rfl) (fun _ _ _ h => h) (Or.inl ⟨by rfl, ?_⟩) hS ?_
  rotate_left
  · (intro w hSw; (try dsimp only at hSw); go_simp; try with_reducible rfl)
  (try simp only [Act.put, List.setIfInBounds_toArray, List.set_cons_zero, List.set_cons_succ])
  refine wpAnyH_take (i := 6) (oi := ({ dst := some 12, op := Op.load 3 (Operand.tmp 11), type := 3, pos := "sector.go:31", after := #[{ on := 5, ground := Ground.data }], guard := none } : Oper)) (v := ?_) rfl (by kernel_rfl) (by kernel_rfl) (by kernel_rfl) (fun _ _ _ h => h) (Or.inl ⟨by rfl, ?_⟩) hS ?_
  rotate_left
  · (intro w hSw; (try dsimp only at hSw); go_simp; try with_reducible rfl)
  (try simp only [Act.put, List.setIfInBounds_toArray, List.set_cons_zero, List.set_cons_succ])
  refine wpAnyH_take (i := 8) (oi := ({ dst := some 14, op := Op.fieldAddr 25 (Operand.tmp 1) 2, type := 0, pos := "sector.go:31", after := #[], guard := none } : Oper)) (v := ?_) rfl (by kernel_rfl) (by kernel_rfl) (by kernel_rfl) (fun _ _ _ h => h) (Or.inl ⟨by rfl, ?_⟩) hS ?_
  rotate_left
  · (intro w hSw; (try dsimp only at hSw); go_simp; try with_reducible rfl)
  (try simp only [Act.put, List.setIfInBounds_toArray, List.set_cons_zero, List.set_cons_succ])
  refine wpAnyH_take (i := 9) (oi := ({ dst := some 15, op := Op.load 3 (Operand.tmp 14), type := 3, pos := "sector.go:31", after := #[{ on := 8, ground := Ground.data }], guard := none } : Oper)) (v := ?_) rfl (by kernel_rfl) (by kernel_rfl) (by kernel_rfl) (fun _ _ _ h => h) (Or.inl ⟨by rfl, ?_⟩) hS ?_
  rotate_left
  · (intro w hSw; (try dsimp only at hSw); go_simp; try with_reducible rfl)
  (try simp only [Act.put, List.setIfInBounds_toArray, List.set_cons_zero, List.set_cons_succ])
  refine rg_both 0 4 ({ dst := some 6, op := Op.buildSlice 42 5 #[(0, Operand.const (Value.int IntKind.u8 115)), (1, Operand.const (Value.int IntKind.u8 116)), (2, Operand.const (Value.int IntKind.u8 114)), (3, Operand.const (Value.int IntKind.u8 100)), (4, Operand.const (Value.int IntKind.u8 1))], type := 42, pos := "sector.go:31", after := #[], guard := none } : Oper) ({ dst := some 10, op := Op.call { callee := Callee.value (Operand.func 24), args := #[Operand.tmp 9, Operand.const (Value.int IntKind.i64 8)], argTypes := #[22, 3] }, type := 42, pos := "sector.go:31", after := #[{ on := 3, ground := Ground.data }], guard := none } : Oper) (by kernel_rfl) rfl rfl (fun K hK => ?_) (fun K hK => ?_)
  · skip
    rw [if_pos (by rfl)]; refine wp_mark rfl ?_; intro gm w5 hm hgm5 hb5; have hb := hb5.out; (try (have q := Lib.hid (HGM.out.keep hb); clear HGM; have HGM := q; clear q)); (try (have q := Lib.hid (HM.out.keep hb); clear HM; have HM := q; clear q)); (try (have q := Lib.hid (H8.out.keep hb); clear H8; have H8 := q; clear q)); (try (have q := Lib.hid (HS4.out.keep hb); clear HS4; have HS4 := q; clear q)); (try (have q := Lib.hid (HF4.out.keep hb); clear HF4; have HF4 := q; clear q)); (try (have q := Lib.hid (HN.out.keep hb); clear HN; have HN := q; clear q)); have HGM := hm; have HGE := Lib.hid (Nat.le_trans hS.2.2.2.sz hgm5.out); clear hm hb5 hgm5
    refine hK.out _ _ ?_ (fun hS1 => ?_)
    · (first | exact hS | exact hN | exact LS.all (hS.2.2.2.next hb))
    clear hK K hS; have hS := hS1; clear hS1
    (try simp only [Act.put, List.setIfInBounds_toArray, List.set_cons_zero, List.set_cons_succ])
    refine rg_both 1 4 ({ dst := some 7, op := Op.convert 42 42 (Operand.tmp 6), type := 42, pos := "sector.go:31", after := #[{ on := 0, ground := Ground.data }], guard := none } : Oper) ({ dst := some 10, op := Op.call { callee := Callee.value (Operand.func 24), args := #[Operand.tmp 9, Operand.const (Value.int IntKind.i64 8)], argTypes := #[22, 3] }, type := 42, pos := "sector.go:31", after := #[{ on := 3, ground := Ground.data }], guard := none } : Oper) (by kernel_rfl) rfl rfl (fun K hK => ?_) (fun K hK => ?_)
    · skip
      rw [if_pos (by rfl)]; refine wp_conv_mark (.tmp 6) rfl gm rfl HGM.out ?_; intro w5b hsm hg5; have hN := LS.all (hS.2.2.2.overq hg5.out HGE.out); (try (have q := Lib.hid (H8.out.same hsm.out); clear H8; have H8 := q; clear q)); (try (have q := Lib.hid (HS4.out.same hsm.out); clear HS4; have HS4 := q; clear q)); (try (have q := Lib.hid (HF4.out.same hsm.out); clear HF4; have HF4 := q; clear q)); have HM := Lib.hid ((fd_mark (base := w.heap.size + 3) HGM.out HGE.out).same hsm.out); (have q := Lib.hid (HN.out.over hg5.out (by have := HGE.out; omega)); clear HN; have HN := q; clear q); clear HGM hsm hg5
      refine hK.out _ _ ?_ (fun hS1 => ?_)
      · (first | exact hS | exact hN | exact LS.all (hS.2.2.2.next hb))
      clear hK K hS; have hS := hS1; clear hS1
      (try simp only [Act.put, List.setIfInBounds_toArray, List.set_cons_zero, List.set_cons_succ])
      refine rg_one 4 ({ dst := some 10, op := Op.call { callee := Callee.value (Operand.func 24), args := #[Operand.tmp 9, Operand.const (Value.int IntKind.i64 8)], argTypes := #[22, 3] }, type := 42, pos := "sector.go:31", after := #[{ on := 3, ground := Ground.data }], guard := none } : Oper) (by kernel_rfl) rfl (fun K hK => ?_)
      go_simp
      (go_at_call 24; (refine (HP8.out _).mono ?_); rintro r w4 ⟨rfl, ho, hb⟩; (try (have q := Lib.hid (HGM.out.keep hb); clear HGM; have HGM := q; clear q)); (try (have q := Lib.hid (HM.out.keep hb); clear HM; have HM := q; clear q)); (try (have q := Lib.hid (H8.out.keep hb); clear H8; have H8 := q; clear q)); (try (have q := Lib.hid (HS4.out.keep hb); clear HS4; have HS4 := q; clear q)); (try (have q := Lib.hid (HF4.out.keep hb); clear HF4; have HF4 := q; clear q)); (try (have q := Lib.hid (HN.out.keep hb); clear HN; have HN := q; clear q)); have H8 := Lib.hid (FD.of (base := w.heap.size + 3) ho hS.2.2.2.sz); clear ho)
      refine hK.out _ _ ?_ (fun hS1 => ?_)
      · (first | exact hS | exact hN | exact LS.all (hS.2.2.2.next hb))
      clear hK K hS; have hS := hS1; clear hS1
      (try simp only [Act.put, List.setIfInBounds_toArray, List.set_cons_zero, List.set_cons_succ])
      refine rg_one 7 ({ dst := some 13, op := Op.call { callee := Callee.value (Operand.func 25), args := #[Operand.tmp 12], argTypes := #[3] }, type := 42, pos := "sector.go:31", after := #[{ on := 6, ground := Ground.data }, { on := 4, ground := Ground.chain }], guard := none } : Oper) (by kernel_rfl) rfl (fun K hK => ?_)
      go_simp
      (go_at_call 25; (refine (HPS.out _).mono ?_); rintro r w6 ⟨rfl, ho, hb⟩; (try (have q := Lib.hid (HGM.out.keep hb); clear HGM; have HGM := q; clear q)); (try (have q := Lib.hid (HM.out.keep hb); clear HM; have HM := q; clear q)); (try (have q := Lib.hid (H8.out.keep hb); clear H8; have H8 := q; clear q)); (try (have q := Lib.hid (HS4.out.keep hb); clear HS4; have HS4 := q; clear q)); (try (have q := Lib.hid (HF4.out.keep hb); clear HF4; have HF4 := q; clear q)); (try (have q := Lib.hid (HN.out.keep hb); clear HN; have HN := q; clear q)); have HS4 := Lib.hid (FD.of (base := w.heap.size + 3) ho hS.2.2.2.sz); clear ho)
      refine hK.out _ _ ?_ (fun hS1 => ?_)
      · (first | exact hS | exact hN | exact LS.all (hS.2.2.2.next hb))
      clear hK K hS; have hS := hS1; clear hS1
      (try simp only [Act.put, List.setIfInBounds_toArray, List.set_cons_zero, List.set_cons_succ])
      refine rg_one 10 ({ dst := some 16, op := Op.call { callee := Callee.value (Operand.func 25), args := #[Operand.tmp 15], argTypes := #[3] }, type := 42, pos := "sector.go:31", after := #[{ on := 9, ground := Ground.data }, { on := 7, ground := Ground.chain }], guard := none } : Oper) (by kernel_rfl) rfl (fun K hK => ?_)
      go_simp
      (go_at_call 25; (refine (HPF.out _).mono ?_); rintro r w7 ⟨rfl, ho, hb⟩; (try (have q := Lib.hid (HGM.out.keep hb); clear HGM; have HGM := q; clear q)); (try (have q := Lib.hid (HM.out.keep hb); clear HM; have HM := q; clear q)); (try (have q := Lib.hid (H8.out.keep hb); clear H8; have H8 := q; clear q)); (try (have q := Lib.hid (HS4.out.keep hb); clear HS4; have HS4 := q; clear q)); (try (have q := Lib.hid (HF4.out.keep hb); clear HF4; have HF4 := q; clear q)); (try (have q := Lib.hid (HN.out.keep hb); clear HN; have HN := q; clear q)); have HF4 := Lib.hid (FD.of (base := w.heap.size + 3) ho hS.2.2.2.sz); clear ho)
      refine hK.out _ _ ?_ (fun hS1 => ?_)
      · (first | exact hS | exact hN | exact LS.all (hS.2.2.2.next hb))
      clear hK K hS; have hS := hS1; clear hS1
      (try simp only [Act.put, List.setIfInBounds_toArray, List.set_cons_zero, List.set_cons_succ])
      refine rg_one 11 ({ dst := some 17, op := Op.buildSlice 59 4 #[(0, Operand.tmp 7), (1, Operand.tmp 10), (2, Operand.tmp 13), (3, Operand.tmp 16)], type := 59, pos := "sector.go:31", after := #[{ on := 1, ground := Ground.data }, { on := 4, ground := Ground.data }, { on := 7, ground := Ground.data }, { on := 10, ground := Ground.data }], guard := none } : Oper) (by kernel_rfl) rfl (fun K hK => ?_)
      rw [if_pos (by rfl)]; refine wp_lit4 (.tmp 7) (.tmp 10) (.tmp 13) (.tmp 16) rfl _ _ _ _ _ _ _ _ _ _ _ _ rfl rfl rfl rfl ?_; intro gl w8 hl hgl hb8; have hb := hb8.out; (try (have q := Lib.hid (HGM.out.keep hb); clear HGM; have HGM := q; clear q)); (try (have q := Lib.hid (HM.out.keep hb); clear HM; have HM := q; clear q)); (try (have q := Lib.hid (H8.out.keep hb); clear H8; have H8 := q; clear q)); (try (have q := Lib.hid (HS4.out.keep hb); clear HS4; have HS4 := q; clear q)); (try (have q := Lib.hid (HF4.out.keep hb); clear HF4; have HF4 := q; clear q)); (try (have q := Lib.hid (HN.out.keep hb); clear HN; have HN := q; clear q)); have HRL := Lib.hid (rl_lit (g := w.heap.size + 2) (base := w.heap.size + 3) (n := 4) (ls := [mark, putL e 8, putL s 4, putL f 4]) hl.out (by omega) (Nat.le_trans hS.2.2.2.sz hgl.out) rfl rfl (by omega) (fd_four HM.out H8.out HS4.out HF4.out)); clear hl hgl hb8
      refine hK.out _ _ ?_ (fun hS1 => ?_)
      · (first | exact hS | exact hN | exact LS.all (hS.2.2.2.next hb))
      clear hK K hS; have hS := hS1; clear hS1
      (try simp only [Act.put, List.setIfInBounds_toArray, List.set_cons_zero, List.set_cons_succ])
      refine rg_one 12 ({ dst := some 18, op := Op.call { callee := Callee.value (Operand.func 23), args := #[Operand.tmp 3, Operand.const (Value.int IntKind.i64 0), Operand.tmp 17], argTypes := #[54, 3, 59] }, type := 0, pos := "sector.go:31", after := #[{ on := 11, ground := Ground.data }, { on := 10, ground := Ground.chain }], guard := none } : Oper) (by kernel_rfl) rfl (fun K hK => ?_)
      go_simp
      (go_at_call 23; (refine (hput_any (w.heap.size + 2) 0 4 z64 [mark, putL e 8, putL s 4, putL f 4] _ _ HN.out HRL.out (by intro y hy; simp only [List.mem_cons, List.not_mem_nil, or_false] at hy; rcases hy with rfl | rfl | rfl | rfl <;> simp [putL_length, mark_length]) (by rw [p0_flat, p0_length]; omega)).mono ?_); rintro r w9 ⟨rfl, hk9, hg9⟩; have hN := LS.all (hS.2.2.2.over hg9); clear HN; have HN := Lib.hid hk9; clear hk9 hg9)
      refine hK.out _ _ ?_ (fun hS1 => ?_)
      · (first | exact hS | exact hN | exact LS.all (hS.2.2.2.next hb))
      clear hK K hS; have hS := hS1; clear hS1
      (try simp only [Act.put, List.setIfInBounds_toArray, List.set_cons_zero, List.set_cons_succ])
      refine wpAnyH_done (by kernel_rfl) ?_ _
      have HLS := Lib.hid hS.2.2.2
      have HN7 := Lib.hid HN.out
      clear hS HN HRL
      (try clear hN hb)
      (try clear HM H8 HS4 HF4 HGE)
      go_wp2_with (first
        | (refine wpl_load_l4 rfl (.tmp 19) rfl rfl HLS.out.hb ?_))
      go_loopw [21] (fun v wr => ∃ i : Nat, v = .int .i64 i ∧ i ≤ 4 ∧ Hid (LS w ⟨e, s, f, l⟩ wr) ∧ Hid (Blk wr (w.heap.size + 2) (splice z64 0 (p0 e s f ++ put4 (l.take i))))) (fun v _ => 4 - (intOf v).toNat)
      case atStart => exact ⟨0, rfl, by omega, HLS, Lib.hid (by have h1 := HN7.out; rw [p0_flat] at h1; simpa [put4] using h1)⟩
      case round =>
        obtain ⟨i, rfl, hi, HR, HNR⟩ := hrel
        by_cases hlt : i < 4
        · have hix := index_l4 l HLN.out i hlt
          obtain ⟨x, hx⟩ : ∃ x, l.getD i 0 = x := ⟨_, rfl⟩
          rw [hx] at hix
          have HXB := Lib.hid (show 0 ≤ x ∧ x ≤ 2147483647 from by rw [← hx]; exact HLB.out _ (getD_memL (by rw [HLN.out]; exact hlt)))
          have HPS := Lib.hid (put4_take l i (by rw [HLN.out]; exact hlt))
          rw [hx] at HPS
          have HNU : Hid (∀ w, Calls Tryd.prog 25 #[.int .i64 x] w fun r w' => r = .returned (.slice (some ⟨w.heap.size, 0, none⟩) 4 4) ∧ w'.ownsRow w.heap.size 5 1 (.slice (some ⟨w.heap.size, 0, none⟩) 4 4) 4 (il .u8 (putL x 4)) ∧ Below w.heap.size w w') := Lib.hid (number_any x HXB.out.1 HXB.out.2)
          obtain ⟨p, hp⟩ : ∃ p : Nat, 21 + 4 * i = p := ⟨_, rfl⟩
          have hp2 : (21 : Int) + 4 * (i : Int) = (p : Int) := by omega
          have hlt2 : (i : Int) < 4 := by omega
          have hpb : (p : Int) ≤ 33 := by omega
          have HPL := Lib.hid (show (p0 e s f ++ put4 (l.take i)).length = p from by rw [List.length_append, p0_length, put4_length, List.length_take, HLN.out]; omega)
          clear hx hp
          go_wp2_with (first
            | (go_at_call 25; (with_reducible refine (HNU.out _).mono ?_); rintro r w7 ⟨rfl, ho7, hb7⟩; have HF7 := Lib.hid (FD.of ho7 HR.out.sz); have HR7 := Lib.hid (HR.out.next hb7); have HN7 := Lib.hid (HNR.out.keep hb7); clear ho7 hb7)
            | (refine wpl_lit1 rfl (.tmp 29) rfl _ _ _ rfl ?_; intro gl w8 hl8 hgl8 hb8; have HR8 := Lib.hid (HR7.out.next hb8.out); have HN8 := Lib.hid (HN7.out.keep hb8.out); have HRL8 := Lib.hid (rl_lit (g := w.heap.size + 2) (base := w.heap.size + 3) (n := 1) (ls := [putL x 4]) hl8.out (by omega) (Nat.le_trans HR7.out.sz hgl8.out) rfl rfl (by omega) (fd_one (HF7.out.keep hb8.out))); clear hl8 hgl8 hb8)
            | (go_at_call 23; (refine (hput_any (w.heap.size + 2) p 1 _ [putL x 4] _ _ HN8.out HRL8.out (by intro y hy; simp only [List.mem_cons, List.not_mem_nil, or_false] at hy; subst hy; rw [putL_length]; omega) (by simp [putL_length]; omega)).mono ?_); rintro r w9 ⟨rfl, hk9, hg9⟩; have HR9 := Lib.hid (HR8.out.over hg9); have HN9 := Lib.hid hk9; clear hk9 hg9))
          go_roundw
          case rel =>
            refine ⟨i + 1, by go_num, by omega, HR9, Lib.hid ?_⟩
            have h1 := HN9.out
            simp only [List.flatten_cons, List.flatten_nil, List.append_nil] at h1
            have h2 := splice_more z64 0 (p0 e s f ++ put4 (l.take i)) (putL x 4) (by rw [HPL.out, z64_length]; omega)
            rw [HPL.out, Nat.zero_add] at h2
            rw [h2, List.append_assoc, HPS.out] at h1
            exact h1
          case measure => simp [intOf]; omega
        · obtain rfl : i = 4 := by omega
          have HNF := Lib.hid (show Blk wr (w.heap.size + 2) (splice z64 0 (headP ⟨e, s, f, l⟩)) from by have h1 := HNR.out; rwa [List.take_of_length_le (by rw [HLN.out]; omega)] at h1)
          have HFIN := Lib.hid (lay_done ⟨e, s, f, l⟩ HLN.out)
          obtain ⟨L, hL⟩ : ∃ L, splice z64 0 (headP ⟨e, s, f, l⟩) = L := ⟨_, rfl⟩
          rw [hL] at HNF HFIN
          obtain ⟨m, hm⟩ : ∃ m, headS ⟨e, s, f, l⟩ = m := ⟨_, rfl⟩
          rw [hm] at HFIN
          have HSU : Hid (Calls Tryd.prog 17 #[.agg (sv L)] wr fun r w' => ∃ p, r = .returned (.slice (some ⟨p, 0, none⟩) 4 4) ∧ w'.ownsRow wr.heap.size 5 1 (.slice (some ⟨p, 0, none⟩) 4 4) 4 (il .u8 (putL m 4)) ∧ Below wr.heap.size wr w') := Lib.hid (hsum_any (HT.out.keep HR.out.below) L HNF.out.2 HFIN.out.1 (by rw [HFIN.out.2.1]; exact hm))
          obtain ⟨wz, hwz⟩ : ∃ q, q = wr := ⟨_, rfl⟩
          subst hwz
          clear hL hm
          go_wp2_with (first
            | (refine wpl_load_sec (by rfl) (.tmp 3) rfl (w.heap.size + 2) rfl L HNF.out ?_)
            | (go_at_call 17; (with_reducible refine (HSU.out).mono ?_); rintro r w7 ⟨p7, rfl, ho7, hb7⟩; have HF7 := Lib.hid (FD.of ho7 HR.out.sz); have HR7 := Lib.hid (HR.out.next hb7); have HN7 := Lib.hid (HNF.out.keep hb7); clear ho7 hb7)
            | (refine wpl_lit1 rfl (.tmp 34) rfl _ _ _ rfl ?_; intro gl w8 hl8 hgl8 hb8; have HR8 := Lib.hid (HR7.out.next hb8.out); have HN8 := Lib.hid (HN7.out.keep hb8.out); have HRL8 := Lib.hid (rl_lit (g := w.heap.size + 2) (base := w.heap.size + 3) (n := 1) (ls := [putL m 4]) hl8.out (by omega) (Nat.le_trans HR7.out.sz hgl8.out) rfl rfl (by omega) (fd_one (HF7.out.keep hb8.out))); clear hl8 hgl8 hb8)
            | (go_at_call 23; (refine (hput_any (w.heap.size + 2) 37 1 _ [putL m 4] _ _ HN8.out HRL8.out (by intro y hy; simp only [List.mem_cons, List.not_mem_nil, or_false] at hy; subst hy; rw [putL_length]; omega) (by simp [putL_length])).mono ?_); rintro r w9 ⟨rfl, hk9, hg9⟩; have HR9 := Lib.hid (HR8.out.over hg9); have HN9 := Lib.hid (show Blk w9 (w.heap.size + 2) (secH ⟨e, s, f, l⟩) from by rw [← HFIN.out.2.2]; simpa using hk9); clear hk9 hg9)
            | (refine wpl_load_sec (by rfl) (.tmp 3) rfl (w.heap.size + 2) rfl (secH ⟨e, s, f, l⟩) HN9.out ?_)
            | (refine wpl_put_sec rfl (.tmp 2) (.tmp 37) rfl (w.heap.size + 1) z64 (secH ⟨e, s, f, l⟩) HR9.out.old (secH_length HLN.out) rfl rfl ?_; intro wf HO HGF))
          refine bodyPost_ret_by (v := .agg (sv (secH ⟨e, s, f, l⟩))) (results_cell_row rfl _ _ (w.heap.size + 1) _ (sv (secH ⟨e, s, f, l⟩)) (0, 0) _ rfl HO.out.1 Tryd.underlying27 rfl (sv_info _ (secH_length HLN.out))) rfl ⟨rfl, ?_⟩
          exact hbelow_grown HR9.out.below HGF.out (by omega) HR9.out.below.size
    · skip
      go_simp
      (go_at_call 24; (refine (HP8.out _).mono ?_); rintro r w4 ⟨rfl, ho, hb⟩; (try (have q := Lib.hid (HGM.out.keep hb); clear HGM; have HGM := q; clear q)); (try (have q := Lib.hid (HM.out.keep hb); clear HM; have HM := q; clear q)); (try (have q := Lib.hid (H8.out.keep hb); clear H8; have H8 := q; clear q)); (try (have q := Lib.hid (HS4.out.keep hb); clear HS4; have HS4 := q; clear q)); (try (have q := Lib.hid (HF4.out.keep hb); clear HF4; have HF4 := q; clear q)); (try (have q := Lib.hid (HN.out.keep hb); clear HN; have HN := q; clear q)); have H8 := Lib.hid (FD.of (base := w.heap.size + 3) ho hS.2.2.2.sz); clear ho)
      refine hK.out _ _ ?_ (fun hS1 => ?_)
      · (first | exact hS | exact hN | exact LS.all (hS.2.2.2.next hb))
      clear hK K hS; have hS := hS1; clear hS1
      (try simp only [Act.put, List.setIfInBounds_toArray, List.set_cons_zero, List.set_cons_succ])
      refine rg_both 1 7 ({ dst := some 7, op := Op.convert 42 42 (Operand.tmp 6), type := 42, pos := "sector.go:31", after := #[{ on := 0, ground := Ground.data }], guard := none } : Oper) ({ dst := some 13, op := Op.call { callee := Callee.value (Operand.func 25), args := #[Operand.tmp 12], argTypes := #[3] }, type := 42, pos := "sector.go:31", after := #[{ on := 6, ground := Ground.data }, { on := 4, ground := Ground.chain }], guard := none } : Oper) (by kernel_rfl) rfl rfl (fun K hK => ?_) (fun K hK => ?_)
      · skip
        rw [if_pos (by rfl)]; refine wp_conv_mark (.tmp 6) rfl gm rfl HGM.out ?_; intro w5b hsm hg5; have hN := LS.all (hS.2.2.2.overq hg5.out HGE.out); (try (have q := Lib.hid (H8.out.same hsm.out); clear H8; have H8 := q; clear q)); (try (have q := Lib.hid (HS4.out.same hsm.out); clear HS4; have HS4 := q; clear q)); (try (have q := Lib.hid (HF4.out.same hsm.out); clear HF4; have HF4 := q; clear q)); have HM := Lib.hid ((fd_mark (base := w.heap.size + 3) HGM.out HGE.out).same hsm.out); (have q := Lib.hid (HN.out.over hg5.out (by have := HGE.out; omega)); clear HN; have HN := q; clear q); clear HGM hsm hg5
        refine hK.out _ _ ?_ (fun hS1 => ?_)
        · (first | exact hS | exact hN | exact LS.all (hS.2.2.2.next hb))
        clear hK K hS; have hS := hS1; clear hS1
        (try simp only [Act.put, List.setIfInBounds_toArray, List.set_cons_zero, List.set_cons_succ])
        refine rg_one 7 ({ dst := some 13, op := Op.call { callee := Callee.value (Operand.func 25), args := #[Operand.tmp 12], argTypes := #[3] }, type := 42, pos := "sector.go:31", after := #[{ on := 6, ground := Ground.data }, { on := 4, ground := Ground.chain }], guard := none } : Oper) (by kernel_rfl) rfl (fun K hK => ?_)
        go_simp
        (go_at_call 25; (refine (HPS.out _).mono ?_); rintro r w6 ⟨rfl, ho, hb⟩; (try (have q := Lib.hid (HGM.out.keep hb); clear HGM; have HGM := q; clear q)); (try (have q := Lib.hid (HM.out.keep hb); clear HM; have HM := q; clear q)); (try (have q := Lib.hid (H8.out.keep hb); clear H8; have H8 := q; clear q)); (try (have q := Lib.hid (HS4.out.keep hb); clear HS4; have HS4 := q; clear q)); (try (have q := Lib.hid (HF4.out.keep hb); clear HF4; have HF4 := q; clear q)); (try (have q := Lib.hid (HN.out.keep hb); clear HN; have HN := q; clear q)); have HS4 := Lib.hid (FD.of (base := w.heap.size + 3) ho hS.2.2.2.sz); clear ho)
        refine hK.out _ _ ?_ (fun hS1 => ?_)
        · (first | exact hS | exact hN | exact LS.all (hS.2.2.2.next hb))
        clear hK K hS; have hS := hS1; clear hS1
        (try simp only [Act.put, List.setIfInBounds_toArray, List.set_cons_zero, List.set_cons_succ])
        refine rg_one 10 ({ dst := some 16, op := Op.call { callee := Callee.value (Operand.func 25), args := #[Operand.tmp 15], argTypes := #[3] }, type := 42, pos := "sector.go:31", after := #[{ on := 9, ground := Ground.data }, { on := 7, ground := Ground.chain }], guard := none } : Oper) (by kernel_rfl) rfl (fun K hK => ?_)
        go_simp
        (go_at_call 25; (refine (HPF.out _).mono ?_); rintro r w7 ⟨rfl, ho, hb⟩; (try (have q := Lib.hid (HGM.out.keep hb); clear HGM; have HGM := q; clear q)); (try (have q := Lib.hid (HM.out.keep hb); clear HM; have HM := q; clear q)); (try (have q := Lib.hid (H8.out.keep hb); clear H8; have H8 := q; clear q)); (try (have q := Lib.hid (HS4.out.keep hb); clear HS4; have HS4 := q; clear q)); (try (have q := Lib.hid (HF4.out.keep hb); clear HF4; have HF4 := q; clear q)); (try (have q := Lib.hid (HN.out.keep hb); clear HN; have HN := q; clear q)); have HF4 := Lib.hid (FD.of (base := w.heap.size + 3) ho hS.2.2.2.sz); clear ho)
        refine hK.out _ _ ?_ (fun hS1 => ?_)
        · (first | exact hS | exact hN | exact LS.all (hS.2.2.2.next hb))
        clear hK K hS; have hS := hS1; clear hS1
        (try simp only [Act.put, List.setIfInBounds_toArray, List.set_cons_zero, List.set_cons_succ])
        refine rg_one 11 ({ dst := some 17, op := Op.buildSlice 59 4 #[(0, Operand.tmp 7), (1, Operand.tmp 10), (2, Operand.tmp 13), (3, Operand.tmp 16)], type := 59, pos := "sector.go:31", after := #[{ on := 1, ground := Ground.data }, { on := 4, ground := Ground.data }, { on := 7, ground := Ground.data }, { on := 10, ground := Ground.data }], guard := none } : Oper) (by kernel_rfl) rfl (fun K hK => ?_)
        rw [if_pos (by rfl)]; refine wp_lit4 (.tmp 7) (.tmp 10) (.tmp 13) (.tmp 16) rfl _ _ _ _ _ _ _ _ _ _ _ _ rfl rfl rfl rfl ?_; intro gl w8 hl hgl hb8; have hb := hb8.out; (try (have q := Lib.hid (HGM.out.keep hb); clear HGM; have HGM := q; clear q)); (try (have q := Lib.hid (HM.out.keep hb); clear HM; have HM := q; clear q)); (try (have q := Lib.hid (H8.out.keep hb); clear H8; have H8 := q; clear q)); (try (have q := Lib.hid (HS4.out.keep hb); clear HS4; have HS4 := q; clear q)); (try (have q := Lib.hid (HF4.out.keep hb); clear HF4; have HF4 := q; clear q)); (try (have q := Lib.hid (HN.out.keep hb); clear HN; have HN := q; clear q)); have HRL := Lib.hid (rl_lit (g := w.heap.size + 2) (base := w.heap.size + 3) (n := 4) (ls := [mark, putL e 8, putL s 4, putL f 4]) hl.out (by omega) (Nat.le_trans hS.2.2.2.sz hgl.out) rfl rfl (by omega) (fd_four HM.out H8.out HS4.out HF4.out)); clear hl hgl hb8
        refine hK.out _ _ ?_ (fun hS1 => ?_)
        · (first | exact hS | exact hN | exact LS.all (hS.2.2.2.next hb))
        clear hK K hS; have hS := hS1; clear hS1
        (try simp only [Act.put, List.setIfInBounds_toArray, List.set_cons_zero, List.set_cons_succ])
        refine rg_one 12 ({ dst := some 18, op := Op.call { callee := Callee.value (Operand.func 23), args := #[Operand.tmp 3, Operand.const (Value.int IntKind.i64 0), Operand.tmp 17], argTypes := #[54, 3, 59] }, type := 0, pos := "sector.go:31", after := #[{ on := 11, ground := Ground.data }, { on := 10, ground := Ground.chain }], guard := none } : Oper) (by kernel_rfl) rfl (fun K hK => ?_)
        go_simp
        (go_at_call 23; (refine (hput_any (w.heap.size + 2) 0 4 z64 [mark, putL e 8, putL s 4, putL f 4] _ _ HN.out HRL.out (by intro y hy; simp only [List.mem_cons, List.not_mem_nil, or_false] at hy; rcases hy with rfl | rfl | rfl | rfl <;> simp [putL_length, mark_length]) (by rw [p0_flat, p0_length]; omega)).mono ?_); rintro r w9 ⟨rfl, hk9, hg9⟩; have hN := LS.all (hS.2.2.2.over hg9); clear HN; have HN := Lib.hid hk9; clear hk9 hg9)
        refine hK.out _ _ ?_ (fun hS1 => ?_)
        · (first | exact hS | exact hN | exact LS.all (hS.2.2.2.next hb))
        clear hK K hS; have hS := hS1; clear hS1
        (try simp only [Act.put, List.setIfInBounds_toArray, List.set_cons_zero, List.set_cons_succ])
        refine wpAnyH_done (by kernel_rfl) ?_ _
        have HLS := Lib.hid hS.2.2.2
        have HN7 := Lib.hid HN.out
        clear hS HN HRL
        (try clear hN hb)
        (try clear HM H8 HS4 HF4 HGE)
        go_wp2_with (first
          | (refine wpl_load_l4 rfl (.tmp 19) rfl rfl HLS.out.hb ?_))
        go_loopw [21] (fun v wr => ∃ i : Nat, v = .int .i64 i ∧ i ≤ 4 ∧ Hid (LS w ⟨e, s, f, l⟩ wr) ∧ Hid (Blk wr (w.heap.size + 2) (splice z64 0 (p0 e s f ++ put4 (l.take i))))) (fun v _ => 4 - (intOf v).toNat)
        case atStart => exact ⟨0, rfl, by omega, HLS, Lib.hid (by have h1 := HN7.out; rw [p0_flat] at h1; simpa [put4] using h1)⟩
        case round =>
          obtain ⟨i, rfl, hi, HR, HNR⟩ := hrel
          by_cases hlt : i < 4
          · have hix := index_l4 l HLN.out i hlt
            obtain ⟨x, hx⟩ : ∃ x, l.getD i 0 = x := ⟨_, rfl⟩
            rw [hx] at hix
            have HXB := Lib.hid (show 0 ≤ x ∧ x ≤ 2147483647 from by rw [← hx]; exact HLB.out _ (getD_memL (by rw [HLN.out]; exact hlt)))
            have HPS := Lib.hid (put4_take l i (by rw [HLN.out]; exact hlt))
            rw [hx] at HPS
            have HNU : Hid (∀ w, Calls Tryd.prog 25 #[.int .i64 x] w fun r w' => r = .returned (.slice (some ⟨w.heap.size, 0, none⟩) 4 4) ∧ w'.ownsRow w.heap.size 5 1 (.slice (some ⟨w.heap.size, 0, none⟩) 4 4) 4 (il .u8 (putL x 4)) ∧ Below w.heap.size w w') := Lib.hid (number_any x HXB.out.1 HXB.out.2)
            obtain ⟨p, hp⟩ : ∃ p : Nat, 21 + 4 * i = p := ⟨_, rfl⟩
            have hp2 : (21 : Int) + 4 * (i : Int) = (p : Int) := by omega
            have hlt2 : (i : Int) < 4 := by omega
            have hpb : (p : Int) ≤ 33 := by omega
            have HPL := Lib.hid (show (p0 e s f ++ put4 (l.take i)).length = p from by rw [List.length_append, p0_length, put4_length, List.length_take, HLN.out]; omega)
            clear hx hp
            go_wp2_with (first
              | (go_at_call 25; (with_reducible refine (HNU.out _).mono ?_); rintro r w7 ⟨rfl, ho7, hb7⟩; have HF7 := Lib.hid (FD.of ho7 HR.out.sz); have HR7 := Lib.hid (HR.out.next hb7); have HN7 := Lib.hid (HNR.out.keep hb7); clear ho7 hb7)
              | (refine wpl_lit1 rfl (.tmp 29) rfl _ _ _ rfl ?_; intro gl w8 hl8 hgl8 hb8; have HR8 := Lib.hid (HR7.out.next hb8.out); have HN8 := Lib.hid (HN7.out.keep hb8.out); have HRL8 := Lib.hid (rl_lit (g := w.heap.size + 2) (base := w.heap.size + 3) (n := 1) (ls := [putL x 4]) hl8.out (by omega) (Nat.le_trans HR7.out.sz hgl8.out) rfl rfl (by omega) (fd_one (HF7.out.keep hb8.out))); clear hl8 hgl8 hb8)
              | (go_at_call 23; (refine (hput_any (w.heap.size + 2) p 1 _ [putL x 4] _ _ HN8.out HRL8.out (by intro y hy; simp only [List.mem_cons, List.not_mem_nil, or_false] at hy; subst hy; rw [putL_length]; omega) (by simp [putL_length]; omega)).mono ?_); rintro r w9 ⟨rfl, hk9, hg9⟩; have HR9 := Lib.hid (HR8.out.over hg9); have HN9 := Lib.hid hk9; clear hk9 hg9))
            go_roundw
            case rel =>
              refine ⟨i + 1, by go_num, by omega, HR9, Lib.hid ?_⟩
              have h1 := HN9.out
              simp only [List.flatten_cons, List.flatten_nil, List.append_nil] at h1
              have h2 := splice_more z64 0 (p0 e s f ++ put4 (l.take i)) (putL x 4) (by rw [HPL.out, z64_length]; omega)
              rw [HPL.out, Nat.zero_add] at h2
              rw [h2, List.append_assoc, HPS.out] at h1
              exact h1
            case measure => simp [intOf]; omega
          · obtain rfl : i = 4 := by omega
            have HNF := Lib.hid (show Blk wr (w.heap.size + 2) (splice z64 0 (headP ⟨e, s, f, l⟩)) from by have h1 := HNR.out; rwa [List.take_of_length_le (by rw [HLN.out]; omega)] at h1)
            have HFIN := Lib.hid (lay_done ⟨e, s, f, l⟩ HLN.out)
            obtain ⟨L, hL⟩ : ∃ L, splice z64 0 (headP ⟨e, s, f, l⟩) = L := ⟨_, rfl⟩
            rw [hL] at HNF HFIN
            obtain ⟨m, hm⟩ : ∃ m, headS ⟨e, s, f, l⟩ = m := ⟨_, rfl⟩
            rw [hm] at HFIN
            have HSU : Hid (Calls Tryd.prog 17 #[.agg (sv L)] wr fun r w' => ∃ p, r = .returned (.slice (some ⟨p, 0, none⟩) 4 4) ∧ w'.ownsRow wr.heap.size 5 1 (.slice (some ⟨p, 0, none⟩) 4 4) 4 (il .u8 (putL m 4)) ∧ Below wr.heap.size wr w') := Lib.hid (hsum_any (HT.out.keep HR.out.below) L HNF.out.2 HFIN.out.1 (by rw [HFIN.out.2.1]; exact hm))
            obtain ⟨wz, hwz⟩ : ∃ q, q = wr := ⟨_, rfl⟩
            subst hwz
            clear hL hm
            go_wp2_with (first
              | (refine wpl_load_sec (by rfl) (.tmp 3) rfl (w.heap.size + 2) rfl L HNF.out ?_)
              | (go_at_call 17; (with_reducible refine (HSU.out).mono ?_); rintro r w7 ⟨p7, rfl, ho7, hb7⟩; have HF7 := Lib.hid (FD.of ho7 HR.out.sz); have HR7 := Lib.hid (HR.out.next hb7); have HN7 := Lib.hid (HNF.out.keep hb7); clear ho7 hb7)
              | (refine wpl_lit1 rfl (.tmp 34) rfl _ _ _ rfl ?_; intro gl w8 hl8 hgl8 hb8; have HR8 := Lib.hid (HR7.out.next hb8.out); have HN8 := Lib.hid (HN7.out.keep hb8.out); have HRL8 := Lib.hid (rl_lit (g := w.heap.size + 2) (base := w.heap.size + 3) (n := 1) (ls := [putL m 4]) hl8.out (by omega) (Nat.le_trans HR7.out.sz hgl8.out) rfl rfl (by omega) (fd_one (HF7.out.keep hb8.out))); clear hl8 hgl8 hb8)
              | (go_at_call 23; (refine (hput_any (w.heap.size + 2) 37 1 _ [putL m 4] _ _ HN8.out HRL8.out (by intro y hy; simp only [List.mem_cons, List.not_mem_nil, or_false] at hy; subst hy; rw [putL_length]; omega) (by simp [putL_length])).mono ?_); rintro r w9 ⟨rfl, hk9, hg9⟩; have HR9 := Lib.hid (HR8.out.over hg9); have HN9 := Lib.hid (show Blk w9 (w.heap.size + 2) (secH ⟨e, s, f, l⟩) from by rw [← HFIN.out.2.2]; simpa using hk9); clear hk9 hg9)
              | (refine wpl_load_sec (by rfl) (.tmp 3) rfl (w.heap.size + 2) rfl (secH ⟨e, s, f, l⟩) HN9.out ?_)
              | (refine wpl_put_sec rfl (.tmp 2) (.tmp 37) rfl (w.heap.size + 1) z64 (secH ⟨e, s, f, l⟩) HR9.out.old (secH_length HLN.out) rfl rfl ?_; intro wf HO HGF))
            refine bodyPost_ret_by (v := .agg (sv (secH ⟨e, s, f, l⟩))) (results_cell_row rfl _ _ (w.heap.size + 1) _ (sv (secH ⟨e, s, f, l⟩)) (0, 0) _ rfl HO.out.1 Tryd.underlying27 rfl (sv_info _ (secH_length HLN.out))) rfl ⟨rfl, ?_⟩
            exact hbelow_grown HR9.out.below HGF.out (by omega) HR9.out.below.size
      · skip
        go_simp
        (go_at_call 25; (refine (HPS.out _).mono ?_); rintro r w6 ⟨rfl, ho, hb⟩; (try (have q := Lib.hid (HGM.out.keep hb); clear HGM; have HGM := q; clear q)); (try (have q := Lib.hid (HM.out.keep hb); clear HM; have HM := q; clear q)); (try (have q := Lib.hid (H8.out.keep hb); clear H8; have H8 := q; clear q)); (try (have q := Lib.hid (HS4.out.keep hb); clear HS4; have HS4 := q; clear q)); (try (have q := Lib.hid (HF4.out.keep hb); clear HF4; have HF4 := q; clear q)); (try (have q := Lib.hid (HN.out.keep hb); clear HN; have HN := q; clear q)); have HS4 := Lib.hid (FD.of (base := w.heap.size + 3) ho hS.2.2.2.sz); clear ho)
        refine hK.out _ _ ?_ (fun hS1 => ?_)
        · (first | exact hS | exact hN | exact LS.all (hS.2.2.2.next hb))
        clear hK K hS; have hS := hS1; clear hS1
        (try simp only [Act.put, List.setIfInBounds_toArray, List.set_cons_zero, List.set_cons_succ])
        refine rg_both 1 10 ({ dst := some 7, op := Op.convert 42 42 (Operand.tmp 6), type := 42, pos := "sector.go:31", after := #[{ on := 0, ground := Ground.data }], guard := none } : Oper) ({ dst := some 16, op := Op.call { callee := Callee.value (Operand.func 25), args := #[Operand.tmp 15], argTypes := #[3] }, type := 42, pos := "sector.go:31", after := #[{ on := 9, ground := Ground.data }, { on := 7, ground := Ground.chain }], guard := none } : Oper) (by kernel_rfl) rfl rfl (fun K hK => ?_) (fun K hK => ?_)
        · skip
          rw [if_pos (by rfl)]; refine wp_conv_mark (.tmp 6) rfl gm rfl HGM.out ?_; intro w5b hsm hg5; have hN := LS.all (hS.2.2.2.overq hg5.out HGE.out); (try (have q := Lib.hid (H8.out.same hsm.out); clear H8; have H8 := q; clear q)); (try (have q := Lib.hid (HS4.out.same hsm.out); clear HS4; have HS4 := q; clear q)); (try (have q := Lib.hid (HF4.out.same hsm.out); clear HF4; have HF4 := q; clear q)); have HM := Lib.hid ((fd_mark (base := w.heap.size + 3) HGM.out HGE.out).same hsm.out); (have q := Lib.hid (HN.out.over hg5.out (by have := HGE.out; omega)); clear HN; have HN := q; clear q); clear HGM hsm hg5
          refine hK.out _ _ ?_ (fun hS1 => ?_)
          · (first | exact hS | exact hN | exact LS.all (hS.2.2.2.next hb))
          clear hK K hS; have hS := hS1; clear hS1
          (try simp only [Act.put, List.setIfInBounds_toArray, List.set_cons_zero, List.set_cons_succ])
          refine rg_one 10 ({ dst := some 16, op := Op.call { callee := Callee.value (Operand.func 25), args := #[Operand.tmp 15], argTypes := #[3] }, type := 42, pos := "sector.go:31", after := #[{ on := 9, ground := Ground.data }, { on := 7, ground := Ground.chain }], guard := none } : Oper) (by kernel_rfl) rfl (fun K hK => ?_)
          go_simp
          (go_at_call 25; (refine (HPF.out _).mono ?_); rintro r w7 ⟨rfl, ho, hb⟩; (try (have q := Lib.hid (HGM.out.keep hb); clear HGM; have HGM := q; clear q)); (try (have q := Lib.hid (HM.out.keep hb); clear HM; have HM := q; clear q)); (try (have q := Lib.hid (H8.out.keep hb); clear H8; have H8 := q; clear q)); (try (have q := Lib.hid (HS4.out.keep hb); clear HS4; have HS4 := q; clear q)); (try (have q := Lib.hid (HF4.out.keep hb); clear HF4; have HF4 := q; clear q)); (try (have q := Lib.hid (HN.out.keep hb); clear HN; have HN := q; clear q)); have HF4 := Lib.hid (FD.of (base := w.heap.size + 3) ho hS.2.2.2.sz); clear ho)
          refine hK.out _ _ ?_ (fun hS1 => ?_)
          · (first | exact hS | exact hN | exact LS.all (hS.2.2.2.next hb))
          clear hK K hS; have hS := hS1; clear hS1
          (try simp only [Act.put, List.setIfInBounds_toArray, List.set_cons_zero, List.set_cons_succ])
          refine rg_one 11 ({ dst := some 17, op := Op.buildSlice 59 4 #[(0, Operand.tmp 7), (1, Operand.tmp 10), (2, Operand.tmp 13), (3, Operand.tmp 16)], type := 59, pos := "sector.go:31", after := #[{ on := 1, ground := Ground.data }, { on := 4, ground := Ground.data }, { on := 7, ground := Ground.data }, { on := 10, ground := Ground.data }], guard := none } : Oper) (by kernel_rfl) rfl (fun K hK => ?_)
          rw [if_pos (by rfl)]; refine wp_lit4 (.tmp 7) (.tmp 10) (.tmp 13) (.tmp 16) rfl _ _ _ _ _ _ _ _ _ _ _ _ rfl rfl rfl rfl ?_; intro gl w8 hl hgl hb8; have hb := hb8.out; (try (have q := Lib.hid (HGM.out.keep hb); clear HGM; have HGM := q; clear q)); (try (have q := Lib.hid (HM.out.keep hb); clear HM; have HM := q; clear q)); (try (have q := Lib.hid (H8.out.keep hb); clear H8; have H8 := q; clear q)); (try (have q := Lib.hid (HS4.out.keep hb); clear HS4; have HS4 := q; clear q)); (try (have q := Lib.hid (HF4.out.keep hb); clear HF4; have HF4 := q; clear q)); (try (have q := Lib.hid (HN.out.keep hb); clear HN; have HN := q; clear q)); have HRL := Lib.hid (rl_lit (g := w.heap.size + 2) (base := w.heap.size + 3) (n := 4) (ls := [mark, putL e 8, putL s 4, putL f 4]) hl.out (by omega) (Nat.le_trans hS.2.2.2.sz hgl.out) rfl rfl (by omega) (fd_four HM.out H8.out HS4.out HF4.out)); clear hl hgl hb8
          refine hK.out _ _ ?_ (fun hS1 => ?_)
          · (first | exact hS | exact hN | exact LS.all (hS.2.2.2.next hb))
          clear hK K hS; have hS := hS1; clear hS1
          (try simp only [Act.put, List.setIfInBounds_toArray, List.set_cons_zero, List.set_cons_succ])
          refine rg_one 12 ({ dst := some 18, op := Op.call { callee := Callee.value (Operand.func 23), args := #[Operand.tmp 3, Operand.const (Value.int IntKind.i64 0), Operand.tmp 17], argTypes := #[54, 3, 59] }, type := 0, pos := "sector.go:31", after := #[{ on := 11, ground := Ground.data }, { on := 10, ground := Ground.chain }], guard := none } : Oper) (by kernel_rfl) rfl (fun K hK => ?_)
          go_simp
          (go_at_call 23; (refine (hput_any (w.heap.size + 2) 0 4 z64 [mark, putL e 8, putL s 4, putL f 4] _ _ HN.out HRL.out (by intro y hy; simp only [List.mem_cons, List.not_mem_nil, or_false] at hy; rcases hy with rfl | rfl | rfl | rfl <;> simp [putL_length, mark_length]) (by rw [p0_flat, p0_length]; omega)).mono ?_); rintro r w9 ⟨rfl, hk9, hg9⟩; have hN := LS.all (hS.2.2.2.over hg9); clear HN; have HN := Lib.hid hk9; clear hk9 hg9)
          refine hK.out _ _ ?_ (fun hS1 => ?_)
          · (first | exact hS | exact hN | exact LS.all (hS.2.2.2.next hb))
          clear hK K hS; have hS := hS1; clear hS1
          (try simp only [Act.put, List.setIfInBounds_toArray, List.set_cons_zero, List.set_cons_succ])
          refine wpAnyH_done (by kernel_rfl) ?_ _
          have HLS := Lib.hid hS.2.2.2
          have HN7 := Lib.hid HN.out
          clear hS HN HRL
          (try clear hN hb)
          (try clear HM H8 HS4 HF4 HGE)
          go_wp2_with (first
            | (refine wpl_load_l4 rfl (.tmp 19) rfl rfl HLS.out.hb ?_))
          go_loopw [21] (fun v wr => ∃ i : Nat, v = .int .i64 i ∧ i ≤ 4 ∧ Hid (LS w ⟨e, s, f, l⟩ wr) ∧ Hid (Blk wr (w.heap.size + 2) (splice z64 0 (p0 e s f ++ put4 (l.take i))))) (fun v _ => 4 - (intOf v).toNat)
          case atStart => exact ⟨0, rfl, by omega, HLS, Lib.hid (by have h1 := HN7.out; rw [p0_flat] at h1; simpa [put4] using h1)⟩
          case round =>
            obtain ⟨i, rfl, hi, HR, HNR⟩ := hrel
            by_cases hlt : i < 4
            · have hix := index_l4 l HLN.out i hlt
              obtain ⟨x, hx⟩ : ∃ x, l.getD i 0 = x := ⟨_, rfl⟩
              rw [hx] at hix
              have HXB := Lib.hid (show 0 ≤ x ∧ x ≤ 2147483647 from by rw [← hx]; exact HLB.out _ (getD_memL (by rw [HLN.out]; exact hlt)))
              have HPS := Lib.hid (put4_take l i (by rw [HLN.out]; exact hlt))
              rw [hx] at HPS
              have HNU : Hid (∀ w, Calls Tryd.prog 25 #[.int .i64 x] w fun r w' => r = .returned (.slice (some ⟨w.heap.size, 0, none⟩) 4 4) ∧ w'.ownsRow w.heap.size 5 1 (.slice (some ⟨w.heap.size, 0, none⟩) 4 4) 4 (il .u8 (putL x 4)) ∧ Below w.heap.size w w') := Lib.hid (number_any x HXB.out.1 HXB.out.2)
              obtain ⟨p, hp⟩ : ∃ p : Nat, 21 + 4 * i = p := ⟨_, rfl⟩
              have hp2 : (21 : Int) + 4 * (i : Int) = (p : Int) := by omega
              have hlt2 : (i : Int) < 4 := by omega
              have hpb : (p : Int) ≤ 33 := by omega
              have HPL := Lib.hid (show (p0 e s f ++ put4 (l.take i)).length = p from by rw [List.length_append, p0_length, put4_length, List.length_take, HLN.out]; omega)
              clear hx hp
              go_wp2_with (first
                | (go_at_call 25; (with_reducible refine (HNU.out _).mono ?_); rintro r w7 ⟨rfl, ho7, hb7⟩; have HF7 := Lib.hid (FD.of ho7 HR.out.sz); have HR7 := Lib.hid (HR.out.next hb7); have HN7 := Lib.hid (HNR.out.keep hb7); clear ho7 hb7)
                | (refine wpl_lit1 rfl (.tmp 29) rfl _ _ _ rfl ?_; intro gl w8 hl8 hgl8 hb8; have HR8 := Lib.hid (HR7.out.next hb8.out); have HN8 := Lib.hid (HN7.out.keep hb8.out); have HRL8 := Lib.hid (rl_lit (g := w.heap.size + 2) (base := w.heap.size + 3) (n := 1) (ls := [putL x 4]) hl8.out (by omega) (Nat.le_trans HR7.out.sz hgl8.out) rfl rfl (by omega) (fd_one (HF7.out.keep hb8.out))); clear hl8 hgl8 hb8)
                | (go_at_call 23; (refine (hput_any (w.heap.size + 2) p 1 _ [putL x 4] _ _ HN8.out HRL8.out (by intro y hy; simp only [List.mem_cons, List.not_mem_nil, or_false] at hy; subst hy; rw [putL_length]; omega) (by simp [putL_length]; omega)).mono ?_); rintro r w9 ⟨rfl, hk9, hg9⟩; have HR9 := Lib.hid (HR8.out.over hg9); have HN9 := Lib.hid hk9; clear hk9 hg9))
              go_roundw
              case rel =>
                refine ⟨i + 1, by go_num, by omega, HR9, Lib.hid ?_⟩
                have h1 := HN9.out
                simp only [List.flatten_cons, List.flatten_nil, List.append_nil] at h1
                have h2 := splice_more z64 0 (p0 e s f ++ put4 (l.take i)) (putL x 4) (by rw [HPL.out, z64_length]; omega)
                rw [HPL.out, Nat.zero_add] at h2
                rw [h2, List.append_assoc, HPS.out] at h1
                exact h1
              case measure => simp [intOf]; omega
            · obtain rfl : i = 4 := by omega
              have HNF := Lib.hid (show Blk wr (w.heap.size + 2) (splice z64 0 (headP ⟨e, s, f, l⟩)) from by have h1 := HNR.out; rwa [List.take_of_length_le (by rw [HLN.out]; omega)] at h1)
              have HFIN := Lib.hid (lay_done ⟨e, s, f, l⟩ HLN.out)
              obtain ⟨L, hL⟩ : ∃ L, splice z64 0 (headP ⟨e, s, f, l⟩) = L := ⟨_, rfl⟩
              rw [hL] at HNF HFIN
              obtain ⟨m, hm⟩ : ∃ m, headS ⟨e, s, f, l⟩ = m := ⟨_, rfl⟩
              rw [hm] at HFIN
              have HSU : Hid (Calls Tryd.prog 17 #[.agg (sv L)] wr fun r w' => ∃ p, r = .returned (.slice (some ⟨p, 0, none⟩) 4 4) ∧ w'.ownsRow wr.heap.size 5 1 (.slice (some ⟨p, 0, none⟩) 4 4) 4 (il .u8 (putL m 4)) ∧ Below wr.heap.size wr w') := Lib.hid (hsum_any (HT.out.keep HR.out.below) L HNF.out.2 HFIN.out.1 (by rw [HFIN.out.2.1]; exact hm))
              obtain ⟨wz, hwz⟩ : ∃ q, q = wr := ⟨_, rfl⟩
              subst hwz
              clear hL hm
              go_wp2_with (first
                | (refine wpl_load_sec (by rfl) (.tmp 3) rfl (w.heap.size + 2) rfl L HNF.out ?_)
                | (go_at_call 17; (with_reducible refine (HSU.out).mono ?_); rintro r w7 ⟨p7, rfl, ho7, hb7⟩; have HF7 := Lib.hid (FD.of ho7 HR.out.sz); have HR7 := Lib.hid (HR.out.next hb7); have HN7 := Lib.hid (HNF.out.keep hb7); clear ho7 hb7)
                | (refine wpl_lit1 rfl (.tmp 34) rfl _ _ _ rfl ?_; intro gl w8 hl8 hgl8 hb8; have HR8 := Lib.hid (HR7.out.next hb8.out); have HN8 := Lib.hid (HN7.out.keep hb8.out); have HRL8 := Lib.hid (rl_lit (g := w.heap.size + 2) (base := w.heap.size + 3) (n := 1) (ls := [putL m 4]) hl8.out (by omega) (Nat.le_trans HR7.out.sz hgl8.out) rfl rfl (by omega) (fd_one (HF7.out.keep hb8.out))); clear hl8 hgl8 hb8)
                | (go_at_call 23; (refine (hput_any (w.heap.size + 2) 37 1 _ [putL m 4] _ _ HN8.out HRL8.out (by intro y hy; simp only [List.mem_cons, List.not_mem_nil, or_false] at hy; subst hy; rw [putL_length]; omega) (by simp [putL_length])).mono ?_); rintro r w9 ⟨rfl, hk9, hg9⟩; have HR9 := Lib.hid (HR8.out.over hg9); have HN9 := Lib.hid (show Blk w9 (w.heap.size + 2) (secH ⟨e, s, f, l⟩) from by rw [← HFIN.out.2.2]; simpa using hk9); clear hk9 hg9)
                | (refine wpl_load_sec (by rfl) (.tmp 3) rfl (w.heap.size + 2) rfl (secH ⟨e, s, f, l⟩) HN9.out ?_)
                | (refine wpl_put_sec rfl (.tmp 2) (.tmp 37) rfl (w.heap.size + 1) z64 (secH ⟨e, s, f, l⟩) HR9.out.old (secH_length HLN.out) rfl rfl ?_; intro wf HO HGF))
              refine bodyPost_ret_by (v := .agg (sv (secH ⟨e, s, f, l⟩))) (results_cell_row rfl _ _ (w.heap.size + 1) _ (sv (secH ⟨e, s, f, l⟩)) (0, 0) _ rfl HO.out.1 Tryd.underlying27 rfl (sv_info _ (secH_length HLN.out))) rfl ⟨rfl, ?_⟩
              exact hbelow_grown HR9.out.below HGF.out (by omega) HR9.out.below.size
        · skip
          go_simp
          (go_at_call 25; (refine (HPF.out _).mono ?_); rintro r w7 ⟨rfl, ho, hb⟩; (try (have q := Lib.hid (HGM.out.keep hb); clear HGM; have HGM := q; clear q)); (try (have q := Lib.hid (HM.out.keep hb); clear HM; have HM := q; clear q)); (try (have q := Lib.hid (H8.out.keep hb); clear H8; have H8 := q; clear q)); (try (have q := Lib.hid (HS4.out.keep hb); clear HS4; have HS4 := q; clear q)); (try (have q := Lib.hid (HF4.out.keep hb); clear HF4; have HF4 := q; clear q)); (try (have q := Lib.hid (HN.out.keep hb); clear HN; have HN := q; clear q)); have HF4 := Lib.hid (FD.of (base := w.heap.size + 3) ho hS.2.2.2.sz); clear ho)
          refine hK.out _ _ ?_ (fun hS1 => ?_)
          · (first | exact hS | exact hN | exact LS.all (hS.2.2.2.next hb))
          clear hK K hS; have hS := hS1; clear hS1
          (try simp only [Act.put, List.setIfInBounds_toArray, List.set_cons_zero, List.set_cons_succ])
          refine rg_one 1 ({ dst := some 7, op := Op.convert 42 42 (Operand.tmp 6), type := 42, pos := "sector.go:31", after := #[{ on := 0, ground := Ground.data }], guard := none } : Oper) (by kernel_rfl) rfl (fun K hK => ?_)
          rw [if_pos (by rfl)]; refine wp_conv_mark (.tmp 6) rfl gm rfl HGM.out ?_; intro w5b hsm hg5; have hN := LS.all (hS.2.2.2.overq hg5.out HGE.out); (try (have q := Lib.hid (H8.out.same hsm.out); clear H8; have H8 := q; clear q)); (try (have q := Lib.hid (HS4.out.same hsm.out); clear HS4; have HS4 := q; clear q)); (try (have q := Lib.hid (HF4.out.same hsm.out); clear HF4; have HF4 := q; clear q)); have HM := Lib.hid ((fd_mark (base := w.heap.size + 3) HGM.out HGE.out).same hsm.out); (have q := Lib.hid (HN.out.over hg5.out (by have := HGE.out; omega)); clear HN; have HN := q; clear q); clear HGM hsm hg5
          refine hK.out _ _ ?_ (fun hS1 => ?_)
          · (first | exact hS | exact hN | exact LS.all (hS.2.2.2.next hb))
          clear hK K hS; have hS := hS1; clear hS1
          (try simp only [Act.put, List.setIfInBounds_toArray, List.set_cons_zero, List.set_cons_succ])
          refine rg_one 11 ({ dst := some 17, op := Op.buildSlice 59 4 #[(0, Operand.tmp 7), (1, Operand.tmp 10), (2, Operand.tmp 13), (3, Operand.tmp 16)], type := 59, pos := "sector.go:31", after := #[{ on := 1, ground := Ground.data }, { on := 4, ground := Ground.data }, { on := 7, ground := Ground.data }, { on := 10, ground := Ground.data }], guard := none } : Oper) (by kernel_rfl) rfl (fun K hK => ?_)
          rw [if_pos (by rfl)]; refine wp_lit4 (.tmp 7) (.tmp 10) (.tmp 13) (.tmp 16) rfl _ _ _ _ _ _ _ _ _ _ _ _ rfl rfl rfl rfl ?_; intro gl w8 hl hgl hb8; have hb := hb8.out; (try (have q := Lib.hid (HGM.out.keep hb); clear HGM; have HGM := q; clear q)); (try (have q := Lib.hid (HM.out.keep hb); clear HM; have HM := q; clear q)); (try (have q := Lib.hid (H8.out.keep hb); clear H8; have H8 := q; clear q)); (try (have q := Lib.hid (HS4.out.keep hb); clear HS4; have HS4 := q; clear q)); (try (have q := Lib.hid (HF4.out.keep hb); clear HF4; have HF4 := q; clear q)); (try (have q := Lib.hid (HN.out.keep hb); clear HN; have HN := q; clear q)); have HRL := Lib.hid (rl_lit (g := w.heap.size + 2) (base := w.heap.size + 3) (n := 4) (ls := [mark, putL e 8, putL s 4, putL f 4]) hl.out (by omega) (Nat.le_trans hS.2.2.2.sz hgl.out) rfl rfl (by omega) (fd_four HM.out H8.out HS4.out HF4.out)); clear hl hgl hb8
          refine hK.out _ _ ?_ (fun hS1 => ?_)
          · (first | exact hS | exact hN | exact LS.all (hS.2.2.2.next hb))
          clear hK K hS; have hS := hS1; clear hS1
          (try simp only [Act.put, List.setIfInBounds_toArray, List.set_cons_zero, List.set_cons_succ])
          refine rg_one 12 ({ dst := some 18, op := Op.call { callee := Callee.value (Operand.func 23), args := #[Operand.tmp 3, Operand.const (Value.int IntKind.i64 0), Operand.tmp 17], argTypes := #[54, 3, 59] }, type := 0, pos := "sector.go:31", after := #[{ on := 11, ground := Ground.data }, { on := 10, ground := Ground.chain }], guard := none } : Oper) (by kernel_rfl) rfl (fun K hK => ?_)
          go_simp
          (go_at_call 23; (refine (hput_any (w.heap.size + 2) 0 4 z64 [mark, putL e 8, putL s 4, putL f 4] _ _ HN.out HRL.out (by intro y hy; simp only [List.mem_cons, List.not_mem_nil, or_false] at hy; rcases hy with rfl | rfl | rfl | rfl <;> simp [putL_length, mark_length]) (by rw [p0_flat, p0_length]; omega)).mono ?_); rintro r w9 ⟨rfl, hk9, hg9⟩; have hN := LS.all (hS.2.2.2.over hg9); clear HN; have HN := Lib.hid hk9; clear hk9 hg9)
          refine hK.out _ _ ?_ (fun hS1 => ?_)
          · (first | exact hS | exact hN | exact LS.all (hS.2.2.2.next hb))
          clear hK K hS; have hS := hS1; clear hS1
          (try simp only [Act.put, List.setIfInBounds_toArray, List.set_cons_zero, List.set_cons_succ])
          refine wpAnyH_done (by kernel_rfl) ?_ _
          have HLS := Lib.hid hS.2.2.2
          have HN7 := Lib.hid HN.out
          clear hS HN HRL
          (try clear hN hb)
          (try clear HM H8 HS4 HF4 HGE)
          go_wp2_with (first
            | (refine wpl_load_l4 rfl (.tmp 19) rfl rfl HLS.out.hb ?_))
          go_loopw [21] (fun v wr => ∃ i : Nat, v = .int .i64 i ∧ i ≤ 4 ∧ Hid (LS w ⟨e, s, f, l⟩ wr) ∧ Hid (Blk wr (w.heap.size + 2) (splice z64 0 (p0 e s f ++ put4 (l.take i))))) (fun v _ => 4 - (intOf v).toNat)
          case atStart => exact ⟨0, rfl, by omega, HLS, Lib.hid (by have h1 := HN7.out; rw [p0_flat] at h1; simpa [put4] using h1)⟩
          case round =>
            obtain ⟨i, rfl, hi, HR, HNR⟩ := hrel
            by_cases hlt : i < 4
            · have hix := index_l4 l HLN.out i hlt
              obtain ⟨x, hx⟩ : ∃ x, l.getD i 0 = x := ⟨_, rfl⟩
              rw [hx] at hix
              have HXB := Lib.hid (show 0 ≤ x ∧ x ≤ 2147483647 from by rw [← hx]; exact HLB.out _ (getD_memL (by rw [HLN.out]; exact hlt)))
              have HPS := Lib.hid (put4_take l i (by rw [HLN.out]; exact hlt))
              rw [hx] at HPS
              have HNU : Hid (∀ w, Calls Tryd.prog 25 #[.int .i64 x] w fun r w' => r = .returned (.slice (some ⟨w.heap.size, 0, none⟩) 4 4) ∧ w'.ownsRow w.heap.size 5 1 (.slice (some ⟨w.heap.size, 0, none⟩) 4 4) 4 (il .u8 (putL x 4)) ∧ Below w.heap.size w w') := Lib.hid (number_any x HXB.out.1 HXB.out.2)
              obtain ⟨p, hp⟩ : ∃ p : Nat, 21 + 4 * i = p := ⟨_, rfl⟩
              have hp2 : (21 : Int) + 4 * (i : Int) = (p : Int) := by omega
              have hlt2 : (i : Int) < 4 := by omega
              have hpb : (p : Int) ≤ 33 := by omega
              have HPL := Lib.hid (show (p0 e s f ++ put4 (l.take i)).length = p from by rw [List.length_append, p0_length, put4_length, List.length_take, HLN.out]; omega)
              clear hx hp
              go_wp2_with (first
                | (go_at_call 25; (with_reducible refine (HNU.out _).mono ?_); rintro r w7 ⟨rfl, ho7, hb7⟩; have HF7 := Lib.hid (FD.of ho7 HR.out.sz); have HR7 := Lib.hid (HR.out.next hb7); have HN7 := Lib.hid (HNR.out.keep hb7); clear ho7 hb7)
                | (refine wpl_lit1 rfl (.tmp 29) rfl _ _ _ rfl ?_; intro gl w8 hl8 hgl8 hb8; have HR8 := Lib.hid (HR7.out.next hb8.out); have HN8 := Lib.hid (HN7.out.keep hb8.out); have HRL8 := Lib.hid (rl_lit (g := w.heap.size + 2) (base := w.heap.size + 3) (n := 1) (ls := [putL x 4]) hl8.out (by omega) (Nat.le_trans HR7.out.sz hgl8.out) rfl rfl (by omega) (fd_one (HF7.out.keep hb8.out))); clear hl8 hgl8 hb8)
                | (go_at_call 23; (refine (hput_any (w.heap.size + 2) p 1 _ [putL x 4] _ _ HN8.out HRL8.out (by intro y hy; simp only [List.mem_cons, List.not_mem_nil, or_false] at hy; subst hy; rw [putL_length]; omega) (by simp [putL_length]; omega)).mono ?_); rintro r w9 ⟨rfl, hk9, hg9⟩; have HR9 := Lib.hid (HR8.out.over hg9); have HN9 := Lib.hid hk9; clear hk9 hg9))
              go_roundw
              case rel =>
                refine ⟨i + 1, by go_num, by omega, HR9, Lib.hid ?_⟩
                have h1 := HN9.out
                simp only [List.flatten_cons, List.flatten_nil, List.append_nil] at h1
                have h2 := splice_more z64 0 (p0 e s f ++ put4 (l.take i)) (putL x 4) (by rw [HPL.out, z64_length]; omega)
                rw [HPL.out, Nat.zero_add] at h2
                rw [h2, List.append_assoc, HPS.out] at h1
                exact h1
              case measure => simp [intOf]; omega
            · obtain rfl : i = 4 := by omega
              have HNF := Lib.hid (show Blk wr (w.heap.size + 2) (splice z64 0 (headP ⟨e, s, f, l⟩)) from by have h1 := HNR.out; rwa [List.take_of_length_le (by rw [HLN.out]; omega)] at h1)
              have HFIN := Lib.hid (lay_done ⟨e, s, f, l⟩ HLN.out)
              obtain ⟨L, hL⟩ : ∃ L, splice z64 0 (headP ⟨e, s, f, l⟩) = L := ⟨_, rfl⟩
              rw [hL] at HNF HFIN
              obtain ⟨m, hm⟩ : ∃ m, headS ⟨e, s, f, l⟩ = m := ⟨_, rfl⟩
              rw [hm] at HFIN
              have HSU : Hid (Calls Tryd.prog 17 #[.agg (sv L)] wr fun r w' => ∃ p, r = .returned (.slice (some ⟨p, 0, none⟩) 4 4) ∧ w'.ownsRow wr.heap.size 5 1 (.slice (some ⟨p, 0, none⟩) 4 4) 4 (il .u8 (putL m 4)) ∧ Below wr.heap.size wr w') := Lib.hid (hsum_any (HT.out.keep HR.out.below) L HNF.out.2 HFIN.out.1 (by rw [HFIN.out.2.1]; exact hm))
              obtain ⟨wz, hwz⟩ : ∃ q, q = wr := ⟨_, rfl⟩
              subst hwz
              clear hL hm
              go_wp2_with (first
                | (refine wpl_load_sec (by rfl) (.tmp 3) rfl (w.heap.size + 2) rfl L HNF.out ?_)
                | (go_at_call 17; (with_reducible refine (HSU.out).mono ?_); rintro r w7 ⟨p7, rfl, ho7, hb7⟩; have HF7 := Lib.hid (FD.of ho7 HR.out.sz); have HR7 := Lib.hid (HR.out.next hb7); have HN7 := Lib.hid (HNF.out.keep hb7); clear ho7 hb7)
                | (refine wpl_lit1 rfl (.tmp 34) rfl _ _ _ rfl ?_; intro gl w8 hl8 hgl8 hb8; have HR8 := Lib.hid (HR7.out.next hb8.out); have HN8 := Lib.hid (HN7.out.keep hb8.out); have HRL8 := Lib.hid (rl_lit (g := w.heap.size + 2) (base := w.heap.size + 3) (n := 1) (ls := [putL m 4]) hl8.out (by omega) (Nat.le_trans HR7.out.sz hgl8.out) rfl rfl (by omega) (fd_one (HF7.out.keep hb8.out))); clear hl8 hgl8 hb8)
                | (go_at_call 23; (refine (hput_any (w.heap.size + 2) 37 1 _ [putL m 4] _ _ HN8.out HRL8.out (by intro y hy; simp only [List.mem_cons, List.not_mem_nil, or_false] at hy; subst hy; rw [putL_length]; omega) (by simp [putL_length])).mono ?_); rintro r w9 ⟨rfl, hk9, hg9⟩; have HR9 := Lib.hid (HR8.out.over hg9); have HN9 := Lib.hid (show Blk w9 (w.heap.size + 2) (secH ⟨e, s, f, l⟩) from by rw [← HFIN.out.2.2]; simpa using hk9); clear hk9 hg9)
                | (refine wpl_load_sec (by rfl) (.tmp 3) rfl (w.heap.size + 2) rfl (secH ⟨e, s, f, l⟩) HN9.out ?_)
                | (refine wpl_put_sec rfl (.tmp 2) (.tmp 37) rfl (w.heap.size + 1) z64 (secH ⟨e, s, f, l⟩) HR9.out.old (secH_length HLN.out) rfl rfl ?_; intro wf HO HGF))
              refine bodyPost_ret_by (v := .agg (sv (secH ⟨e, s, f, l⟩))) (results_cell_row rfl _ _ (w.heap.size + 1) _ (sv (secH ⟨e, s, f, l⟩)) (0, 0) _ rfl HO.out.1 Tryd.underlying27 rfl (sv_info _ (secH_length HLN.out))) rfl ⟨rfl, ?_⟩
              exact hbelow_grown HR9.out.below HGF.out (by omega) HR9.out.below.size
  · skip
    go_simp
    (go_at_call 24; (refine (HP8.out _).mono ?_); rintro r w4 ⟨rfl, ho, hb⟩; (try (have q := Lib.hid (HGM.out.keep hb); clear HGM; have HGM := q; clear q)); (try (have q := Lib.hid (HM.out.keep hb); clear HM; have HM := q; clear q)); (try (have q := Lib.hid (H8.out.keep hb); clear H8; have H8 := q; clear q)); (try (have q := Lib.hid (HS4.out.keep hb); clear HS4; have HS4 := q; clear q)); (try (have q := Lib.hid (HF4.out.keep hb); clear HF4; have HF4 := q; clear q)); (try (have q := Lib.hid (HN.out.keep hb); clear HN; have HN := q; clear q)); have H8 := Lib.hid (FD.of (base := w.heap.size + 3) ho hS.2.2.2.sz); clear ho)
    refine hK.out _ _ ?_ (fun hS1 => ?_)
    · (first | exact hS | exact hN | exact LS.all (hS.2.2.2.next hb))
    clear hK K hS; have hS := hS1; clear hS1
    (try simp only [Act.put, List.setIfInBounds_toArray, List.set_cons_zero, List.set_cons_succ])
    refine rg_both 0 7 ({ dst := some 6, op := Op.buildSlice 42 5 #[(0, Operand.const (Value.int IntKind.u8 115)), (1, Operand.const (Value.int IntKind.u8 116)), (2, Operand.const (Value.int IntKind.u8 114)), (3, Operand.const (Value.int IntKind.u8 100)), (4, Operand.const (Value.int IntKind.u8 1))], type := 42, pos := "sector.go:31", after := #[], guard := none } : Oper) ({ dst := some 13, op := Op.call { callee := Callee.value (Operand.func 25), args := #[Operand.tmp 12], argTypes := #[3] }, type := 42, pos := "sector.go:31", after := #[{ on := 6, ground := Ground.data }, { on := 4, ground := Ground.chain }], guard := none } : Oper) (by kernel_rfl) rfl rfl (fun K hK => ?_) (fun K hK => ?_)
    · skip
      rw [if_pos (by rfl)]; refine wp_mark rfl ?_; intro gm w5 hm hgm5 hb5; have hb := hb5.out; (try (have q := Lib.hid (HGM.out.keep hb); clear HGM; have HGM := q; clear q)); (try (have q := Lib.hid (HM.out.keep hb); clear HM; have HM := q; clear q)); (try (have q := Lib.hid (H8.out.keep hb); clear H8; have H8 := q; clear q)); (try (have q := Lib.hid (HS4.out.keep hb); clear HS4; have HS4 := q; clear q)); (try (have q := Lib.hid (HF4.out.keep hb); clear HF4; have HF4 := q; clear q)); (try (have q := Lib.hid (HN.out.keep hb); clear HN; have HN := q; clear q)); have HGM := hm; have HGE := Lib.hid (Nat.le_trans hS.2.2.2.sz hgm5.out); clear hm hb5 hgm5
      refine hK.out _ _ ?_ (fun hS1 => ?_)
      · (first | exact hS | exact hN | exact LS.all (hS.2.2.2.next hb))
      clear hK K hS; have hS := hS1; clear hS1
      (try simp only [Act.put, List.setIfInBounds_toArray, List.set_cons_zero, List.set_cons_succ])
      refine rg_both 1 7 ({ dst := some 7, op := Op.convert 42 42 (Operand.tmp 6), type := 42, pos := "sector.go:31", after := #[{ on := 0, ground := Ground.data }], guard := none } : Oper) ({ dst := some 13, op := Op.call { callee := Callee.value (Operand.func 25), args := #[Operand.tmp 12], argTypes := #[3] }, type := 42, pos := "sector.go:31", after := #[{ on := 6, ground := Ground.data }, { on := 4, ground := Ground.chain }], guard := none } : Oper) (by kernel_rfl) rfl rfl (fun K hK => ?_) (fun K hK => ?_)
      · skip
        rw [if_pos (by rfl)]; refine wp_conv_mark (.tmp 6) rfl gm rfl HGM.out ?_; intro w5b hsm hg5; have hN := LS.all (hS.2.2.2.overq hg5.out HGE.out); (try (have q := Lib.hid (H8.out.same hsm.out); clear H8; have H8 := q; clear q)); (try (have q := Lib.hid (HS4.out.same hsm.out); clear HS4; have HS4 := q; clear q)); (try (have q := Lib.hid (HF4.out.same hsm.out); clear HF4; have HF4 := q; clear q)); have HM := Lib.hid ((fd_mark (base := w.heap.size + 3) HGM.out HGE.out).same hsm.out); (have q := Lib.hid (HN.out.over hg5.out (by have := HGE.out; omega)); clear HN; have HN := q; clear q); clear HGM hsm hg5
        refine hK.out _ _ ?_ (fun hS1 => ?_)
        · (first | exact hS | exact hN | exact LS.all (hS.2.2.2.next hb))
        clear hK K hS; have hS := hS1; clear hS1
        (try simp only [Act.put, List.setIfInBounds_toArray, List.set_cons_zero, List.set_cons_succ])
        refine rg_one 7 ({ dst := some 13, op := Op.call { callee := Callee.value (Operand.func 25), args := #[Operand.tmp 12], argTypes := #[3] }, type := 42, pos := "sector.go:31", after := #[{ on := 6, ground := Ground.data }, { on := 4, ground := Ground.chain }], guard := none } : Oper) (by kernel_rfl) rfl (fun K hK => ?_)
        go_simp
        (go_at_call 25; (refine (HPS.out _).mono ?_); rintro r w6 ⟨rfl, ho, hb⟩; (try (have q := Lib.hid (HGM.out.keep hb); clear HGM; have HGM := q; clear q)); (try (have q := Lib.hid (HM.out.keep hb); clear HM; have HM := q; clear q)); (try (have q := Lib.hid (H8.out.keep hb); clear H8; have H8 := q; clear q)); (try (have q := Lib.hid (HS4.out.keep hb); clear HS4; have HS4 := q; clear q)); (try (have q := Lib.hid (HF4.out.keep hb); clear HF4; have HF4 := q; clear q)); (try (have q := Lib.hid (HN.out.keep hb); clear HN; have HN := q; clear q)); have HS4 := Lib.hid (FD.of (base := w.heap.size + 3) ho hS.2.2.2.sz); clear ho)
        refine hK.out _ _ ?_ (fun hS1 => ?_)
        · (first | exact hS | exact hN | exact LS.all (hS.2.2.2.next hb))
        clear hK K hS; have hS := hS1; clear hS1
        (try simp only [Act.put, List.setIfInBounds_toArray, List.set_cons_zero, List.set_cons_succ])
        refine rg_one 10 ({ dst := some 16, op := Op.call { callee := Callee.value (Operand.func 25), args := #[Operand.tmp 15], argTypes := #[3] }, type := 42, pos := "sector.go:31", after := #[{ on := 9, ground := Ground.data }, { on := 7, ground := Ground.chain }], guard := none } : Oper) (by kernel_rfl) rfl (fun K hK => ?_)
        go_simp
        (go_at_call 25; (refine (HPF.out _).mono ?_); rintro r w7 ⟨rfl, ho, hb⟩; (try (have q := Lib.hid (HGM.out.keep hb); clear HGM; have HGM := q; clear q)); (try (have q := Lib.hid (HM.out.keep hb); clear HM; have HM := q; clear q)); (try (have q := Lib.hid (H8.out.keep hb); clear H8; have H8 := q; clear q)); (try (have q := Lib.hid (HS4.out.keep hb); clear HS4; have HS4 := q; clear q)); (try (have q := Lib.hid (HF4.out.keep hb); clear HF4; have HF4 := q; clear q)); (try (have q := Lib.hid (HN.out.keep hb); clear HN; have HN := q; clear q)); have HF4 := Lib.hid (FD.of (base := w.heap.size + 3) ho hS.2.2.2.sz); clear ho)
        refine hK.out _ _ ?_ (fun hS1 => ?_)
        · (first | exact hS | exact hN | exact LS.all (hS.2.2.2.next hb))
        clear hK K hS; have hS := hS1; clear hS1
        (try simp only [Act.put, List.setIfInBounds_toArray, List.set_cons_zero, List.set_cons_succ])
        refine rg_one 11 ({ dst := some 17, op := Op.buildSlice 59 4 #[(0, Operand.tmp 7), (1, Operand.tmp 10), (2, Operand.tmp 13), (3, Operand.tmp 16)], type := 59, pos := "sector.go:31", after := #[{ on := 1, ground := Ground.data }, { on := 4, ground := Ground.data }, { on := 7, ground := Ground.data }, { on := 10, ground := Ground.data }], guard := none } : Oper) (by kernel_rfl) rfl (fun K hK => ?_)
        rw [if_pos (by rfl)]; refine wp_lit4 (.tmp 7) (.tmp 10) (.tmp 13) (.tmp 16) rfl _ _ _ _ _ _ _ _ _ _ _ _ rfl rfl rfl rfl ?_; intro gl w8 hl hgl hb8; have hb := hb8.out; (try (have q := Lib.hid (HGM.out.keep hb); clear HGM; have HGM := q; clear q)); (try (have q := Lib.hid (HM.out.keep hb); clear HM; have HM := q; clear q)); (try (have q := Lib.hid (H8.out.keep hb); clear H8; have H8 := q; clear q)); (try (have q := Lib.hid (HS4.out.keep hb); clear HS4; have HS4 := q; clear q)); (try (have q := Lib.hid (HF4.out.keep hb); clear HF4; have HF4 := q; clear q)); (try (have q := Lib.hid (HN.out.keep hb); clear HN; have HN := q; clear q)); have HRL := Lib.hid (rl_lit (g := w.heap.size + 2) (base := w.heap.size + 3) (n := 4) (ls := [mark, putL e 8, putL s 4, putL f 4]) hl.out (by omega) (Nat.le_trans hS.2.2.2.sz hgl.out) rfl rfl (by omega) (fd_four HM.out H8.out HS4.out HF4.out)); clear hl hgl hb8
        refine hK.out _ _ ?_ (fun hS1 => ?_)
        · (first | exact hS | exact hN | exact LS.all (hS.2.2.2.next hb))
        clear hK K hS; have hS := hS1; clear hS1
        (try simp only [Act.put, List.setIfInBounds_toArray, List.set_cons_zero, List.set_cons_succ])
        refine rg_one 12 ({ dst := some 18, op := Op.call { callee := Callee.value (Operand.func 23), args := #[Operand.tmp 3, Operand.const (Value.int IntKind.i64 0), Operand.tmp 17], argTypes := #[54, 3, 59] }, type := 0, pos := "sector.go:31", after := #[{ on := 11, ground := Ground.data }, { on := 10, ground := Ground.chain }], guard := none } : Oper) (by kernel_rfl) rfl (fun K hK => ?_)
        go_simp
        (go_at_call 23; (refine (hput_any (w.heap.size + 2) 0 4 z64 [mark, putL e 8, putL s 4, putL f 4] _ _ HN.out HRL.out (by intro y hy; simp only [List.mem_cons, List.not_mem_nil, or_false] at hy; rcases hy with rfl | rfl | rfl | rfl <;> simp [putL_length, mark_length]) (by rw [p0_flat, p0_length]; omega)).mono ?_); rintro r w9 ⟨rfl, hk9, hg9⟩; have hN := LS.all (hS.2.2.2.over hg9); clear HN; have HN := Lib.hid hk9; clear hk9 hg9)
        refine hK.out _ _ ?_ (fun hS1 => ?_)
        · (first | exact hS | exact hN | exact LS.all (hS.2.2.2.next hb))
        clear hK K hS; have hS := hS1; clear hS1
        (try simp only [Act.put, List.setIfInBounds_toArray, List.set_cons_zero, List.set_cons_succ])
        refine wpAnyH_done (by kernel_rfl) ?_ _
        have HLS := Lib.hid hS.2.2.2
        have HN7 := Lib.hid HN.out
        clear hS HN HRL
        (try clear hN hb)
        (try clear HM H8 HS4 HF4 HGE)
        go_wp2_with (first
          | (refine wpl_load_l4 rfl (.tmp 19) rfl rfl HLS.out.hb ?_))
        go_loopw [21] (fun v wr => ∃ i : Nat, v = .int .i64 i ∧ i ≤ 4 ∧ Hid (LS w ⟨e, s, f, l⟩ wr) ∧ Hid (Blk wr (w.heap.size + 2) (splice z64 0 (p0 e s f ++ put4 (l.take i))))) (fun v _ => 4 - (intOf v).toNat)
        case atStart => exact ⟨0, rfl, by omega, HLS, Lib.hid (by have h1 := HN7.out; rw [p0_flat] at h1; simpa [put4] using h1)⟩
        case round =>
          obtain ⟨i, rfl, hi, HR, HNR⟩ := hrel
          by_cases hlt : i < 4
          · have hix := index_l4 l HLN.out i hlt
            obtain ⟨x, hx⟩ : ∃ x, l.getD i 0 = x := ⟨_, rfl⟩
            rw [hx] at hix
            have HXB := Lib.hid (show 0 ≤ x ∧ x ≤ 2147483647 from by rw [← hx]; exact HLB.out _ (getD_memL (by rw [HLN.out]; exact hlt)))
            have HPS := Lib.hid (put4_take l i (by rw [HLN.out]; exact hlt))
            rw [hx] at HPS
            have HNU : Hid (∀ w, Calls Tryd.prog 25 #[.int .i64 x] w fun r w' => r = .returned (.slice (some ⟨w.heap.size, 0, none⟩) 4 4) ∧ w'.ownsRow w.heap.size 5 1 (.slice (some ⟨w.heap.size, 0, none⟩) 4 4) 4 (il .u8 (putL x 4)) ∧ Below w.heap.size w w') := Lib.hid (number_any x HXB.out.1 HXB.out.2)
            obtain ⟨p, hp⟩ : ∃ p : Nat, 21 + 4 * i = p := ⟨_, rfl⟩
            have hp2 : (21 : Int) + 4 * (i : Int) = (p : Int) := by omega
            have hlt2 : (i : Int) < 4 := by omega
            have hpb : (p : Int) ≤ 33 := by omega
            have HPL := Lib.hid (show (p0 e s f ++ put4 (l.take i)).length = p from by rw [List.length_append, p0_length, put4_length, List.length_take, HLN.out]; omega)
            clear hx hp
            go_wp2_with (first
              | (go_at_call 25; (with_reducible refine (HNU.out _).mono ?_); rintro r w7 ⟨rfl, ho7, hb7⟩; have HF7 := Lib.hid (FD.of ho7 HR.out.sz); have HR7 := Lib.hid (HR.out.next hb7); have HN7 := Lib.hid (HNR.out.keep hb7); clear ho7 hb7)
              | (refine wpl_lit1 rfl (.tmp 29) rfl _ _ _ rfl ?_; intro gl w8 hl8 hgl8 hb8; have HR8 := Lib.hid (HR7.out.next hb8.out); have HN8 := Lib.hid (HN7.out.keep hb8.out); have HRL8 := Lib.hid (rl_lit (g := w.heap.size + 2) (base := w.heap.size + 3) (n := 1) (ls := [putL x 4]) hl8.out (by omega) (Nat.le_trans HR7.out.sz hgl8.out) rfl rfl (by omega) (fd_one (HF7.out.keep hb8.out))); clear hl8 hgl8 hb8)
              | (go_at_call 23; (refine (hput_any (w.heap.size + 2) p 1 _ [putL x 4] _ _ HN8.out HRL8.out (by intro y hy; simp only [List.mem_cons, List.not_mem_nil, or_false] at hy; subst hy; rw [putL_length]; omega) (by simp [putL_length]; omega)).mono ?_); rintro r w9 ⟨rfl, hk9, hg9⟩; have HR9 := Lib.hid (HR8.out.over hg9); have HN9 := Lib.hid hk9; clear hk9 hg9))
            go_roundw
            case rel =>
              refine ⟨i + 1, by go_num, by omega, HR9, Lib.hid ?_⟩
              have h1 := HN9.out
              simp only [List.flatten_cons, List.flatten_nil, List.append_nil] at h1
              have h2 := splice_more z64 0 (p0 e s f ++ put4 (l.take i)) (putL x 4) (by rw [HPL.out, z64_length]; omega)
              rw [HPL.out, Nat.zero_add] at h2
              rw [h2, List.append_assoc, HPS.out] at h1
              exact h1
            case measure => simp [intOf]; omega
          · obtain rfl : i = 4 := by omega
            have HNF := Lib.hid (show Blk wr (w.heap.size + 2) (splice z64 0 (headP ⟨e, s, f, l⟩)) from by have h1 := HNR.out; rwa [List.take_of_length_le (by rw [HLN.out]; omega)] at h1)
            have HFIN := Lib.hid (lay_done ⟨e, s, f, l⟩ HLN.out)
            obtain ⟨L, hL⟩ : ∃ L, splice z64 0 (headP ⟨e, s, f, l⟩) = L := ⟨_, rfl⟩
            rw [hL] at HNF HFIN
            obtain ⟨m, hm⟩ : ∃ m, headS ⟨e, s, f, l⟩ = m := ⟨_, rfl⟩
            rw [hm] at HFIN
            have HSU : Hid (Calls Tryd.prog 17 #[.agg (sv L)] wr fun r w' => ∃ p, r = .returned (.slice (some ⟨p, 0, none⟩) 4 4) ∧ w'.ownsRow wr.heap.size 5 1 (.slice (some ⟨p, 0, none⟩) 4 4) 4 (il .u8 (putL m 4)) ∧ Below wr.heap.size wr w') := Lib.hid (hsum_any (HT.out.keep HR.out.below) L HNF.out.2 HFIN.out.1 (by rw [HFIN.out.2.1]; exact hm))
            obtain ⟨wz, hwz⟩ : ∃ q, q = wr := ⟨_, rfl⟩
            subst hwz
            clear hL hm
            go_wp2_with (first
              | (refine wpl_load_sec (by rfl) (.tmp 3) rfl (w.heap.size + 2) rfl L HNF.out ?_)
              | (go_at_call 17; (with_reducible refine (HSU.out).mono ?_); rintro r w7 ⟨p7, rfl, ho7, hb7⟩; have HF7 := Lib.hid (FD.of ho7 HR.out.sz); have HR7 := Lib.hid (HR.out.next hb7); have HN7 := Lib.hid (HNF.out.keep hb7); clear ho7 hb7)
              | (refine wpl_lit1 rfl (.tmp 34) rfl _ _ _ rfl ?_; intro gl w8 hl8 hgl8 hb8; have HR8 := Lib.hid (HR7.out.next hb8.out); have HN8 := Lib.hid (HN7.out.keep hb8.out); have HRL8 := Lib.hid (rl_lit (g := w.heap.size + 2) (base := w.heap.size + 3) (n := 1) (ls := [putL m 4]) hl8.out (by omega) (Nat.le_trans HR7.out.sz hgl8.out) rfl rfl (by omega) (fd_one (HF7.out.keep hb8.out))); clear hl8 hgl8 hb8)
              | (go_at_call 23; (refine (hput_any (w.heap.size + 2) 37 1 _ [putL m 4] _ _ HN8.out HRL8.out (by intro y hy; simp only [List.mem_cons, List.not_mem_nil, or_false] at hy; subst hy; rw [putL_length]; omega) (by simp [putL_length])).mono ?_); rintro r w9 ⟨rfl, hk9, hg9⟩; have HR9 := Lib.hid (HR8.out.over hg9); have HN9 := Lib.hid (show Blk w9 (w.heap.size + 2) (secH ⟨e, s, f, l⟩) from by rw [← HFIN.out.2.2]; simpa using hk9); clear hk9 hg9)
              | (refine wpl_load_sec (by rfl) (.tmp 3) rfl (w.heap.size + 2) rfl (secH ⟨e, s, f, l⟩) HN9.out ?_)
              | (refine wpl_put_sec rfl (.tmp 2) (.tmp 37) rfl (w.heap.size + 1) z64 (secH ⟨e, s, f, l⟩) HR9.out.old (secH_length HLN.out) rfl rfl ?_; intro wf HO HGF))
            refine bodyPost_ret_by (v := .agg (sv (secH ⟨e, s, f, l⟩))) (results_cell_row rfl _ _ (w.heap.size + 1) _ (sv (secH ⟨e, s, f, l⟩)) (0, 0) _ rfl HO.out.1 Tryd.underlying27 rfl (sv_info _ (secH_length HLN.out))) rfl ⟨rfl, ?_⟩
            exact hbelow_grown HR9.out.below HGF.out (by omega) HR9.out.below.size
      · skip
        go_simp
        (go_at_call 25; (refine (HPS.out _).mono ?_); rintro r w6 ⟨rfl, ho, hb⟩; (try (have q := Lib.hid (HGM.out.keep hb); clear HGM; have HGM := q; clear q)); (try (have q := Lib.hid (HM.out.keep hb); clear HM; have HM := q; clear q)); (try (have q := Lib.hid (H8.out.keep hb); clear H8; have H8 := q; clear q)); (try (have q := Lib.hid (HS4.out.keep hb); clear HS4; have HS4 := q; clear q)); (try (have q := Lib.hid (HF4.out.keep hb); clear HF4; have HF4 := q; clear q)); (try (have q := Lib.hid (HN.out.keep hb); clear HN; have HN := q; clear q)); have HS4 := Lib.hid (FD.of (base := w.heap.size + 3) ho hS.2.2.2.sz); clear ho)
        refine hK.out _ _ ?_ (fun hS1 => ?_)
        · (first | exact hS | exact hN | exact LS.all (hS.2.2.2.next hb))
        clear hK K hS; have hS := hS1; clear hS1
        (try simp only [Act.put, List.setIfInBounds_toArray, List.set_cons_zero, List.set_cons_succ])
        refine rg_both 1 10 ({ dst := some 7, op := Op.convert 42 42 (Operand.tmp 6), type := 42, pos := "sector.go:31", after := #[{ on := 0, ground := Ground.data }], guard := none } : Oper) ({ dst := some 16, op := Op.call { callee := Callee.value (Operand.func 25), args := #[Operand.tmp 15], argTypes := #[3] }, type := 42, pos := "sector.go:31", after := #[{ on := 9, ground := Ground.data }, { on := 7, ground := Ground.chain }], guard := none } : Oper) (by kernel_rfl) rfl rfl (fun K hK => ?_) (fun K hK => ?_)
        · skip
          rw [if_pos (by rfl)]; refine wp_conv_mark (.tmp 6) rfl gm rfl HGM.out ?_; intro w5b hsm hg5; have hN := LS.all (hS.2.2.2.overq hg5.out HGE.out); (try (have q := Lib.hid (H8.out.same hsm.out); clear H8; have H8 := q; clear q)); (try (have q := Lib.hid (HS4.out.same hsm.out); clear HS4; have HS4 := q; clear q)); (try (have q := Lib.hid (HF4.out.same hsm.out); clear HF4; have HF4 := q; clear q)); have HM := Lib.hid ((fd_mark (base := w.heap.size + 3) HGM.out HGE.out).same hsm.out); (have q := Lib.hid (HN.out.over hg5.out (by have := HGE.out; omega)); clear HN; have HN := q; clear q); clear HGM hsm hg5
          refine hK.out _ _ ?_ (fun hS1 => ?_)
          · (first | exact hS | exact hN | exact LS.all (hS.2.2.2.next hb))
          clear hK K hS; have hS := hS1; clear hS1
          (try simp only [Act.put, List.setIfInBounds_toArray, List.set_cons_zero, List.set_cons_succ])
          refine rg_one 10 ({ dst := some 16, op := Op.call { callee := Callee.value (Operand.func 25), args := #[Operand.tmp 15], argTypes := #[3] }, type := 42, pos := "sector.go:31", after := #[{ on := 9, ground := Ground.data }, { on := 7, ground := Ground.chain }], guard := none } : Oper) (by kernel_rfl) rfl (fun K hK => ?_)
          go_simp
          (go_at_call 25; (refine (HPF.out _).mono ?_); rintro r w7 ⟨rfl, ho, hb⟩; (try (have q := Lib.hid (HGM.out.keep hb); clear HGM; have HGM := q; clear q)); (try (have q := Lib.hid (HM.out.keep hb); clear HM; have HM := q; clear q)); (try (have q := Lib.hid (H8.out.keep hb); clear H8; have H8 := q; clear q)); (try (have q := Lib.hid (HS4.out.keep hb); clear HS4; have HS4 := q; clear q)); (try (have q := Lib.hid (HF4.out.keep hb); clear HF4; have HF4 := q; clear q)); (try (have q := Lib.hid (HN.out.keep hb); clear HN; have HN := q; clear q)); have HF4 := Lib.hid (FD.of (base := w.heap.size + 3) ho hS.2.2.2.sz); clear ho)
          refine hK.out _ _ ?_ (fun hS1 => ?_)
          · (first | exact hS | exact hN | exact LS.all (hS.2.2.2.next hb))
          clear hK K hS; have hS := hS1; clear hS1
          (try simp only [Act.put, List.setIfInBounds_toArray, List.set_cons_zero, List.set_cons_succ])
          refine rg_one 11 ({ dst := some 17, op := Op.buildSlice 59 4 #[(0, Operand.tmp 7), (1, Operand.tmp 10), (2, Operand.tmp 13), (3, Operand.tmp 16)], type := 59, pos := "sector.go:31", after := #[{ on := 1, ground := Ground.data }, { on := 4, ground := Ground.data }, { on := 7, ground := Ground.data }, { on := 10, ground := Ground.data }], guard := none } : Oper) (by kernel_rfl) rfl (fun K hK => ?_)
          rw [if_pos (by rfl)]; refine wp_lit4 (.tmp 7) (.tmp 10) (.tmp 13) (.tmp 16) rfl _ _ _ _ _ _ _ _ _ _ _ _ rfl rfl rfl rfl ?_; intro gl w8 hl hgl hb8; have hb := hb8.out; (try (have q := Lib.hid (HGM.out.keep hb); clear HGM; have HGM := q; clear q)); (try (have q := Lib.hid (HM.out.keep hb); clear HM; have HM := q; clear q)); (try (have q := Lib.hid (H8.out.keep hb); clear H8; have H8 := q; clear q)); (try (have q := Lib.hid (HS4.out.keep hb); clear HS4; have HS4 := q; clear q)); (try (have q := Lib.hid (HF4.out.keep hb); clear HF4; have HF4 := q; clear q)); (try (have q := Lib.hid (HN.out.keep hb); clear HN; have HN := q; clear q)); have HRL := Lib.hid (rl_lit (g := w.heap.size + 2) (base := w.heap.size + 3) (n := 4) (ls := [mark, putL e 8, putL s 4, putL f 4]) hl.out (by omega) (Nat.le_trans hS.2.2.2.sz hgl.out) rfl rfl (by omega) (fd_four HM.out H8.out HS4.out HF4.out)); clear hl hgl hb8
          refine hK.out _ _ ?_ (fun hS1 => ?_)
          · (first | exact hS | exact hN | exact LS.all (hS.2.2.2.next hb))
          clear hK K hS; have hS := hS1; clear hS1
          (try simp only [Act.put, List.setIfInBounds_toArray, List.set_cons_zero, List.set_cons_succ])
          refine rg_one 12 ({ dst := some 18, op := Op.call { callee := Callee.value (Operand.func 23), args := #[Operand.tmp 3, Operand.const (Value.int IntKind.i64 0), Operand.tmp 17], argTypes := #[54, 3, 59] }, type := 0, pos := "sector.go:31", after := #[{ on := 11, ground := Ground.data }, { on := 10, ground := Ground.chain }], guard := none } : Oper) (by kernel_rfl) rfl (fun K hK => ?_)
          go_simp
          (go_at_call 23; (refine (hput_any (w.heap.size + 2) 0 4 z64 [mark, putL e 8, putL s 4, putL f 4] _ _ HN.out HRL.out (by intro y hy; simp only [List.mem_cons, List.not_mem_nil, or_false] at hy; rcases hy with rfl | rfl | rfl | rfl <;> simp [putL_length, mark_length]) (by rw [p0_flat, p0_length]; omega)).mono ?_); rintro r w9 ⟨rfl, hk9, hg9⟩; have hN := LS.all (hS.2.2.2.over hg9); clear HN; have HN := Lib.hid hk9; clear hk9 hg9)
          refine hK.out _ _ ?_ (fun hS1 => ?_)
          · (first | exact hS | exact hN | exact LS.all (hS.2.2.2.next hb))
          clear hK K hS; have hS := hS1; clear hS1
          (try simp only [Act.put, List.setIfInBounds_toArray, List.set_cons_zero, List.set_cons_succ])
          refine wpAnyH_done (by kernel_rfl) ?_ _
          have HLS := Lib.hid hS.2.2.2
          have HN7 := Lib.hid HN.out
          clear hS HN HRL
          (try clear hN hb)
          (try clear HM H8 HS4 HF4 HGE)
          go_wp2_with (first
            | (refine wpl_load_l4 rfl (.tmp 19) rfl rfl HLS.out.hb ?_))
          go_loopw [21] (fun v wr => ∃ i : Nat, v = .int .i64 i ∧ i ≤ 4 ∧ Hid (LS w ⟨e, s, f, l⟩ wr) ∧ Hid (Blk wr (w.heap.size + 2) (splice z64 0 (p0 e s f ++ put4 (l.take i))))) (fun v _ => 4 - (intOf v).toNat)
          case atStart => exact ⟨0, rfl, by omega, HLS, Lib.hid (by have h1 := HN7.out; rw [p0_flat] at h1; simpa [put4] using h1)⟩
          case round =>
            obtain ⟨i, rfl, hi, HR, HNR⟩ := hrel
            by_cases hlt : i < 4
            · have hix := index_l4 l HLN.out i hlt
              obtain ⟨x, hx⟩ : ∃ x, l.getD i 0 = x := ⟨_, rfl⟩
              rw [hx] at hix
              have HXB := Lib.hid (show 0 ≤ x ∧ x ≤ 2147483647 from by rw [← hx]; exact HLB.out _ (getD_memL (by rw [HLN.out]; exact hlt)))
              have HPS := Lib.hid (put4_take l i (by rw [HLN.out]; exact hlt))
              rw [hx] at HPS
              have HNU : Hid (∀ w, Calls Tryd.prog 25 #[.int .i64 x] w fun r w' => r = .returned (.slice (some ⟨w.heap.size, 0, none⟩) 4 4) ∧ w'.ownsRow w.heap.size 5 1 (.slice (some ⟨w.heap.size, 0, none⟩) 4 4) 4 (il .u8 (putL x 4)) ∧ Below w.heap.size w w') := Lib.hid (number_any x HXB.out.1 HXB.out.2)
              obtain ⟨p, hp⟩ : ∃ p : Nat, 21 + 4 * i = p := ⟨_, rfl⟩
              have hp2 : (21 : Int) + 4 * (i : Int) = (p : Int) := by omega
              have hlt2 : (i : Int) < 4 := by omega
              have hpb : (p : Int) ≤ 33 := by omega
              have HPL := Lib.hid (show (p0 e s f ++ put4 (l.take i)).length = p from by rw [List.length_append, p0_length, put4_length, List.length_take, HLN.out]; omega)
              clear hx hp
              go_wp2_with (first
                | (go_at_call 25; (with_reducible refine (HNU.out _).mono ?_); rintro r w7 ⟨rfl, ho7, hb7⟩; have HF7 := Lib.hid (FD.of ho7 HR.out.sz); have HR7 := Lib.hid (HR.out.next hb7); have HN7 := Lib.hid (HNR.out.keep hb7); clear ho7 hb7)
                | (refine wpl_lit1 rfl (.tmp 29) rfl _ _ _ rfl ?_; intro gl w8 hl8 hgl8 hb8; have HR8 := Lib.hid (HR7.out.next hb8.out); have HN8 := Lib.hid (HN7.out.keep hb8.out); have HRL8 := Lib.hid (rl_lit (g := w.heap.size + 2) (base := w.heap.size + 3) (n := 1) (ls := [putL x 4]) hl8.out (by omega) (Nat.le_trans HR7.out.sz hgl8.out) rfl rfl (by omega) (fd_one (HF7.out.keep hb8.out))); clear hl8 hgl8 hb8)
                | (go_at_call 23; (refine (hput_any (w.heap.size + 2) p 1 _ [putL x 4] _ _ HN8.out HRL8.out (by intro y hy; simp only [List.mem_cons, List.not_mem_nil, or_false] at hy; subst hy; rw [putL_length]; omega) (by simp [putL_length]; omega)).mono ?_); rintro r w9 ⟨rfl, hk9, hg9⟩; have HR9 := Lib.hid (HR8.out.over hg9); have HN9 := Lib.hid hk9; clear hk9 hg9))
              go_roundw
              case rel =>
                refine ⟨i + 1, by go_num, by omega, HR9, Lib.hid ?_⟩
                have h1 := HN9.out
                simp only [List.flatten_cons, List.flatten_nil, List.append_nil] at h1
                have h2 := splice_more z64 0 (p0 e s f ++ put4 (l.take i)) (putL x 4) (by rw [HPL.out, z64_length]; omega)
                rw [HPL.out, Nat.zero_add] at h2
                rw [h2, List.append_assoc, HPS.out] at h1
                exact h1
              case measure => simp [intOf]; omega
            · obtain rfl : i = 4 := by omega
              have HNF := Lib.hid (show Blk wr (w.heap.size + 2) (splice z64 0 (headP ⟨e, s, f, l⟩)) from by have h1 := HNR.out; rwa [List.take_of_length_le (by rw [HLN.out]; omega)] at h1)
              have HFIN := Lib.hid (lay_done ⟨e, s, f, l⟩ HLN.out)
              obtain ⟨L, hL⟩ : ∃ L, splice z64 0 (headP ⟨e, s, f, l⟩) = L := ⟨_, rfl⟩
              rw [hL] at HNF HFIN
              obtain ⟨m, hm⟩ : ∃ m, headS ⟨e, s, f, l⟩ = m := ⟨_, rfl⟩
              rw [hm] at HFIN
              have HSU : Hid (Calls Tryd.prog 17 #[.agg (sv L)] wr fun r w' => ∃ p, r = .returned (.slice (some ⟨p, 0, none⟩) 4 4) ∧ w'.ownsRow wr.heap.size 5 1 (.slice (some ⟨p, 0, none⟩) 4 4) 4 (il .u8 (putL m 4)) ∧ Below wr.heap.size wr w') := Lib.hid (hsum_any (HT.out.keep HR.out.below) L HNF.out.2 HFIN.out.1 (by rw [HFIN.out.2.1]; exact hm))
              obtain ⟨wz, hwz⟩ : ∃ q, q = wr := ⟨_, rfl⟩
              subst hwz
              clear hL hm
              go_wp2_with (first
                | (refine wpl_load_sec (by rfl) (.tmp 3) rfl (w.heap.size + 2) rfl L HNF.out ?_)
                | (go_at_call 17; (with_reducible refine (HSU.out).mono ?_); rintro r w7 ⟨p7, rfl, ho7, hb7⟩; have HF7 := Lib.hid (FD.of ho7 HR.out.sz); have HR7 := Lib.hid (HR.out.next hb7); have HN7 := Lib.hid (HNF.out.keep hb7); clear ho7 hb7)
                | (refine wpl_lit1 rfl (.tmp 34) rfl _ _ _ rfl ?_; intro gl w8 hl8 hgl8 hb8; have HR8 := Lib.hid (HR7.out.next hb8.out); have HN8 := Lib.hid (HN7.out.keep hb8.out); have HRL8 := Lib.hid (rl_lit (g := w.heap.size + 2) (base := w.heap.size + 3) (n := 1) (ls := [putL m 4]) hl8.out (by omega) (Nat.le_trans HR7.out.sz hgl8.out) rfl rfl (by omega) (fd_one (HF7.out.keep hb8.out))); clear hl8 hgl8 hb8)
                | (go_at_call 23; (refine (hput_any (w.heap.size + 2) 37 1 _ [putL m 4] _ _ HN8.out HRL8.out (by intro y hy; simp only [List.mem_cons, List.not_mem_nil, or_false] at hy; subst hy; rw [putL_length]; omega) (by simp [putL_length])).mono ?_); rintro r w9 ⟨rfl, hk9, hg9⟩; have HR9 := Lib.hid (HR8.out.over hg9); have HN9 := Lib.hid (show Blk w9 (w.heap.size + 2) (secH ⟨e, s, f, l⟩) from by rw [← HFIN.out.2.2]; simpa using hk9); clear hk9 hg9)
                | (refine wpl_load_sec (by rfl) (.tmp 3) rfl (w.heap.size + 2) rfl (secH ⟨e, s, f, l⟩) HN9.out ?_)
                | (refine wpl_put_sec rfl (.tmp 2) (.tmp 37) rfl (w.heap.size + 1) z64 (secH ⟨e, s, f, l⟩) HR9.out.old (secH_length HLN.out) rfl rfl ?_; intro wf HO HGF))
              refine bodyPost_ret_by (v := .agg (sv (secH ⟨e, s, f, l⟩))) (results_cell_row rfl _ _ (w.heap.size + 1) _ (sv (secH ⟨e, s, f, l⟩)) (0, 0) _ rfl HO.out.1 Tryd.underlying27 rfl (sv_info _ (secH_length HLN.out))) rfl ⟨rfl, ?_⟩
              exact hbelow_grown HR9.out.below HGF.out (by omega) HR9.out.below.size
        · skip
          go_simp
          (go_at_call 25; (refine (HPF.out _).mono ?_); rintro r w7 ⟨rfl, ho, hb⟩; (try (have q := Lib.hid (HGM.out.keep hb); clear HGM; have HGM := q; clear q)); (try (have q := Lib.hid (HM.out.keep hb); clear HM; have HM := q; clear q)); (try (have q := Lib.hid (H8.out.keep hb); clear H8; have H8 := q; clear q)); (try (have q := Lib.hid (HS4.out.keep hb); clear HS4; have HS4 := q; clear q)); (try (have q := Lib.hid (HF4.out.keep hb); clear HF4; have HF4 := q; clear q)); (try (have q := Lib.hid (HN.out.keep hb); clear HN; have HN := q; clear q)); have HF4 := Lib.hid (FD.of (base := w.heap.size + 3) ho hS.2.2.2.sz); clear ho)
          refine hK.out _ _ ?_ (fun hS1 => ?_)
          · (first | exact hS | exact hN | exact LS.all (hS.2.2.2.next hb))
          clear hK K hS; have hS := hS1; clear hS1
          (try simp only [Act.put, List.setIfInBounds_toArray, List.set_cons_zero, List.set_cons_succ])
          refine rg_one 1 ({ dst := some 7, op := Op.convert 42 42 (Operand.tmp 6), type := 42, pos := "sector.go:31", after := #[{ on := 0, ground := Ground.data }], guard := none } : Oper) (by kernel_rfl) rfl (fun K hK => ?_)
          rw [if_pos (by rfl)]; refine wp_conv_mark (.tmp 6) rfl gm rfl HGM.out ?_; intro w5b hsm hg5; have hN := LS.all (hS.2.2.2.overq hg5.out HGE.out); (try (have q := Lib.hid (H8.out.same hsm.out); clear H8; have H8 := q; clear q)); (try (have q := Lib.hid (HS4.out.same hsm.out); clear HS4; have HS4 := q; clear q)); (try (have q := Lib.hid (HF4.out.same hsm.out); clear HF4; have HF4 := q; clear q)); have HM := Lib.hid ((fd_mark (base := w.heap.size + 3) HGM.out HGE.out).same hsm.out); (have q := Lib.hid (HN.out.over hg5.out (by have := HGE.out; omega)); clear HN; have HN := q; clear q); clear HGM hsm hg5
          refine hK.out _ _ ?_ (fun hS1 => ?_)
          · (first | exact hS | exact hN | exact LS.all (hS.2.2.2.next hb))
          clear hK K hS; have hS := hS1; clear hS1
          (try simp only [Act.put, List.setIfInBounds_toArray, List.set_cons_zero, List.set_cons_succ])
          refine rg_one 11 ({ dst := some 17, op := Op.buildSlice 59 4 #[(0, Operand.tmp 7), (1, Operand.tmp 10), (2, Operand.tmp 13), (3, Operand.tmp 16)], type := 59, pos := "sector.go:31", after := #[{ on := 1, ground := Ground.data }, { on := 4, ground := Ground.data }, { on := 7, ground := Ground.data }, { on := 10, ground := Ground.data }], guard := none } : Oper) (by kernel_rfl) rfl (fun K hK => ?_)
          rw [if_pos (by rfl)]; refine wp_lit4 (.tmp 7) (.tmp 10) (.tmp 13) (.tmp 16) rfl _ _ _ _ _ _ _ _ _ _ _ _ rfl rfl rfl rfl ?_; intro gl w8 hl hgl hb8; have hb := hb8.out; (try (have q := Lib.hid (HGM.out.keep hb); clear HGM; have HGM := q; clear q)); (try (have q := Lib.hid (HM.out.keep hb); clear HM; have HM := q; clear q)); (try (have q := Lib.hid (H8.out.keep hb); clear H8; have H8 := q; clear q)); (try (have q := Lib.hid (HS4.out.keep hb); clear HS4; have HS4 := q; clear q)); (try (have q := Lib.hid (HF4.out.keep hb); clear HF4; have HF4 := q; clear q)); (try (have q := Lib.hid (HN.out.keep hb); clear HN; have HN := q; clear q)); have HRL := Lib.hid (rl_lit (g := w.heap.size + 2) (base := w.heap.size + 3) (n := 4) (ls := [mark, putL e 8, putL s 4, putL f 4]) hl.out (by omega) (Nat.le_trans hS.2.2.2.sz hgl.out) rfl rfl (by omega) (fd_four HM.out H8.out HS4.out HF4.out)); clear hl hgl hb8
          refine hK.out _ _ ?_ (fun hS1 => ?_)
          · (first | exact hS | exact hN | exact LS.all (hS.2.2.2.next hb))
          clear hK K hS; have hS := hS1; clear hS1
          (try simp only [Act.put, List.setIfInBounds_toArray, List.set_cons_zero, List.set_cons_succ])
          refine rg_one 12 ({ dst := some 18, op := Op.call { callee := Callee.value (Operand.func 23), args := #[Operand.tmp 3, Operand.const (Value.int IntKind.i64 0), Operand.tmp 17], argTypes := #[54, 3, 59] }, type := 0, pos := "sector.go:31", after := #[{ on := 11, ground := Ground.data }, { on := 10, ground := Ground.chain }], guard := none } : Oper) (by kernel_rfl) rfl (fun K hK => ?_)
          go_simp
          (go_at_call 23; (refine (hput_any (w.heap.size + 2) 0 4 z64 [mark, putL e 8, putL s 4, putL f 4] _ _ HN.out HRL.out (by intro y hy; simp only [List.mem_cons, List.not_mem_nil, or_false] at hy; rcases hy with rfl | rfl | rfl | rfl <;> simp [putL_length, mark_length]) (by rw [p0_flat, p0_length]; omega)).mono ?_); rintro r w9 ⟨rfl, hk9, hg9⟩; have hN := LS.all (hS.2.2.2.over hg9); clear HN; have HN := Lib.hid hk9; clear hk9 hg9)
          refine hK.out _ _ ?_ (fun hS1 => ?_)
          · (first | exact hS | exact hN | exact LS.all (hS.2.2.2.next hb))
          clear hK K hS; have hS := hS1; clear hS1
          (try simp only [Act.put, List.setIfInBounds_toArray, List.set_cons_zero, List.set_cons_succ])
          refine wpAnyH_done (by kernel_rfl) ?_ _
          have HLS := Lib.hid hS.2.2.2
          have HN7 := Lib.hid HN.out
          clear hS HN HRL
          (try clear hN hb)
          (try clear HM H8 HS4 HF4 HGE)
          go_wp2_with (first
            | (refine wpl_load_l4 rfl (.tmp 19) rfl rfl HLS.out.hb ?_))
          go_loopw [21] (fun v wr => ∃ i : Nat, v = .int .i64 i ∧ i ≤ 4 ∧ Hid (LS w ⟨e, s, f, l⟩ wr) ∧ Hid (Blk wr (w.heap.size + 2) (splice z64 0 (p0 e s f ++ put4 (l.take i))))) (fun v _ => 4 - (intOf v).toNat)
          case atStart => exact ⟨0, rfl, by omega, HLS, Lib.hid (by have h1 := HN7.out; rw [p0_flat] at h1; simpa [put4] using h1)⟩
          case round =>
            obtain ⟨i, rfl, hi, HR, HNR⟩ := hrel
            by_cases hlt : i < 4
            · have hix := index_l4 l HLN.out i hlt
              obtain ⟨x, hx⟩ : ∃ x, l.getD i 0 = x := ⟨_, rfl⟩
              rw [hx] at hix
              have HXB := Lib.hid (show 0 ≤ x ∧ x ≤ 2147483647 from by rw [← hx]; exact HLB.out _ (getD_memL (by rw [HLN.out]; exact hlt)))
              have HPS := Lib.hid (put4_take l i (by rw [HLN.out]; exact hlt))
              rw [hx] at HPS
              have HNU : Hid (∀ w, Calls Tryd.prog 25 #[.int .i64 x] w fun r w' => r = .returned (.slice (some ⟨w.heap.size, 0, none⟩) 4 4) ∧ w'.ownsRow w.heap.size 5 1 (.slice (some ⟨w.heap.size, 0, none⟩) 4 4) 4 (il .u8 (putL x 4)) ∧ Below w.heap.size w w') := Lib.hid (number_any x HXB.out.1 HXB.out.2)
              obtain ⟨p, hp⟩ : ∃ p : Nat, 21 + 4 * i = p := ⟨_, rfl⟩
              have hp2 : (21 : Int) + 4 * (i : Int) = (p : Int) := by omega
              have hlt2 : (i : Int) < 4 := by omega
              have hpb : (p : Int) ≤ 33 := by omega
              have HPL := Lib.hid (show (p0 e s f ++ put4 (l.take i)).length = p from by rw [List.length_append, p0_length, put4_length, List.length_take, HLN.out]; omega)
              clear hx hp
              go_wp2_with (first
                | (go_at_call 25; (with_reducible refine (HNU.out _).mono ?_); rintro r w7 ⟨rfl, ho7, hb7⟩; have HF7 := Lib.hid (FD.of ho7 HR.out.sz); have HR7 := Lib.hid (HR.out.next hb7); have HN7 := Lib.hid (HNR.out.keep hb7); clear ho7 hb7)
                | (refine wpl_lit1 rfl (.tmp 29) rfl _ _ _ rfl ?_; intro gl w8 hl8 hgl8 hb8; have HR8 := Lib.hid (HR7.out.next hb8.out); have HN8 := Lib.hid (HN7.out.keep hb8.out); have HRL8 := Lib.hid (rl_lit (g := w.heap.size + 2) (base := w.heap.size + 3) (n := 1) (ls := [putL x 4]) hl8.out (by omega) (Nat.le_trans HR7.out.sz hgl8.out) rfl rfl (by omega) (fd_one (HF7.out.keep hb8.out))); clear hl8 hgl8 hb8)
                | (go_at_call 23; (refine (hput_any (w.heap.size + 2) p 1 _ [putL x 4] _ _ HN8.out HRL8.out (by intro y hy; simp only [List.mem_cons, List.not_mem_nil, or_false] at hy; subst hy; rw [putL_length]; omega) (by simp [putL_length]; omega)).mono ?_); rintro r w9 ⟨rfl, hk9, hg9⟩; have HR9 := Lib.hid (HR8.out.over hg9); have HN9 := Lib.hid hk9; clear hk9 hg9))
              go_roundw
              case rel =>
                refine ⟨i + 1, by go_num, by omega, HR9, Lib.hid ?_⟩
                have h1 := HN9.out
                simp only [List.flatten_cons, List.flatten_nil, List.append_nil] at h1
                have h2 := splice_more z64 0 (p0 e s f ++ put4 (l.take i)) (putL x 4) (by rw [HPL.out, z64_length]; omega)
                rw [HPL.out, Nat.zero_add] at h2
                rw [h2, List.append_assoc, HPS.out] at h1
                exact h1
              case measure => simp [intOf]; omega
            · obtain rfl : i = 4 := by omega
              have HNF := Lib.hid (show Blk wr (w.heap.size + 2) (splice z64 0 (headP ⟨e, s, f, l⟩)) from by have h1 := HNR.out; rwa [List.take_of_length_le (by rw [HLN.out]; omega)] at h1)
              have HFIN := Lib.hid (lay_done ⟨e, s, f, l⟩ HLN.out)
              obtain ⟨L, hL⟩ : ∃ L, splice z64 0 (headP ⟨e, s, f, l⟩) = L := ⟨_, rfl⟩
              rw [hL] at HNF HFIN
              obtain ⟨m, hm⟩ : ∃ m, headS ⟨e, s, f, l⟩ = m := ⟨_, rfl⟩
              rw [hm] at HFIN
              have HSU : Hid (Calls Tryd.prog 17 #[.agg (sv L)] wr fun r w' => ∃ p, r = .returned (.slice (some ⟨p, 0, none⟩) 4 4) ∧ w'.ownsRow wr.heap.size 5 1 (.slice (some ⟨p, 0, none⟩) 4 4) 4 (il .u8 (putL m 4)) ∧ Below wr.heap.size wr w') := Lib.hid (hsum_any (HT.out.keep HR.out.below) L HNF.out.2 HFIN.out.1 (by rw [HFIN.out.2.1]; exact hm))
              obtain ⟨wz, hwz⟩ : ∃ q, q = wr := ⟨_, rfl⟩
              subst hwz
              clear hL hm
              go_wp2_with (first
                | (refine wpl_load_sec (by rfl) (.tmp 3) rfl (w.heap.size + 2) rfl L HNF.out ?_)
                | (go_at_call 17; (with_reducible refine (HSU.out).mono ?_); rintro r w7 ⟨p7, rfl, ho7, hb7⟩; have HF7 := Lib.hid (FD.of ho7 HR.out.sz); have HR7 := Lib.hid (HR.out.next hb7); have HN7 := Lib.hid (HNF.out.keep hb7); clear ho7 hb7)
                | (refine wpl_lit1 rfl (.tmp 34) rfl _ _ _ rfl ?_; intro gl w8 hl8 hgl8 hb8; have HR8 := Lib.hid (HR7.out.next hb8.out); have HN8 := Lib.hid (HN7.out.keep hb8.out); have HRL8 := Lib.hid (rl_lit (g := w.heap.size + 2) (base := w.heap.size + 3) (n := 1) (ls := [putL m 4]) hl8.out (by omega) (Nat.le_trans HR7.out.sz hgl8.out) rfl rfl (by omega) (fd_one (HF7.out.keep hb8.out))); clear hl8 hgl8 hb8)
                | (go_at_call 23; (refine (hput_any (w.heap.size + 2) 37 1 _ [putL m 4] _ _ HN8.out HRL8.out (by intro y hy; simp only [List.mem_cons, List.not_mem_nil, or_false] at hy; subst hy; rw [putL_length]; omega) (by simp [putL_length])).mono ?_); rintro r w9 ⟨rfl, hk9, hg9⟩; have HR9 := Lib.hid (HR8.out.over hg9); have HN9 := Lib.hid (show Blk w9 (w.heap.size + 2) (secH ⟨e, s, f, l⟩) from by rw [← HFIN.out.2.2]; simpa using hk9); clear hk9 hg9)
                | (refine wpl_load_sec (by rfl) (.tmp 3) rfl (w.heap.size + 2) rfl (secH ⟨e, s, f, l⟩) HN9.out ?_)
                | (refine wpl_put_sec rfl (.tmp 2) (.tmp 37) rfl (w.heap.size + 1) z64 (secH ⟨e, s, f, l⟩) HR9.out.old (secH_length HLN.out) rfl rfl ?_; intro wf HO HGF))
              refine bodyPost_ret_by (v := .agg (sv (secH ⟨e, s, f, l⟩))) (results_cell_row rfl _ _ (w.heap.size + 1) _ (sv (secH ⟨e, s, f, l⟩)) (0, 0) _ rfl HO.out.1 Tryd.underlying27 rfl (sv_info _ (secH_length HLN.out))) rfl ⟨rfl, ?_⟩
              exact hbelow_grown HR9.out.below HGF.out (by omega) HR9.out.below.size
    · skip
      go_simp
      (go_at_call 25; (refine (HPS.out _).mono ?_); rintro r w6 ⟨rfl, ho, hb⟩; (try (have q := Lib.hid (HGM.out.keep hb); clear HGM; have HGM := q; clear q)); (try (have q := Lib.hid (HM.out.keep hb); clear HM; have HM := q; clear q)); (try (have q := Lib.hid (H8.out.keep hb); clear H8; have H8 := q; clear q)); (try (have q := Lib.hid (HS4.out.keep hb); clear HS4; have HS4 := q; clear q)); (try (have q := Lib.hid (HF4.out.keep hb); clear HF4; have HF4 := q; clear q)); (try (have q := Lib.hid (HN.out.keep hb); clear HN; have HN := q; clear q)); have HS4 := Lib.hid (FD.of (base := w.heap.size + 3) ho hS.2.2.2.sz); clear ho)
      refine hK.out _ _ ?_ (fun hS1 => ?_)
      · (first | exact hS | exact hN | exact LS.all (hS.2.2.2.next hb))
      clear hK K hS; have hS := hS1; clear hS1
      (try simp only [Act.put, List.setIfInBounds_toArray, List.set_cons_zero, List.set_cons_succ])
      refine rg_both 0 10 ({ dst := some 6, op := Op.buildSlice 42 5 #[(0, Operand.const (Value.int IntKind.u8 115)), (1, Operand.const (Value.int IntKind.u8 116)), (2, Operand.const (Value.int IntKind.u8 114)), (3, Operand.const (Value.int IntKind.u8 100)), (4, Operand.const (Value.int IntKind.u8 1))], type := 42, pos := "sector.go:31", after := #[], guard := none } : Oper) ({ dst := some 16, op := Op.call { callee := Callee.value (Operand.func 25), args := #[Operand.tmp 15], argTypes := #[3] }, type := 42, pos := "sector.go:31", after := #[{ on := 9, ground := Ground.data }, { on := 7, ground := Ground.chain }], guard := none } : Oper) (by kernel_rfl) rfl rfl (fun K hK => ?_) (fun K hK => ?_)
      · skip
        rw [if_pos (by rfl)]; refine wp_mark rfl ?_; intro gm w5 hm hgm5 hb5; have hb := hb5.out; (try (have q := Lib.hid (HGM.out.keep hb); clear HGM; have HGM := q; clear q)); (try (have q := Lib.hid (HM.out.keep hb); clear HM; have HM := q; clear q)); (try (have q := Lib.hid (H8.out.keep hb); clear H8; have H8 := q; clear q)); (try (have q := Lib.hid (HS4.out.keep hb); clear HS4; have HS4 := q; clear q)); (try (have q := Lib.hid (HF4.out.keep hb); clear HF4; have HF4 := q; clear q)); (try (have q := Lib.hid (HN.out.keep hb); clear HN; have HN := q; clear q)); have HGM := hm; have HGE := Lib.hid (Nat.le_trans hS.2.2.2.sz hgm5.out); clear hm hb5 hgm5
        refine hK.out _ _ ?_ (fun hS1 => ?_)
        · (first | exact hS | exact hN | exact LS.all (hS.2.2.2.next hb))
        clear hK K hS; have hS := hS1; clear hS1
        (try simp only [Act.put, List.setIfInBounds_toArray, List.set_cons_zero, List.set_cons_succ])
        refine rg_both 1 10 ({ dst := some 7, op := Op.convert 42 42 (Operand.tmp 6), type := 42, pos := "sector.go:31", after := #[{ on := 0, ground := Ground.data }], guard := none } : Oper) ({ dst := some 16, op := Op.call { callee := Callee.value (Operand.func 25), args := #[Operand.tmp 15], argTypes := #[3] }, type := 42, pos := "sector.go:31", after := #[{ on := 9, ground := Ground.data }, { on := 7, ground := Ground.chain }], guard := none } : Oper) (by kernel_rfl) rfl rfl (fun K hK => ?_) (fun K hK => ?_)
        · skip
          rw [if_pos (by rfl)]; refine wp_conv_mark (.tmp 6) rfl gm rfl HGM.out ?_; intro w5b hsm hg5; have hN := LS.all (hS.2.2.2.overq hg5.out HGE.out); (try (have q := Lib.hid (H8.out.same hsm.out); clear H8; have H8 := q; clear q)); (try (have q := Lib.hid (HS4.out.same hsm.out); clear HS4; have HS4 := q; clear q)); (try (have q := Lib.hid (HF4.out.same hsm.out); clear HF4; have HF4 := q; clear q)); have HM := Lib.hid ((fd_mark (base := w.heap.size + 3) HGM.out HGE.out).same hsm.out); (have q := Lib.hid (HN.out.over hg5.out (by have := HGE.out; omega)); clear HN; have HN := q; clear q); clear HGM hsm hg5
          refine hK.out _ _ ?_ (fun hS1 => ?_)
          · (first | exact hS | exact hN | exact LS.all (hS.2.2.2.next hb))
          clear hK K hS; have hS := hS1; clear hS1
          (try simp only [Act.put, List.setIfInBounds_toArray, List.set_cons_zero, List.set_cons_succ])
          refine rg_one 10 ({ dst := some 16, op := Op.call { callee := Callee.value (Operand.func 25), args := #[Operand.tmp 15], argTypes := #[3] }, type := 42, pos := "sector.go:31", after := #[{ on := 9, ground := Ground.data }, { on := 7, ground := Ground.chain }], guard := none } : Oper) (by kernel_rfl) rfl (fun K hK => ?_)
          go_simp
          (go_at_call 25; (refine (HPF.out _).mono ?_); rintro r w7 ⟨rfl, ho, hb⟩; (try (have q := Lib.hid (HGM.out.keep hb); clear HGM; have HGM := q; clear q)); (try (have q := Lib.hid (HM.out.keep hb); clear HM; have HM := q; clear q)); (try (have q := Lib.hid (H8.out.keep hb); clear H8; have H8 := q; clear q)); (try (have q := Lib.hid (HS4.out.keep hb); clear HS4; have HS4 := q; clear q)); (try (have q := Lib.hid (HF4.out.keep hb); clear HF4; have HF4 := q; clear q)); (try (have q := Lib.hid (HN.out.keep hb); clear HN; have HN := q; clear q)); have HF4 := Lib.hid (FD.of (base := w.heap.size + 3) ho hS.2.2.2.sz); clear ho)
          refine hK.out _ _ ?_ (fun hS1 => ?_)
          · (first | exact hS | exact hN | exact LS.all (hS.2.2.2.next hb))
          clear hK K hS; have hS := hS1; clear hS1
          (try simp only [Act.put, List.setIfInBounds_toArray, List.set_cons_zero, List.set_cons_succ])
          refine rg_one 11 ({ dst := some 17, op := Op.buildSlice 59 4 #[(0, Operand.tmp 7), (1, Operand.tmp 10), (2, Operand.tmp 13), (3, Operand.tmp 16)], type := 59, pos := "sector.go:31", after := #[{ on := 1, ground := Ground.data }, { on := 4, ground := Ground.data }, { on := 7, ground := Ground.data }, { on := 10, ground := Ground.data }], guard := none } : Oper) (by kernel_rfl) rfl (fun K hK => ?_)
          rw [if_pos (by rfl)]; refine wp_lit4 (.tmp 7) (.tmp 10) (.tmp 13) (.tmp 16) rfl _ _ _ _ _ _ _ _ _ _ _ _ rfl rfl rfl rfl ?_; intro gl w8 hl hgl hb8; have hb := hb8.out; (try (have q := Lib.hid (HGM.out.keep hb); clear HGM; have HGM := q; clear q)); (try (have q := Lib.hid (HM.out.keep hb); clear HM; have HM := q; clear q)); (try (have q := Lib.hid (H8.out.keep hb); clear H8; have H8 := q; clear q)); (try (have q := Lib.hid (HS4.out.keep hb); clear HS4; have HS4 := q; clear q)); (try (have q := Lib.hid (HF4.out.keep hb); clear HF4; have HF4 := q; clear q)); (try (have q := Lib.hid (HN.out.keep hb); clear HN; have HN := q; clear q)); have HRL := Lib.hid (rl_lit (g := w.heap.size + 2) (base := w.heap.size + 3) (n := 4) (ls := [mark, putL e 8, putL s 4, putL f 4]) hl.out (by omega) (Nat.le_trans hS.2.2.2.sz hgl.out) rfl rfl (by omega) (fd_four HM.out H8.out HS4.out HF4.out)); clear hl hgl hb8
          refine hK.out _ _ ?_ (fun hS1 => ?_)
          · (first | exact hS | exact hN | exact LS.all (hS.2.2.2.next hb))
          clear hK K hS; have hS := hS1; clear hS1
          (try simp only [Act.put, List.setIfInBounds_toArray, List.set_cons_zero, List.set_cons_succ])
          refine rg_one 12 ({ dst := some 18, op := Op.call { callee := Callee.value (Operand.func 23), args := #[Operand.tmp 3, Operand.const (Value.int IntKind.i64 0), Operand.tmp 17], argTypes := #[54, 3, 59] }, type := 0, pos := "sector.go:31", after := #[{ on := 11, ground := Ground.data }, { on := 10, ground := Ground.chain }], guard := none } : Oper) (by kernel_rfl) rfl (fun K hK => ?_)
          go_simp
          (go_at_call 23; (refine (hput_any (w.heap.size + 2) 0 4 z64 [mark, putL e 8, putL s 4, putL f 4] _ _ HN.out HRL.out (by intro y hy; simp only [List.mem_cons, List.not_mem_nil, or_false] at hy; rcases hy with rfl | rfl | rfl | rfl <;> simp [putL_length, mark_length]) (by rw [p0_flat, p0_length]; omega)).mono ?_); rintro r w9 ⟨rfl, hk9, hg9⟩; have hN := LS.all (hS.2.2.2.over hg9); clear HN; have HN := Lib.hid hk9; clear hk9 hg9)
          refine hK.out _ _ ?_ (fun hS1 => ?_)
          · (first | exact hS | exact hN | exact LS.all (hS.2.2.2.next hb))
          clear hK K hS; have hS := hS1; clear hS1
          (try simp only [Act.put, List.setIfInBounds_toArray, List.set_cons_zero, List.set_cons_succ])
          refine wpAnyH_done (by kernel_rfl) ?_ _
          have HLS := Lib.hid hS.2.2.2
          have HN7 := Lib.hid HN.out
          clear hS HN HRL
          (try clear hN hb)
          (try clear HM H8 HS4 HF4 HGE)
          go_wp2_with (first
            | (refine wpl_load_l4 rfl (.tmp 19) rfl rfl HLS.out.hb ?_))
          go_loopw [21] (fun v wr => ∃ i : Nat, v = .int .i64 i ∧ i ≤ 4 ∧ Hid (LS w ⟨e, s, f, l⟩ wr) ∧ Hid (Blk wr (w.heap.size + 2) (splice z64 0 (p0 e s f ++ put4 (l.take i))))) (fun v _ => 4 - (intOf v).toNat)
          case atStart => exact ⟨0, rfl, by omega, HLS, Lib.hid (by have h1 := HN7.out; rw [p0_flat] at h1; simpa [put4] using h1)⟩
          case round =>
            obtain ⟨i, rfl, hi, HR, HNR⟩ := hrel
            by_cases hlt : i < 4
            · have hix := index_l4 l HLN.out i hlt
              obtain ⟨x, hx⟩ : ∃ x, l.getD i 0 = x := ⟨_, rfl⟩
              rw [hx] at hix
              have HXB := Lib.hid (show 0 ≤ x ∧ x ≤ 2147483647 from by rw [← hx]; exact HLB.out _ (getD_memL (by rw [HLN.out]; exact hlt)))
              have HPS := Lib.hid (put4_take l i (by rw [HLN.out]; exact hlt))
              rw [hx] at HPS
              have HNU : Hid (∀ w, Calls Tryd.prog 25 #[.int .i64 x] w fun r w' => r = .returned (.slice (some ⟨w.heap.size, 0, none⟩) 4 4) ∧ w'.ownsRow w.heap.size 5 1 (.slice (some ⟨w.heap.size, 0, none⟩) 4 4) 4 (il .u8 (putL x 4)) ∧ Below w.heap.size w w') := Lib.hid (number_any x HXB.out.1 HXB.out.2)
              obtain ⟨p, hp⟩ : ∃ p : Nat, 21 + 4 * i = p := ⟨_, rfl⟩
              have hp2 : (21 : Int) + 4 * (i : Int) = (p : Int) := by omega
              have hlt2 : (i : Int) < 4 := by omega
              have hpb : (p : Int) ≤ 33 := by omega
              have HPL := Lib.hid (show (p0 e s f ++ put4 (l.take i)).length = p from by rw [List.length_append, p0_length, put4_length, List.length_take, HLN.out]; omega)
              clear hx hp
              go_wp2_with (first
                | (go_at_call 25; (with_reducible refine (HNU.out _).mono ?_); rintro r w7 ⟨rfl, ho7, hb7⟩; have HF7 := Lib.hid (FD.of ho7 HR.out.sz); have HR7 := Lib.hid (HR.out.next hb7); have HN7 := Lib.hid (HNR.out.keep hb7); clear ho7 hb7)
                | (refine wpl_lit1 rfl (.tmp 29) rfl _ _ _ rfl ?_; intro gl w8 hl8 hgl8 hb8; have HR8 := Lib.hid (HR7.out.next hb8.out); have HN8 := Lib.hid (HN7.out.keep hb8.out); have HRL8 := Lib.hid (rl_lit (g := w.heap.size + 2) (base := w.heap.size + 3) (n := 1) (ls := [putL x 4]) hl8.out (by omega) (Nat.le_trans HR7.out.sz hgl8.out) rfl rfl (by omega) (fd_one (HF7.out.keep hb8.out))); clear hl8 hgl8 hb8)
                | (go_at_call 23; (refine (hput_any (w.heap.size + 2) p 1 _ [putL x 4] _ _ HN8.out HRL8.out (by intro y hy; simp only [List.mem_cons, List.not_mem_nil, or_false] at hy; subst hy; rw [putL_length]; omega) (by simp [putL_length]; omega)).mono ?_); rintro r w9 ⟨rfl, hk9, hg9⟩; have HR9 := Lib.hid (HR8.out.over hg9); have HN9 := Lib.hid hk9; clear hk9 hg9))
              go_roundw
              case rel =>
                refine ⟨i + 1, by go_num, by omega, HR9, Lib.hid ?_⟩
                have h1 := HN9.out
                simp only [List.flatten_cons, List.flatten_nil, List.append_nil] at h1
                have h2 := splice_more z64 0 (p0 e s f ++ put4 (l.take i)) (putL x 4) (by rw [HPL.out, z64_length]; omega)
                rw [HPL.out, Nat.zero_add] at h2
                rw [h2, List.append_assoc, HPS.out] at h1
                exact h1
              case measure => simp [intOf]; omega
            · obtain rfl : i = 4 := by omega
              have HNF := Lib.hid (show Blk wr (w.heap.size + 2) (splice z64 0 (headP ⟨e, s, f, l⟩)) from by have h1 := HNR.out; rwa [List.take_of_length_le (by rw [HLN.out]; omega)] at h1)
              have HFIN := Lib.hid (lay_done ⟨e, s, f, l⟩ HLN.out)
              obtain ⟨L, hL⟩ : ∃ L, splice z64 0 (headP ⟨e, s, f, l⟩) = L := ⟨_, rfl⟩
              rw [hL] at HNF HFIN
              obtain ⟨m, hm⟩ : ∃ m, headS ⟨e, s, f, l⟩ = m := ⟨_, rfl⟩
              rw [hm] at HFIN
              have HSU : Hid (Calls Tryd.prog 17 #[.agg (sv L)] wr fun r w' => ∃ p, r = .returned (.slice (some ⟨p, 0, none⟩) 4 4) ∧ w'.ownsRow wr.heap.size 5 1 (.slice (some ⟨p, 0, none⟩) 4 4) 4 (il .u8 (putL m 4)) ∧ Below wr.heap.size wr w') := Lib.hid (hsum_any (HT.out.keep HR.out.below) L HNF.out.2 HFIN.out.1 (by rw [HFIN.out.2.1]; exact hm))
              obtain ⟨wz, hwz⟩ : ∃ q, q = wr := ⟨_, rfl⟩
              subst hwz
              clear hL hm
              go_wp2_with (first
                | (refine wpl_load_sec (by rfl) (.tmp 3) rfl (w.heap.size + 2) rfl L HNF.out ?_)
                | (go_at_call 17; (with_reducible refine (HSU.out).mono ?_); rintro r w7 ⟨p7, rfl, ho7, hb7⟩; have HF7 := Lib.hid (FD.of ho7 HR.out.sz); have HR7 := Lib.hid (HR.out.next hb7); have HN7 := Lib.hid (HNF.out.keep hb7); clear ho7 hb7)
                | (refine wpl_lit1 rfl (.tmp 34) rfl _ _ _ rfl ?_; intro gl w8 hl8 hgl8 hb8; have HR8 := Lib.hid (HR7.out.next hb8.out); have HN8 := Lib.hid (HN7.out.keep hb8.out); have HRL8 := Lib.hid (rl_lit (g := w.heap.size + 2) (base := w.heap.size + 3) (n := 1) (ls := [putL m 4]) hl8.out (by omega) (Nat.le_trans HR7.out.sz hgl8.out) rfl rfl (by omega) (fd_one (HF7.out.keep hb8.out))); clear hl8 hgl8 hb8)
                | (go_at_call 23; (refine (hput_any (w.heap.size + 2) 37 1 _ [putL m 4] _ _ HN8.out HRL8.out (by intro y hy; simp only [List.mem_cons, List.not_mem_nil, or_false] at hy; subst hy; rw [putL_length]; omega) (by simp [putL_length])).mono ?_); rintro r w9 ⟨rfl, hk9, hg9⟩; have HR9 := Lib.hid (HR8.out.over hg9); have HN9 := Lib.hid (show Blk w9 (w.heap.size + 2) (secH ⟨e, s, f, l⟩) from by rw [← HFIN.out.2.2]; simpa using hk9); clear hk9 hg9)
                | (refine wpl_load_sec (by rfl) (.tmp 3) rfl (w.heap.size + 2) rfl (secH ⟨e, s, f, l⟩) HN9.out ?_)
                | (refine wpl_put_sec rfl (.tmp 2) (.tmp 37) rfl (w.heap.size + 1) z64 (secH ⟨e, s, f, l⟩) HR9.out.old (secH_length HLN.out) rfl rfl ?_; intro wf HO HGF))
              refine bodyPost_ret_by (v := .agg (sv (secH ⟨e, s, f, l⟩))) (results_cell_row rfl _ _ (w.heap.size + 1) _ (sv (secH ⟨e, s, f, l⟩)) (0, 0) _ rfl HO.out.1 Tryd.underlying27 rfl (sv_info _ (secH_length HLN.out))) rfl ⟨rfl, ?_⟩
              exact hbelow_grown HR9.out.below HGF.out (by omega) HR9.out.below.size
        · skip
          go_simp
          (go_at_call 25; (refine (HPF.out _).mono ?_); rintro r w7 ⟨rfl, ho, hb⟩; (try (have q := Lib.hid (HGM.out.keep hb); clear HGM; have HGM := q; clear q)); (try (have q := Lib.hid (HM.out.keep hb); clear HM; have HM := q; clear q)); (try (have q := Lib.hid (H8.out.keep hb); clear H8; have H8 := q; clear q)); (try (have q := Lib.hid (HS4.out.keep hb); clear HS4; have HS4 := q; clear q)); (try (have q := Lib.hid (HF4.out.keep hb); clear HF4; have HF4 := q; clear q)); (try (have q := Lib.hid (HN.out.keep hb); clear HN; have HN := q; clear q)); have HF4 := Lib.hid (FD.of (base := w.heap.size + 3) ho hS.2.2.2.sz); clear ho)
          refine hK.out _ _ ?_ (fun hS1 => ?_)
          · (first | exact hS | exact hN | exact LS.all (hS.2.2.2.next hb))
          clear hK K hS; have hS := hS1; clear hS1
          (try simp only [Act.put, List.setIfInBounds_toArray, List.set_cons_zero, List.set_cons_succ])
          refine rg_one 1 ({ dst := some 7, op := Op.convert 42 42 (Operand.tmp 6), type := 42, pos := "sector.go:31", after := #[{ on := 0, ground := Ground.data }], guard := none } : Oper) (by kernel_rfl) rfl (fun K hK => ?_)
          rw [if_pos (by rfl)]; refine wp_conv_mark (.tmp 6) rfl gm rfl HGM.out ?_; intro w5b hsm hg5; have hN := LS.all (hS.2.2.2.overq hg5.out HGE.out); (try (have q := Lib.hid (H8.out.same hsm.out); clear H8; have H8 := q; clear q)); (try (have q := Lib.hid (HS4.out.same hsm.out); clear HS4; have HS4 := q; clear q)); (try (have q := Lib.hid (HF4.out.same hsm.out); clear HF4; have HF4 := q; clear q)); have HM := Lib.hid ((fd_mark (base := w.heap.size + 3) HGM.out HGE.out).same hsm.out); (have q := Lib.hid (HN.out.over hg5.out (by have := HGE.out; omega)); clear HN; have HN := q; clear q); clear HGM hsm hg5
          refine hK.out _ _ ?_ (fun hS1 => ?_)
          · (first | exact hS | exact hN | exact LS.all (hS.2.2.2.next hb))
          clear hK K hS; have hS := hS1; clear hS1
          (try simp only [Act.put, List.setIfInBounds_toArray, List.set_cons_zero, List.set_cons_succ])
          refine rg_one 11 ({ dst := some 17, op := Op.buildSlice 59 4 #[(0, Operand.tmp 7), (1, Operand.tmp 10), (2, Operand.tmp 13), (3, Operand.tmp 16)], type := 59, pos := "sector.go:31", after := #[{ on := 1, ground := Ground.data }, { on := 4, ground := Ground.data }, { on := 7, ground := Ground.data }, { on := 10, ground := Ground.data }], guard := none } : Oper) (by kernel_rfl) rfl (fun K hK => ?_)
          rw [if_pos (by rfl)]; refine wp_lit4 (.tmp 7) (.tmp 10) (.tmp 13) (.tmp 16) rfl _ _ _ _ _ _ _ _ _ _ _ _ rfl rfl rfl rfl ?_; intro gl w8 hl hgl hb8; have hb := hb8.out; (try (have q := Lib.hid (HGM.out.keep hb); clear HGM; have HGM := q; clear q)); (try (have q := Lib.hid (HM.out.keep hb); clear HM; have HM := q; clear q)); (try (have q := Lib.hid (H8.out.keep hb); clear H8; have H8 := q; clear q)); (try (have q := Lib.hid (HS4.out.keep hb); clear HS4; have HS4 := q; clear q)); (try (have q := Lib.hid (HF4.out.keep hb); clear HF4; have HF4 := q; clear q)); (try (have q := Lib.hid (HN.out.keep hb); clear HN; have HN := q; clear q)); have HRL := Lib.hid (rl_lit (g := w.heap.size + 2) (base := w.heap.size + 3) (n := 4) (ls := [mark, putL e 8, putL s 4, putL f 4]) hl.out (by omega) (Nat.le_trans hS.2.2.2.sz hgl.out) rfl rfl (by omega) (fd_four HM.out H8.out HS4.out HF4.out)); clear hl hgl hb8
          refine hK.out _ _ ?_ (fun hS1 => ?_)
          · (first | exact hS | exact hN | exact LS.all (hS.2.2.2.next hb))
          clear hK K hS; have hS := hS1; clear hS1
          (try simp only [Act.put, List.setIfInBounds_toArray, List.set_cons_zero, List.set_cons_succ])
          refine rg_one 12 ({ dst := some 18, op := Op.call { callee := Callee.value (Operand.func 23), args := #[Operand.tmp 3, Operand.const (Value.int IntKind.i64 0), Operand.tmp 17], argTypes := #[54, 3, 59] }, type := 0, pos := "sector.go:31", after := #[{ on := 11, ground := Ground.data }, { on := 10, ground := Ground.chain }], guard := none } : Oper) (by kernel_rfl) rfl (fun K hK => ?_)
          go_simp
          (go_at_call 23; (refine (hput_any (w.heap.size + 2) 0 4 z64 [mark, putL e 8, putL s 4, putL f 4] _ _ HN.out HRL.out (by intro y hy; simp only [List.mem_cons, List.not_mem_nil, or_false] at hy; rcases hy with rfl | rfl | rfl | rfl <;> simp [putL_length, mark_length]) (by rw [p0_flat, p0_length]; omega)).mono ?_); rintro r w9 ⟨rfl, hk9, hg9⟩; have hN := LS.all (hS.2.2.2.over hg9); clear HN; have HN := Lib.hid hk9; clear hk9 hg9)
          refine hK.out _ _ ?_ (fun hS1 => ?_)
          · (first | exact hS | exact hN | exact LS.all (hS.2.2.2.next hb))
          clear hK K hS; have hS := hS1; clear hS1
          (try simp only [Act.put, List.setIfInBounds_toArray, List.set_cons_zero, List.set_cons_succ])
          refine wpAnyH_done (by kernel_rfl) ?_ _
          have HLS := Lib.hid hS.2.2.2
          have HN7 := Lib.hid HN.out
          clear hS HN HRL
          (try clear hN hb)
          (try clear HM H8 HS4 HF4 HGE)
          go_wp2_with (first
            | (refine wpl_load_l4 rfl (.tmp 19) rfl rfl HLS.out.hb ?_))
          go_loopw [21] (fun v wr => ∃ i : Nat, v = .int .i64 i ∧ i ≤ 4 ∧ Hid (LS w ⟨e, s, f, l⟩ wr) ∧ Hid (Blk wr (w.heap.size + 2) (splice z64 0 (p0 e s f ++ put4 (l.take i))))) (fun v _ => 4 - (intOf v).toNat)
          case atStart => exact ⟨0, rfl, by omega, HLS, Lib.hid (by have h1 := HN7.out; rw [p0_flat] at h1; simpa [put4] using h1)⟩
          case round =>
            obtain ⟨i, rfl, hi, HR, HNR⟩ := hrel
            by_cases hlt : i < 4
            · have hix := index_l4 l HLN.out i hlt
              obtain ⟨x, hx⟩ : ∃ x, l.getD i 0 = x := ⟨_, rfl⟩
              rw [hx] at hix
              have HXB := Lib.hid (show 0 ≤ x ∧ x ≤ 2147483647 from by rw [← hx]; exact HLB.out _ (getD_memL (by rw [HLN.out]; exact hlt)))
              have HPS := Lib.hid (put4_take l i (by rw [HLN.out]; exact hlt))
              rw [hx] at HPS
              have HNU : Hid (∀ w, Calls Tryd.prog 25 #[.int .i64 x] w fun r w' => r = .returned (.slice (some ⟨w.heap.size, 0, none⟩) 4 4) ∧ w'.ownsRow w.heap.size 5 1 (.slice (some ⟨w.heap.size, 0, none⟩) 4 4) 4 (il .u8 (putL x 4)) ∧ Below w.heap.size w w') := Lib.hid (number_any x HXB.out.1 HXB.out.2)
              obtain ⟨p, hp⟩ : ∃ p : Nat, 21 + 4 * i = p := ⟨_, rfl⟩
              have hp2 : (21 : Int) + 4 * (i : Int) = (p : Int) := by omega
              have hlt2 : (i : Int) < 4 := by omega
              have hpb : (p : Int) ≤ 33 := by omega
              have HPL := Lib.hid (show (p0 e s f ++ put4 (l.take i)).length = p from by rw [List.length_append, p0_length, put4_length, List.length_take, HLN.out]; omega)
              clear hx hp
              go_wp2_with (first
                | (go_at_call 25; (with_reducible refine (HNU.out _).mono ?_); rintro r w7 ⟨rfl, ho7, hb7⟩; have HF7 := Lib.hid (FD.of ho7 HR.out.sz); have HR7 := Lib.hid (HR.out.next hb7); have HN7 := Lib.hid (HNR.out.keep hb7); clear ho7 hb7)
                | (refine wpl_lit1 rfl (.tmp 29) rfl _ _ _ rfl ?_; intro gl w8 hl8 hgl8 hb8; have HR8 := Lib.hid (HR7.out.next hb8.out); have HN8 := Lib.hid (HN7.out.keep hb8.out); have HRL8 := Lib.hid (rl_lit (g := w.heap.size + 2) (base := w.heap.size + 3) (n := 1) (ls := [putL x 4]) hl8.out (by omega) (Nat.le_trans HR7.out.sz hgl8.out) rfl rfl (by omega) (fd_one (HF7.out.keep hb8.out))); clear hl8 hgl8 hb8)
                | (go_at_call 23; (refine (hput_any (w.heap.size + 2) p 1 _ [putL x 4] _ _ HN8.out HRL8.out (by intro y hy; simp only [List.mem_cons, List.not_mem_nil, or_false] at hy; subst hy; rw [putL_length]; omega) (by simp [putL_length]; omega)).mono ?_); rintro r w9 ⟨rfl, hk9, hg9⟩; have HR9 := Lib.hid (HR8.out.over hg9); have HN9 := Lib.hid hk9; clear hk9 hg9))
              go_roundw
              case rel =>
                refine ⟨i + 1, by go_num, by omega, HR9, Lib.hid ?_⟩
                have h1 := HN9.out
                simp only [List.flatten_cons, List.flatten_nil, List.append_nil] at h1
                have h2 := splice_more z64 0 (p0 e s f ++ put4 (l.take i)) (putL x 4) (by rw [HPL.out, z64_length]; omega)
                rw [HPL.out, Nat.zero_add] at h2
                rw [h2, List.append_assoc, HPS.out] at h1
                exact h1
              case measure => simp [intOf]; omega
            · obtain rfl : i = 4 := by omega
              have HNF := Lib.hid (show Blk wr (w.heap.size + 2) (splice z64 0 (headP ⟨e, s, f, l⟩)) from by have h1 := HNR.out; rwa [List.take_of_length_le (by rw [HLN.out]; omega)] at h1)
              have HFIN := Lib.hid (lay_done ⟨e, s, f, l⟩ HLN.out)
              obtain ⟨L, hL⟩ : ∃ L, splice z64 0 (headP ⟨e, s, f, l⟩) = L := ⟨_, rfl⟩
              rw [hL] at HNF HFIN
              obtain ⟨m, hm⟩ : ∃ m, headS ⟨e, s, f, l⟩ = m := ⟨_, rfl⟩
              rw [hm] at HFIN
              have HSU : Hid (Calls Tryd.prog 17 #[.agg (sv L)] wr fun r w' => ∃ p, r = .returned (.slice (some ⟨p, 0, none⟩) 4 4) ∧ w'.ownsRow wr.heap.size 5 1 (.slice (some ⟨p, 0, none⟩) 4 4) 4 (il .u8 (putL m 4)) ∧ Below wr.heap.size wr w') := Lib.hid (hsum_any (HT.out.keep HR.out.below) L HNF.out.2 HFIN.out.1 (by rw [HFIN.out.2.1]; exact hm))
              obtain ⟨wz, hwz⟩ : ∃ q, q = wr := ⟨_, rfl⟩
              subst hwz
              clear hL hm
              go_wp2_with (first
                | (refine wpl_load_sec (by rfl) (.tmp 3) rfl (w.heap.size + 2) rfl L HNF.out ?_)
                | (go_at_call 17; (with_reducible refine (HSU.out).mono ?_); rintro r w7 ⟨p7, rfl, ho7, hb7⟩; have HF7 := Lib.hid (FD.of ho7 HR.out.sz); have HR7 := Lib.hid (HR.out.next hb7); have HN7 := Lib.hid (HNF.out.keep hb7); clear ho7 hb7)
                | (refine wpl_lit1 rfl (.tmp 34) rfl _ _ _ rfl ?_; intro gl w8 hl8 hgl8 hb8; have HR8 := Lib.hid (HR7.out.next hb8.out); have HN8 := Lib.hid (HN7.out.keep hb8.out); have HRL8 := Lib.hid (rl_lit (g := w.heap.size + 2) (base := w.heap.size + 3) (n := 1) (ls := [putL m 4]) hl8.out (by omega) (Nat.le_trans HR7.out.sz hgl8.out) rfl rfl (by omega) (fd_one (HF7.out.keep hb8.out))); clear hl8 hgl8 hb8)
                | (go_at_call 23; (refine (hput_any (w.heap.size + 2) 37 1 _ [putL m 4] _ _ HN8.out HRL8.out (by intro y hy; simp only [List.mem_cons, List.not_mem_nil, or_false] at hy; subst hy; rw [putL_length]; omega) (by simp [putL_length])).mono ?_); rintro r w9 ⟨rfl, hk9, hg9⟩; have HR9 := Lib.hid (HR8.out.over hg9); have HN9 := Lib.hid (show Blk w9 (w.heap.size + 2) (secH ⟨e, s, f, l⟩) from by rw [← HFIN.out.2.2]; simpa using hk9); clear hk9 hg9)
                | (refine wpl_load_sec (by rfl) (.tmp 3) rfl (w.heap.size + 2) rfl (secH ⟨e, s, f, l⟩) HN9.out ?_)
                | (refine wpl_put_sec rfl (.tmp 2) (.tmp 37) rfl (w.heap.size + 1) z64 (secH ⟨e, s, f, l⟩) HR9.out.old (secH_length HLN.out) rfl rfl ?_; intro wf HO HGF))
              refine bodyPost_ret_by (v := .agg (sv (secH ⟨e, s, f, l⟩))) (results_cell_row rfl _ _ (w.heap.size + 1) _ (sv (secH ⟨e, s, f, l⟩)) (0, 0) _ rfl HO.out.1 Tryd.underlying27 rfl (sv_info _ (secH_length HLN.out))) rfl ⟨rfl, ?_⟩
              exact hbelow_grown HR9.out.below HGF.out (by omega) HR9.out.below.size
      · skip
        go_simp
        (go_at_call 25; (refine (HPF.out _).mono ?_); rintro r w7 ⟨rfl, ho, hb⟩; (try (have q := Lib.hid (HGM.out.keep hb); clear HGM; have HGM := q; clear q)); (try (have q := Lib.hid (HM.out.keep hb); clear HM; have HM := q; clear q)); (try (have q := Lib.hid (H8.out.keep hb); clear H8; have H8 := q; clear q)); (try (have q := Lib.hid (HS4.out.keep hb); clear HS4; have HS4 := q; clear q)); (try (have q := Lib.hid (HF4.out.keep hb); clear HF4; have HF4 := q; clear q)); (try (have q := Lib.hid (HN.out.keep hb); clear HN; have HN := q; clear q)); have HF4 := Lib.hid (FD.of (base := w.heap.size + 3) ho hS.2.2.2.sz); clear ho)
        refine hK.out _ _ ?_ (fun hS1 => ?_)
        · (first | exact hS | exact hN | exact LS.all (hS.2.2.2.next hb))
        clear hK K hS; have hS := hS1; clear hS1
        (try simp only [Act.put, List.setIfInBounds_toArray, List.set_cons_zero, List.set_cons_succ])
        refine rg_one 0 ({ dst := some 6, op := Op.buildSlice 42 5 #[(0, Operand.const (Value.int IntKind.u8 115)), (1, Operand.const (Value.int IntKind.u8 116)), (2, Operand.const (Value.int IntKind.u8 114)), (3, Operand.const (Value.int IntKind.u8 100)), (4, Operand.const (Value.int IntKind.u8 1))], type := 42, pos := "sector.go:31", after := #[], guard := none } : Oper) (by kernel_rfl) rfl (fun K hK => ?_)
        rw [if_pos (by rfl)]; refine wp_mark rfl ?_; intro gm w5 hm hgm5 hb5; have hb := hb5.out; (try (have q := Lib.hid (HGM.out.keep hb); clear HGM; have HGM := q; clear q)); (try (have q := Lib.hid (HM.out.keep hb); clear HM; have HM := q; clear q)); (try (have q := Lib.hid (H8.out.keep hb); clear H8; have H8 := q; clear q)); (try (have q := Lib.hid (HS4.out.keep hb); clear HS4; have HS4 := q; clear q)); (try (have q := Lib.hid (HF4.out.keep hb); clear HF4; have HF4 := q; clear q)); (try (have q := Lib.hid (HN.out.keep hb); clear HN; have HN := q; clear q)); have HGM := hm; have HGE := Lib.hid (Nat.le_trans hS.2.2.2.sz hgm5.out); clear hm hb5 hgm5
        refine hK.out _ _ ?_ (fun hS1 => ?_)
        · (first | exact hS | exact hN | exact LS.all (hS.2.2.2.next hb))
        clear hK K hS; have hS := hS1; clear hS1
        (try simp only [Act.put, List.setIfInBounds_toArray, List.set_cons_zero, List.set_cons_succ])
        refine rg_one 1 ({ dst := some 7, op := Op.convert 42 42 (Operand.tmp 6), type := 42, pos := "sector.go:31", after := #[{ on := 0, ground := Ground.data }], guard := none } : Oper) (by kernel_rfl) rfl (fun K hK => ?_)
        rw [if_pos (by rfl)]; refine wp_conv_mark (.tmp 6) rfl gm rfl HGM.out ?_; intro w5b hsm hg5; have hN := LS.all (hS.2.2.2.overq hg5.out HGE.out); (try (have q := Lib.hid (H8.out.same hsm.out); clear H8; have H8 := q; clear q)); (try (have q := Lib.hid (HS4.out.same hsm.out); clear HS4; have HS4 := q; clear q)); (try (have q := Lib.hid (HF4.out.same hsm.out); clear HF4; have HF4 := q; clear q)); have HM := Lib.hid ((fd_mark (base := w.heap.size + 3) HGM.out HGE.out).same hsm.out); (have q := Lib.hid (HN.out.over hg5.out (by have := HGE.out; omega)); clear HN; have HN := q; clear q); clear HGM hsm hg5
        refine hK.out _ _ ?_ (fun hS1 => ?_)
        · (first | exact hS | exact hN | exact LS.all (hS.2.2.2.next hb))
        clear hK K hS; have hS := hS1; clear hS1
        (try simp only [Act.put, List.setIfInBounds_toArray, List.set_cons_zero, List.set_cons_succ])
        refine rg_one 11 ({ dst := some 17, op := Op.buildSlice 59 4 #[(0, Operand.tmp 7), (1, Operand.tmp 10), (2, Operand.tmp 13), (3, Operand.tmp 16)], type := 59, pos := "sector.go:31", after := #[{ on := 1, ground := Ground.data }, { on := 4, ground := Ground.data }, { on := 7, ground := Ground.data }, { on := 10, ground := Ground.data }], guard := none } : Oper) (by kernel_rfl) rfl (fun K hK => ?_)
        rw [if_pos (by rfl)]; refine wp_lit4 (.tmp 7) (.tmp 10) (.tmp 13) (.tmp 16) rfl _ _ _ _ _ _ _ _ _ _ _ _ rfl rfl rfl rfl ?_; intro gl w8 hl hgl hb8; have hb := hb8.out; (try (have q := Lib.hid (HGM.out.keep hb); clear HGM; have HGM := q; clear q)); (try (have q := Lib.hid (HM.out.keep hb); clear HM; have HM := q; clear q)); (try (have q := Lib.hid (H8.out.keep hb); clear H8; have H8 := q; clear q)); (try (have q := Lib.hid (HS4.out.keep hb); clear HS4; have HS4 := q; clear q)); (try (have q := Lib.hid (HF4.out.keep hb); clear HF4; have HF4 := q; clear q)); (try (have q := Lib.hid (HN.out.keep hb); clear HN; have HN := q; clear q)); have HRL := Lib.hid (rl_lit (g := w.heap.size + 2) (base := w.heap.size + 3) (n := 4) (ls := [mark, putL e 8, putL s 4, putL f 4]) hl.out (by omega) (Nat.le_trans hS.2.2.2.sz hgl.out) rfl rfl (by omega) (fd_four HM.out H8.out HS4.out HF4.out)); clear hl hgl hb8
        refine hK.out _ _ ?_ (fun hS1 => ?_)
        · (first | exact hS | exact hN | exact LS.all (hS.2.2.2.next hb))
        clear hK K hS; have hS := hS1; clear hS1
        (try simp only [Act.put, List.setIfInBounds_toArray, List.set_cons_zero, List.set_cons_succ])
        refine rg_one 12 ({ dst := some 18, op := Op.call { callee := Callee.value (Operand.func 23), args := #[Operand.tmp 3, Operand.const (Value.int IntKind.i64 0), Operand.tmp 17], argTypes := #[54, 3, 59] }, type := 0, pos := "sector.go:31", after := #[{ on := 11, ground := Ground.data }, { on := 10, ground := Ground.chain }], guard := none } : Oper) (by kernel_rfl) rfl (fun K hK => ?_)
        go_simp
        (go_at_call 23; (refine (hput_any (w.heap.size + 2) 0 4 z64 [mark, putL e 8, putL s 4, putL f 4] _ _ HN.out HRL.out (by intro y hy; simp only [List.mem_cons, List.not_mem_nil, or_false] at hy; rcases hy with rfl | rfl | rfl | rfl <;> simp [putL_length, mark_length]) (by rw [p0_flat, p0_length]; omega)).mono ?_); rintro r w9 ⟨rfl, hk9, hg9⟩; have hN := LS.all (hS.2.2.2.over hg9); clear HN; have HN := Lib.hid hk9; clear hk9 hg9)
        refine hK.out _ _ ?_ (fun hS1 => ?_)
        · (first | exact hS | exact hN | exact LS.all (hS.2.2.2.next hb))
        clear hK K hS; have hS := hS1; clear hS1
        (try simp only [Act.put, List.setIfInBounds_toArray, List.set_cons_zero, List.set_cons_succ])
        refine wpAnyH_done (by kernel_rfl) ?_ _
        have HLS := Lib.hid hS.2.2.2
        have HN7 := Lib.hid HN.out
        clear hS HN HRL
        (try clear hN hb)
        (try clear HM H8 HS4 HF4 HGE)
        go_wp2_with (first
          | (refine wpl_load_l4 rfl (.tmp 19) rfl rfl HLS.out.hb ?_))
        go_loopw [21] (fun v wr => ∃ i : Nat, v = .int .i64 i ∧ i ≤ 4 ∧ Hid (LS w ⟨e, s, f, l⟩ wr) ∧ Hid (Blk wr (w.heap.size + 2) (splice z64 0 (p0 e s f ++ put4 (l.take i))))) (fun v _ => 4 - (intOf v).toNat)
        case atStart => exact ⟨0, rfl, by omega, HLS, Lib.hid (by have h1 := HN7.out; rw [p0_flat] at h1; simpa [put4] using h1)⟩
        case round =>
          obtain ⟨i, rfl, hi, HR, HNR⟩ := hrel
          by_cases hlt : i < 4
          · have hix := index_l4 l HLN.out i hlt
            obtain ⟨x, hx⟩ : ∃ x, l.getD i 0 = x := ⟨_, rfl⟩
            rw [hx] at hix
            have HXB := Lib.hid (show 0 ≤ x ∧ x ≤ 2147483647 from by rw [← hx]; exact HLB.out _ (getD_memL (by rw [HLN.out]; exact hlt)))
            have HPS := Lib.hid (put4_take l i (by rw [HLN.out]; exact hlt))
            rw [hx] at HPS
            have HNU : Hid (∀ w, Calls Tryd.prog 25 #[.int .i64 x] w fun r w' => r = .returned (.slice (some ⟨w.heap.size, 0, none⟩) 4 4) ∧ w'.ownsRow w.heap.size 5 1 (.slice (some ⟨w.heap.size, 0, none⟩) 4 4) 4 (il .u8 (putL x 4)) ∧ Below w.heap.size w w') := Lib.hid (number_any x HXB.out.1 HXB.out.2)
            obtain ⟨p, hp⟩ : ∃ p : Nat, 21 + 4 * i = p := ⟨_, rfl⟩
            have hp2 : (21 : Int) + 4 * (i : Int) = (p : Int) := by omega
            have hlt2 : (i : Int) < 4 := by omega
            have hpb : (p : Int) ≤ 33 := by omega
            have HPL := Lib.hid (show (p0 e s f ++ put4 (l.take i)).length = p from by rw [List.length_append, p0_length, put4_length, List.length_take, HLN.out]; omega)
            clear hx hp
            go_wp2_with (first
              | (go_at_call 25; (with_reducible refine (HNU.out _).mono ?_); rintro r w7 ⟨rfl, ho7, hb7⟩; have HF7 := Lib.hid (FD.of ho7 HR.out.sz); have HR7 := Lib.hid (HR.out.next hb7); have HN7 := Lib.hid (HNR.out.keep hb7); clear ho7 hb7)
              | (refine wpl_lit1 rfl (.tmp 29) rfl _ _ _ rfl ?_; intro gl w8 hl8 hgl8 hb8; have HR8 := Lib.hid (HR7.out.next hb8.out); have HN8 := Lib.hid (HN7.out.keep hb8.out); have HRL8 := Lib.hid (rl_lit (g := w.heap.size + 2) (base := w.heap.size + 3) (n := 1) (ls := [putL x 4]) hl8.out (by omega) (Nat.le_trans HR7.out.sz hgl8.out) rfl rfl (by omega) (fd_one (HF7.out.keep hb8.out))); clear hl8 hgl8 hb8)
              | (go_at_call 23; (refine (hput_any (w.heap.size + 2) p 1 _ [putL x 4] _ _ HN8.out HRL8.out (by intro y hy; simp only [List.mem_cons, List.not_mem_nil, or_false] at hy; subst hy; rw [putL_length]; omega) (by simp [putL_length]; omega)).mono ?_); rintro r w9 ⟨rfl, hk9, hg9⟩; have HR9 := Lib.hid (HR8.out.over hg9); have HN9 := Lib.hid hk9; clear hk9 hg9))
            go_roundw
            case rel =>
              refine ⟨i + 1, by go_num, by omega, HR9, Lib.hid ?_⟩
              have h1 := HN9.out
              simp only [List.flatten_cons, List.flatten_nil, List.append_nil] at h1
              have h2 := splice_more z64 0 (p0 e s f ++ put4 (l.take i)) (putL x 4) (by rw [HPL.out, z64_length]; omega)
              rw [HPL.out, Nat.zero_add] at h2
              rw [h2, List.append_assoc, HPS.out] at h1
              exact h1
            case measure => simp [intOf]; omega
          · obtain rfl : i = 4 := by omega
            have HNF := Lib.hid (show Blk wr (w.heap.size + 2) (splice z64 0 (headP ⟨e, s, f, l⟩)) from by have h1 := HNR.out; rwa [List.take_of_length_le (by rw [HLN.out]; omega)] at h1)
            have HFIN := Lib.hid (lay_done ⟨e, s, f, l⟩ HLN.out)
            obtain ⟨L, hL⟩ : ∃ L, splice z64 0 (headP ⟨e, s, f, l⟩) = L := ⟨_, rfl⟩
            rw [hL] at HNF HFIN
            obtain ⟨m, hm⟩ : ∃ m, headS ⟨e, s, f, l⟩ = m := ⟨_, rfl⟩
            rw [hm] at HFIN
            have HSU : Hid (Calls Tryd.prog 17 #[.agg (sv L)] wr fun r w' => ∃ p, r = .returned (.slice (some ⟨p, 0, none⟩) 4 4) ∧ w'.ownsRow wr.heap.size 5 1 (.slice (some ⟨p, 0, none⟩) 4 4) 4 (il .u8 (putL m 4)) ∧ Below wr.heap.size wr w') := Lib.hid (hsum_any (HT.out.keep HR.out.below) L HNF.out.2 HFIN.out.1 (by rw [HFIN.out.2.1]; exact hm))
            obtain ⟨wz, hwz⟩ : ∃ q, q = wr := ⟨_, rfl⟩
            subst hwz
            clear hL hm
            go_wp2_with (first
              | (refine wpl_load_sec (by rfl) (.tmp 3) rfl (w.heap.size + 2) rfl L HNF.out ?_)
              | (go_at_call 17; (with_reducible refine (HSU.out).mono ?_); rintro r w7 ⟨p7, rfl, ho7, hb7⟩; have HF7 := Lib.hid (FD.of ho7 HR.out.sz); have HR7 := Lib.hid (HR.out.next hb7); have HN7 := Lib.hid (HNF.out.keep hb7); clear ho7 hb7)
              | (refine wpl_lit1 rfl (.tmp 34) rfl _ _ _ rfl ?_; intro gl w8 hl8 hgl8 hb8; have HR8 := Lib.hid (HR7.out.next hb8.out); have HN8 := Lib.hid (HN7.out.keep hb8.out); have HRL8 := Lib.hid (rl_lit (g := w.heap.size + 2) (base := w.heap.size + 3) (n := 1) (ls := [putL m 4]) hl8.out (by omega) (Nat.le_trans HR7.out.sz hgl8.out) rfl rfl (by omega) (fd_one (HF7.out.keep hb8.out))); clear hl8 hgl8 hb8)
              | (go_at_call 23; (refine (hput_any (w.heap.size + 2) 37 1 _ [putL m 4] _ _ HN8.out HRL8.out (by intro y hy; simp only [List.mem_cons, List.not_mem_nil, or_false] at hy; subst hy; rw [putL_length]; omega) (by simp [putL_length])).mono ?_); rintro r w9 ⟨rfl, hk9, hg9⟩; have HR9 := Lib.hid (HR8.out.over hg9); have HN9 := Lib.hid (show Blk w9 (w.heap.size + 2) (secH ⟨e, s, f, l⟩) from by rw [← HFIN.out.2.2]; simpa using hk9); clear hk9 hg9)
              | (refine wpl_load_sec (by rfl) (.tmp 3) rfl (w.heap.size + 2) rfl (secH ⟨e, s, f, l⟩) HN9.out ?_)
              | (refine wpl_put_sec rfl (.tmp 2) (.tmp 37) rfl (w.heap.size + 1) z64 (secH ⟨e, s, f, l⟩) HR9.out.old (secH_length HLN.out) rfl rfl ?_; intro wf HO HGF))
            refine bodyPost_ret_by (v := .agg (sv (secH ⟨e, s, f, l⟩))) (results_cell_row rfl _ _ (w.heap.size + 1) _ (sv (secH ⟨e, s, f, l⟩)) (0, 0) _ rfl HO.out.1 Tryd.underlying27 rfl (sv_info _ (secH_length HLN.out))) rfl ⟨rfl, ?_⟩
            exact hbelow_grown HR9.out.below HGF.out (by omega) HR9.out.below.size
end Go.Proofs.YtncnmmillhnhlaaDoor
