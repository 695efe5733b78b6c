/-
  TEXTS JOINED: HeadLay, HeadRight, HeadArm, HeadEnc, HeadRead, BytesEq, HeadDec. Each one's own words stand at its head.
-/
import Derived.Test.YtpoiapfgbbmekaaGreatDoorJ13
import Derived.Test.YtpoiapfgbbmekaaGreatDoorJ11
import Derived.Test.YtpoiapfgbbmekaaGreatDoorJ1
import Derived.Test.YtpoiapfgbbmekaaGreatDoorJ7
namespace Go.Proofs.YtpoiapfgbbmekaaGreatDoor
open Go.RowKit
def p0 (e s f : Int) : List Int := mark ++ putL e 8 ++ putL s 4 ++ putL f 4
theorem p0_length (e s f : Int) : (p0 e s f).length = 21 := by simp [p0, putL_length, mark_length]
theorem p0_flat (e s f : Int) : [mark, putL e 8, putL s 4, putL f 4].flatten = p0 e s f := by simp [p0]
theorem put4_take (l : List Int) (i : Nat) (hi : i < l.length) : put4 (l.take i) ++ putL (l.getD i 0) 4 = put4 (l.take (i + 1)) := by
  rw [List.take_succ_eq_append_getElem hi, put4_snoc]
  simp [List.getD, hi]
theorem fd_one {w : World} {base : Nat} {v : Value} {l : List Int} (h : FD w base v l) : ∀ (j : Nat) (x : Value) (k : List Int), [v][j]? = some x → [l][j]? = some k → FD w base x k := by
  intro j x k hx hk
  match j with
  | 0 => simp at hx hk; subst hx; subst hk; exact h
  | j + 1 => simp at hx
theorem fd_four {w : World} {base : Nat} {v0 v1 v2 v3 : Value} {l0 l1 l2 l3 : List Int} (h0 : FD w base v0 l0) (h1 : FD w base v1 l1) (h2 : FD w base v2 l2) (h3 : FD w base v3 l3) :
    ∀ (j : Nat) (x : Value) (k : List Int), [v0, v1, v2, v3][j]? = some x → [l0, l1, l2, l3][j]? = some k → FD w base x k := by
  intro j x k hx hk
  match j with
  | 0 => simp at hx hk; subst hx; subst hk; exact h0
  | 1 => simp at hx hk; subst hx; subst hk; exact h1
  | 2 => simp at hx hk; subst hx; subst hk; exact h2
  | 3 => simp at hx hk; subst hx; subst hk; exact h3
  | j + 4 => simp at hx
theorem lay_done (h : Hdr) (hn : h.l.length = 4) : isB (splice z64 0 (headP h)) ∧ (splice z64 0 (headP h)).take 37 = headP h ∧ splice (splice z64 0 (headP h)) 37 (putL (headS h) 4) = secH h := by
  have hl := headP_length hn
  have e0 : splice z64 0 (headP h) = headP h ++ z64.drop 37 := by unfold splice; rw [List.take_zero, List.nil_append, hl]
  refine ⟨by rw [e0]; exact (headP_bytes h).append ((zeros_bytes 64).drop 37), by rw [e0, List.take_left' hl], ?_⟩
  have h2 := splice_more z64 0 (headP h) (putL (headS h) 4) (by rw [hl, z64_length]; omega)
  rw [hl, Nat.zero_add] at h2
  rw [h2]
  unfold splice secH headB
  rw [List.take_zero, List.nil_append, List.length_append, hl, putL_length]
  rfl
structure LS (W : World) (h : Hdr) (w : World) : Prop where
  below : Below W.heap.size W w
  sz : W.heap.size + 3 ≤ w.heap.size
  hb : HB w W.heap.size h
  old : Blk w (W.heap.size + 1) z64
theorem LS.next {W w w' : World} {h : Hdr} (k : LS W h w) (hb : Below w.heap.size w w') : LS W h w' := ⟨bch k.below hb, Nat.le_trans k.sz hb.size, k.hb.keep hb, k.old.keep hb⟩
theorem LS.over {W w w' : World} {h : Hdr} (k : LS W h w) (hg : w.grownBy w' (some (W.heap.size + 2))) : LS W h w' :=
  ⟨hbelow_grown k.below hg (by omega) k.below.size, Nat.le_trans k.sz hg.size, k.hb.over hg (by omega), k.old.over hg (by omega)⟩
theorem LS.overq {W w w' : World} {h : Hdr} {q : Nat} (k : LS W h w) (hg : w.grownBy w' (some q)) (hq : W.heap.size + 3 ≤ q) : LS W h w' :=
  ⟨hbelow_grown k.below hg (by omega) k.below.size, Nat.le_trans k.sz hg.size, k.hb.over hg (by omega), k.old.over hg (by omega)⟩
theorem LS.all {W w : World} {e s f : Int} {l : List Int} (k : LS W ⟨e, s, f, l⟩ w) : w.cell? ⟨W.heap.size, 0, none⟩ = some (.int .u64 e) ∧ w.cell? ⟨W.heap.size, 1, none⟩ = some (.int .i64 s) ∧ w.cell? ⟨W.heap.size, 2, none⟩ = some (.int .i64 f) ∧ LS W ⟨e, s, f, l⟩ w :=
  ⟨k.hb.cells.1, k.hb.cells.2.1, k.hb.cells.2.2, k⟩
set_option maxRecDepth 8000 in
set_option maxHeartbeats 4000000 in
theorem hlay_any (h : Hdr) (ht : HdT h) (hk : hdOk h = true) (w : World) (hT : Tab w) :
    Calls Tryz.prog 103 #[.agg (hv h)] w fun e w' => e = .returned (.agg (sv (secH h))) ∧ Below w.heap.size w w' := by
  have hok := hdOk_parts hk
  obtain ⟨w0, hw0⟩ : ∃ q, ((w.alloc (.cells (hv h) 34)).alloc (.cells (sv z64) 63)).alloc (.cells (sv z64) 63) = q := ⟨_, rfl⟩
  have hs1 : (w.alloc (.cells (hv h) 34)).heap.size = w.heap.size + 1 := alloc_size w _
  have hs2 : ((w.alloc (.cells (hv h) 34)).alloc (.cells (sv z64) 63)).heap.size = w.heap.size + 2 := by rw [alloc_size, hs1]
  have HN0 := Lib.hid (show Blk w0 (w.heap.size + 2) z64 from by rw [← hw0, ← hs2]; exact Blk.new _ z64 z64_length)
  have HLS0 : Hid (LS w h w0) := Lib.hid ⟨by rw [← hw0]; exact bch (bch (balloc w _) (balloc _ _)) (balloc _ _), by rw [← hw0, alloc_size, hs2]; omega, by rw [← hw0]; exact ((HB.new w h ht.n).keep (balloc _ _)).keep (balloc _ _), by rw [← hw0]; exact Blk.keep (by rw [← hs1]; exact Blk.new _ z64 z64_length) (balloc _ _)⟩
  have HLN := Lib.hid ht.n
  have HT := Lib.hid hT
  have HLB := Lib.hid (show ∀ x ∈ h.l, 0 ≤ x ∧ x ≤ 2147483647 from fun x hx => by have := hok.2.2.2 x hx; have := hok.2.2.1; omega)
  have hZ := z64_cells
  have HZ := Lib.hid hZ
  have he : 0 ≤ h.e ∧ h.e ≤ 18446744073709551615 := ht.e
  have hs := hok.2.1
  have hf := hok.2.2.1
  obtain ⟨e, s, f, l⟩ := h
  dsimp only at *
  have HP8 : Hid (∀ w, Calls Tryz.prog 113 #[.int .u64 e, .int .i64 8] w fun r w' => r = .returned (.slice (some ⟨w.heap.size, 0, none⟩) 8 8) ∧ w'.ownsRow w.heap.size 5 1 (.slice (some ⟨w.heap.size, 0, none⟩) 8 8) 8 (il .u8 (putL e 8)) ∧ Below w.heap.size w w') := Lib.hid (hword_put e 8 (by omega))
  have HPS : Hid (∀ w, Calls Tryz.prog 120 #[.int .i64 s] w fun r w' => r = .returned (.slice (some ⟨w.heap.size, 0, none⟩) 4 4) ∧ w'.ownsRow w.heap.size 5 1 (.slice (some ⟨w.heap.size, 0, none⟩) 4 4) 4 (il .u8 (putL s 4)) ∧ Below w.heap.size w w') := Lib.hid (number_any s (by omega) hs.2)
  have HPF : Hid (∀ w, Calls Tryz.prog 120 #[.int .i64 f] w fun r w' => r = .returned (.slice (some ⟨w.heap.size, 0, none⟩) 4 4) ∧ w'.ownsRow w.heap.size 5 1 (.slice (some ⟨w.heap.size, 0, none⟩) 4 4) 4 (il .u8 (putL f 4)) ∧ Below w.heap.size w w') := Lib.hid (number_any f (by omega) hf.2)
  clear hok hk ht hT hZ hs1 hs2
  go_enter Tryz.func103, Tryz.ntmps103
  go_wp2_with fail
  rw [← HZ.out, hw0]
  have HN : Hid (Blk w0.drew (w.heap.size + 2) z64) := Lib.hid (HN0.out.keep (Below.refl _ _).drew)
  refine wp_region_held_drew (S := (fun w' => w'.cell? ⟨w.heap.size, 0, none⟩ = some (.int .u64 e) ∧ w'.cell? ⟨w.heap.size, 1, none⟩ = some (.int .i64 s) ∧ w'.cell? ⟨w.heap.size, 2, none⟩ = some (.int .i64 f) ∧ LS w ⟨e, s, f, l⟩ w')) (by kernel_rfl) (LS.all (HLS0.out.next (Below.refl _ _).drew)) (fun hS => ?_)
  refine rgw 2 ⟨some 8, .fieldAddr 34 (.tmp 1) 0, 0, _, _, none⟩ hS ?_
  refine rgw 3 ⟨some 9, .load 31 (.tmp 8), 31, _, _, none⟩ hS ?_
  refine rgw 5 ⟨some 11, .fieldAddr 34 (.tmp 1) 1, 0, _, _, none⟩ hS ?_
  refine rgw 6 ⟨some 12, .load 3 (.tmp 11), 3, _, _, none⟩ hS ?_
  refine rgw 8 ⟨some 14, .fieldAddr 34 (.tmp 1) 2, 0, _, _, none⟩ hS ?_
  refine rgw 9 ⟨some 15, .load 3 (.tmp 14), 3, _, _, none⟩ hS ?_
  refine rg_both 0 4 ⟨some 6, .buildSlice 36 5 #[(0, .const (.int .u8 115)), (1, .const (.int .u8 116)), (2, .const (.int .u8 114)), (3, .const (.int .u8 100)), (4, .const (.int .u8 1))], 36, _, _, none⟩ ⟨some 10, .call { callee := .value (.func 113), args := #[.tmp 9, .const (.int .i64 8)], argTypes := #[31, 3] }, 36, _, _, none⟩ (by kernel_rfl) rfl rfl (fun K hK => ?_) (fun K hK => ?_)
  focus
    rw [if_pos (by rfl)]; refine wp_mark rfl ?_; intro gm w5 hm hgm5 hb5; have hb := hb5.out; (try (have q := Lib.hid (HGM.out.keep hb); clear HGM; have HGM := q; clear q)); (try (have q := Lib.hid (HM.out.keep hb); clear HM; have HM := q; clear q)); (try (have q := Lib.hid (H8.out.keep hb); clear H8; have H8 := q; clear q)); (try (have q := Lib.hid (HS4.out.keep hb); clear HS4; have HS4 := q; clear q)); (try (have q := Lib.hid (HF4.out.keep hb); clear HF4; have HF4 := q; clear q)); (try (have q := Lib.hid (HN.out.keep hb); clear HN; have HN := q; clear q)); have HGM := hm; have HGE := Lib.hid (Nat.le_trans hS.2.2.2.sz hgm5.out); clear hm hb5 hgm5
    refine hK.out _ _ ?_ (fun hS1 => ?_)
    · (first | exact hS | exact hN | exact LS.all (hS.2.2.2.next hb))
    clear hK K hS; have hS := hS1; clear hS1
    (try simp only [rgp])
    refine rg_both 1 4 ⟨some 7, .convert 36 36 (.tmp 6), 36, _, _, none⟩ ⟨some 10, .call { callee := .value (.func 113), args := #[.tmp 9, .const (.int .i64 8)], argTypes := #[31, 3] }, 36, _, _, none⟩ (by kernel_rfl) rfl rfl (fun K hK => ?_) (fun K hK => ?_)
    focus
      rw [if_pos (by rfl)]; refine wp_conv_mark (.tmp 6) rfl gm rfl HGM.out ?_; intro w5b hsm hg5; have hN := LS.all (hS.2.2.2.overq hg5.out HGE.out); (try (have q := Lib.hid (H8.out.same hsm.out); clear H8; have H8 := q; clear q)); (try (have q := Lib.hid (HS4.out.same hsm.out); clear HS4; have HS4 := q; clear q)); (try (have q := Lib.hid (HF4.out.same hsm.out); clear HF4; have HF4 := q; clear q)); have HM := Lib.hid ((fd_mark (base := w.heap.size + 3) HGM.out HGE.out).same hsm.out); (have q := Lib.hid (HN.out.over hg5.out (by have := HGE.out; omega)); clear HN; have HN := q; clear q); clear HGM hsm hg5
      refine hK.out _ _ ?_ (fun hS1 => ?_)
      · (first | exact hS | exact hN | exact LS.all (hS.2.2.2.next hb))
      clear hK K hS; have hS := hS1; clear hS1
      (try simp only [rgp])
      refine rg_one 4 ⟨some 10, .call { callee := .value (.func 113), args := #[.tmp 9, .const (.int .i64 8)], argTypes := #[31, 3] }, 36, _, _, none⟩ (by kernel_rfl) rfl (fun K hK => ?_)
      go_simp
      (go_at_call 113; (refine (HP8.out _).mono ?_); rintro r w4 ⟨rfl, ho, hb⟩; (try (have q := Lib.hid (HGM.out.keep hb); clear HGM; have HGM := q; clear q)); (try (have q := Lib.hid (HM.out.keep hb); clear HM; have HM := q; clear q)); (try (have q := Lib.hid (H8.out.keep hb); clear H8; have H8 := q; clear q)); (try (have q := Lib.hid (HS4.out.keep hb); clear HS4; have HS4 := q; clear q)); (try (have q := Lib.hid (HF4.out.keep hb); clear HF4; have HF4 := q; clear q)); (try (have q := Lib.hid (HN.out.keep hb); clear HN; have HN := q; clear q)); have H8 := Lib.hid (FD.of (base := w.heap.size + 3) ho hS.2.2.2.sz); clear ho)
      refine hK.out _ _ ?_ (fun hS1 => ?_)
      · (first | exact hS | exact hN | exact LS.all (hS.2.2.2.next hb))
      clear hK K hS; have hS := hS1; clear hS1
      (try simp only [rgp])
      refine rg_one 7 ⟨some 13, .call { callee := .value (.func 120), args := #[.tmp 12], argTypes := #[3] }, 36, _, _, none⟩ (by kernel_rfl) rfl (fun K hK => ?_)
      go_simp
      (go_at_call 120; (refine (HPS.out _).mono ?_); rintro r w6 ⟨rfl, ho, hb⟩; (try (have q := Lib.hid (HGM.out.keep hb); clear HGM; have HGM := q; clear q)); (try (have q := Lib.hid (HM.out.keep hb); clear HM; have HM := q; clear q)); (try (have q := Lib.hid (H8.out.keep hb); clear H8; have H8 := q; clear q)); (try (have q := Lib.hid (HS4.out.keep hb); clear HS4; have HS4 := q; clear q)); (try (have q := Lib.hid (HF4.out.keep hb); clear HF4; have HF4 := q; clear q)); (try (have q := Lib.hid (HN.out.keep hb); clear HN; have HN := q; clear q)); have HS4 := Lib.hid (FD.of (base := w.heap.size + 3) ho hS.2.2.2.sz); clear ho)
      refine hK.out _ _ ?_ (fun hS1 => ?_)
      · (first | exact hS | exact hN | exact LS.all (hS.2.2.2.next hb))
      clear hK K hS; have hS := hS1; clear hS1
      (try simp only [rgp])
      refine rg_one 10 ⟨some 16, .call { callee := .value (.func 120), args := #[.tmp 15], argTypes := #[3] }, 36, _, _, none⟩ (by kernel_rfl) rfl (fun K hK => ?_)
      go_simp
      (go_at_call 120; (refine (HPF.out _).mono ?_); rintro r w7 ⟨rfl, ho, hb⟩; (try (have q := Lib.hid (HGM.out.keep hb); clear HGM; have HGM := q; clear q)); (try (have q := Lib.hid (HM.out.keep hb); clear HM; have HM := q; clear q)); (try (have q := Lib.hid (H8.out.keep hb); clear H8; have H8 := q; clear q)); (try (have q := Lib.hid (HS4.out.keep hb); clear HS4; have HS4 := q; clear q)); (try (have q := Lib.hid (HF4.out.keep hb); clear HF4; have HF4 := q; clear q)); (try (have q := Lib.hid (HN.out.keep hb); clear HN; have HN := q; clear q)); have HF4 := Lib.hid (FD.of (base := w.heap.size + 3) ho hS.2.2.2.sz); clear ho)
    rotate_left
    focus
      go_simp
      (go_at_call 113; (refine (HP8.out _).mono ?_); rintro r w4 ⟨rfl, ho, hb⟩; (try (have q := Lib.hid (HGM.out.keep hb); clear HGM; have HGM := q; clear q)); (try (have q := Lib.hid (HM.out.keep hb); clear HM; have HM := q; clear q)); (try (have q := Lib.hid (H8.out.keep hb); clear H8; have H8 := q; clear q)); (try (have q := Lib.hid (HS4.out.keep hb); clear HS4; have HS4 := q; clear q)); (try (have q := Lib.hid (HF4.out.keep hb); clear HF4; have HF4 := q; clear q)); (try (have q := Lib.hid (HN.out.keep hb); clear HN; have HN := q; clear q)); have H8 := Lib.hid (FD.of (base := w.heap.size + 3) ho hS.2.2.2.sz); clear ho)
      refine hK.out _ _ ?_ (fun hS1 => ?_)
      · (first | exact hS | exact hN | exact LS.all (hS.2.2.2.next hb))
      clear hK K hS; have hS := hS1; clear hS1
      (try simp only [rgp])
      refine rg_both 1 7 ⟨some 7, .convert 36 36 (.tmp 6), 36, _, _, none⟩ ⟨some 13, .call { callee := .value (.func 120), args := #[.tmp 12], argTypes := #[3] }, 36, _, _, none⟩ (by kernel_rfl) rfl rfl (fun K hK => ?_) (fun K hK => ?_)
      focus
        rw [if_pos (by rfl)]; refine wp_conv_mark (.tmp 6) rfl gm rfl HGM.out ?_; intro w5b hsm hg5; have hN := LS.all (hS.2.2.2.overq hg5.out HGE.out); (try (have q := Lib.hid (H8.out.same hsm.out); clear H8; have H8 := q; clear q)); (try (have q := Lib.hid (HS4.out.same hsm.out); clear HS4; have HS4 := q; clear q)); (try (have q := Lib.hid (HF4.out.same hsm.out); clear HF4; have HF4 := q; clear q)); have HM := Lib.hid ((fd_mark (base := w.heap.size + 3) HGM.out HGE.out).same hsm.out); (have q := Lib.hid (HN.out.over hg5.out (by have := HGE.out; omega)); clear HN; have HN := q; clear q); clear HGM hsm hg5
        refine hK.out _ _ ?_ (fun hS1 => ?_)
        · (first | exact hS | exact hN | exact LS.all (hS.2.2.2.next hb))
        clear hK K hS; have hS := hS1; clear hS1
        (try simp only [rgp])
        refine rg_one 7 ⟨some 13, .call { callee := .value (.func 120), args := #[.tmp 12], argTypes := #[3] }, 36, _, _, none⟩ (by kernel_rfl) rfl (fun K hK => ?_)
        go_simp
        (go_at_call 120; (refine (HPS.out _).mono ?_); rintro r w6 ⟨rfl, ho, hb⟩; (try (have q := Lib.hid (HGM.out.keep hb); clear HGM; have HGM := q; clear q)); (try (have q := Lib.hid (HM.out.keep hb); clear HM; have HM := q; clear q)); (try (have q := Lib.hid (H8.out.keep hb); clear H8; have H8 := q; clear q)); (try (have q := Lib.hid (HS4.out.keep hb); clear HS4; have HS4 := q; clear q)); (try (have q := Lib.hid (HF4.out.keep hb); clear HF4; have HF4 := q; clear q)); (try (have q := Lib.hid (HN.out.keep hb); clear HN; have HN := q; clear q)); have HS4 := Lib.hid (FD.of (base := w.heap.size + 3) ho hS.2.2.2.sz); clear ho)
        refine hK.out _ _ ?_ (fun hS1 => ?_)
        · (first | exact hS | exact hN | exact LS.all (hS.2.2.2.next hb))
        clear hK K hS; have hS := hS1; clear hS1
        (try simp only [rgp])
        refine rg_one 10 ⟨some 16, .call { callee := .value (.func 120), args := #[.tmp 15], argTypes := #[3] }, 36, _, _, none⟩ (by kernel_rfl) rfl (fun K hK => ?_)
        go_simp
        (go_at_call 120; (refine (HPF.out _).mono ?_); rintro r w7 ⟨rfl, ho, hb⟩; (try (have q := Lib.hid (HGM.out.keep hb); clear HGM; have HGM := q; clear q)); (try (have q := Lib.hid (HM.out.keep hb); clear HM; have HM := q; clear q)); (try (have q := Lib.hid (H8.out.keep hb); clear H8; have H8 := q; clear q)); (try (have q := Lib.hid (HS4.out.keep hb); clear HS4; have HS4 := q; clear q)); (try (have q := Lib.hid (HF4.out.keep hb); clear HF4; have HF4 := q; clear q)); (try (have q := Lib.hid (HN.out.keep hb); clear HN; have HN := q; clear q)); have HF4 := Lib.hid (FD.of (base := w.heap.size + 3) ho hS.2.2.2.sz); clear ho)
      rotate_left
      focus
        go_simp
        (go_at_call 120; (refine (HPS.out _).mono ?_); rintro r w6 ⟨rfl, ho, hb⟩; (try (have q := Lib.hid (HGM.out.keep hb); clear HGM; have HGM := q; clear q)); (try (have q := Lib.hid (HM.out.keep hb); clear HM; have HM := q; clear q)); (try (have q := Lib.hid (H8.out.keep hb); clear H8; have H8 := q; clear q)); (try (have q := Lib.hid (HS4.out.keep hb); clear HS4; have HS4 := q; clear q)); (try (have q := Lib.hid (HF4.out.keep hb); clear HF4; have HF4 := q; clear q)); (try (have q := Lib.hid (HN.out.keep hb); clear HN; have HN := q; clear q)); have HS4 := Lib.hid (FD.of (base := w.heap.size + 3) ho hS.2.2.2.sz); clear ho)
        refine hK.out _ _ ?_ (fun hS1 => ?_)
        · (first | exact hS | exact hN | exact LS.all (hS.2.2.2.next hb))
        clear hK K hS; have hS := hS1; clear hS1
        (try simp only [rgp])
        refine rg_both 1 10 ⟨some 7, .convert 36 36 (.tmp 6), 36, _, _, none⟩ ⟨some 16, .call { callee := .value (.func 120), args := #[.tmp 15], argTypes := #[3] }, 36, _, _, none⟩ (by kernel_rfl) rfl rfl (fun K hK => ?_) (fun K hK => ?_)
        focus
          rw [if_pos (by rfl)]; refine wp_conv_mark (.tmp 6) rfl gm rfl HGM.out ?_; intro w5b hsm hg5; have hN := LS.all (hS.2.2.2.overq hg5.out HGE.out); (try (have q := Lib.hid (H8.out.same hsm.out); clear H8; have H8 := q; clear q)); (try (have q := Lib.hid (HS4.out.same hsm.out); clear HS4; have HS4 := q; clear q)); (try (have q := Lib.hid (HF4.out.same hsm.out); clear HF4; have HF4 := q; clear q)); have HM := Lib.hid ((fd_mark (base := w.heap.size + 3) HGM.out HGE.out).same hsm.out); (have q := Lib.hid (HN.out.over hg5.out (by have := HGE.out; omega)); clear HN; have HN := q; clear q); clear HGM hsm hg5
          refine hK.out _ _ ?_ (fun hS1 => ?_)
          · (first | exact hS | exact hN | exact LS.all (hS.2.2.2.next hb))
          clear hK K hS; have hS := hS1; clear hS1
          (try simp only [rgp])
          refine rg_one 10 ⟨some 16, .call { callee := .value (.func 120), args := #[.tmp 15], argTypes := #[3] }, 36, _, _, none⟩ (by kernel_rfl) rfl (fun K hK => ?_)
          go_simp
          (go_at_call 120; (refine (HPF.out _).mono ?_); rintro r w7 ⟨rfl, ho, hb⟩; (try (have q := Lib.hid (HGM.out.keep hb); clear HGM; have HGM := q; clear q)); (try (have q := Lib.hid (HM.out.keep hb); clear HM; have HM := q; clear q)); (try (have q := Lib.hid (H8.out.keep hb); clear H8; have H8 := q; clear q)); (try (have q := Lib.hid (HS4.out.keep hb); clear HS4; have HS4 := q; clear q)); (try (have q := Lib.hid (HF4.out.keep hb); clear HF4; have HF4 := q; clear q)); (try (have q := Lib.hid (HN.out.keep hb); clear HN; have HN := q; clear q)); have HF4 := Lib.hid (FD.of (base := w.heap.size + 3) ho hS.2.2.2.sz); clear ho)
        rotate_left
        focus
          go_simp
          (go_at_call 120; (refine (HPF.out _).mono ?_); rintro r w7 ⟨rfl, ho, hb⟩; (try (have q := Lib.hid (HGM.out.keep hb); clear HGM; have HGM := q; clear q)); (try (have q := Lib.hid (HM.out.keep hb); clear HM; have HM := q; clear q)); (try (have q := Lib.hid (H8.out.keep hb); clear H8; have H8 := q; clear q)); (try (have q := Lib.hid (HS4.out.keep hb); clear HS4; have HS4 := q; clear q)); (try (have q := Lib.hid (HF4.out.keep hb); clear HF4; have HF4 := q; clear q)); (try (have q := Lib.hid (HN.out.keep hb); clear HN; have HN := q; clear q)); have HF4 := Lib.hid (FD.of (base := w.heap.size + 3) ho hS.2.2.2.sz); clear ho)
          refine hK.out _ _ ?_ (fun hS1 => ?_)
          · (first | exact hS | exact hN | exact LS.all (hS.2.2.2.next hb))
          clear hK K hS; have hS := hS1; clear hS1
          (try simp only [rgp])
          refine rg_one 1 ⟨some 7, .convert 36 36 (.tmp 6), 36, _, _, none⟩ (by kernel_rfl) rfl (fun K hK => ?_)
          rw [if_pos (by rfl)]; refine wp_conv_mark (.tmp 6) rfl gm rfl HGM.out ?_; intro w5b hsm hg5; have hN := LS.all (hS.2.2.2.overq hg5.out HGE.out); (try (have q := Lib.hid (H8.out.same hsm.out); clear H8; have H8 := q; clear q)); (try (have q := Lib.hid (HS4.out.same hsm.out); clear HS4; have HS4 := q; clear q)); (try (have q := Lib.hid (HF4.out.same hsm.out); clear HF4; have HF4 := q; clear q)); have HM := Lib.hid ((fd_mark (base := w.heap.size + 3) HGM.out HGE.out).same hsm.out); (have q := Lib.hid (HN.out.over hg5.out (by have := HGE.out; omega)); clear HN; have HN := q; clear q); clear HGM hsm hg5
        rotate_left
      rotate_left 2
    rotate_left 3
  rotate_left 4
  focus
    go_simp
    (go_at_call 113; (refine (HP8.out _).mono ?_); rintro r w4 ⟨rfl, ho, hb⟩; (try (have q := Lib.hid (HGM.out.keep hb); clear HGM; have HGM := q; clear q)); (try (have q := Lib.hid (HM.out.keep hb); clear HM; have HM := q; clear q)); (try (have q := Lib.hid (H8.out.keep hb); clear H8; have H8 := q; clear q)); (try (have q := Lib.hid (HS4.out.keep hb); clear HS4; have HS4 := q; clear q)); (try (have q := Lib.hid (HF4.out.keep hb); clear HF4; have HF4 := q; clear q)); (try (have q := Lib.hid (HN.out.keep hb); clear HN; have HN := q; clear q)); have H8 := Lib.hid (FD.of (base := w.heap.size + 3) ho hS.2.2.2.sz); clear ho)
    refine hK.out _ _ ?_ (fun hS1 => ?_)
    · (first | exact hS | exact hN | exact LS.all (hS.2.2.2.next hb))
    clear hK K hS; have hS := hS1; clear hS1
    (try simp only [rgp])
    refine rg_both 0 7 ⟨some 6, .buildSlice 36 5 #[(0, .const (.int .u8 115)), (1, .const (.int .u8 116)), (2, .const (.int .u8 114)), (3, .const (.int .u8 100)), (4, .const (.int .u8 1))], 36, _, _, none⟩ ⟨some 13, .call { callee := .value (.func 120), args := #[.tmp 12], argTypes := #[3] }, 36, _, _, none⟩ (by kernel_rfl) rfl rfl (fun K hK => ?_) (fun K hK => ?_)
    focus
      rw [if_pos (by rfl)]; refine wp_mark rfl ?_; intro gm w5 hm hgm5 hb5; have hb := hb5.out; (try (have q := Lib.hid (HGM.out.keep hb); clear HGM; have HGM := q; clear q)); (try (have q := Lib.hid (HM.out.keep hb); clear HM; have HM := q; clear q)); (try (have q := Lib.hid (H8.out.keep hb); clear H8; have H8 := q; clear q)); (try (have q := Lib.hid (HS4.out.keep hb); clear HS4; have HS4 := q; clear q)); (try (have q := Lib.hid (HF4.out.keep hb); clear HF4; have HF4 := q; clear q)); (try (have q := Lib.hid (HN.out.keep hb); clear HN; have HN := q; clear q)); have HGM := hm; have HGE := Lib.hid (Nat.le_trans hS.2.2.2.sz hgm5.out); clear hm hb5 hgm5
      refine hK.out _ _ ?_ (fun hS1 => ?_)
      · (first | exact hS | exact hN | exact LS.all (hS.2.2.2.next hb))
      clear hK K hS; have hS := hS1; clear hS1
      (try simp only [rgp])
      refine rg_both 1 7 ⟨some 7, .convert 36 36 (.tmp 6), 36, _, _, none⟩ ⟨some 13, .call { callee := .value (.func 120), args := #[.tmp 12], argTypes := #[3] }, 36, _, _, none⟩ (by kernel_rfl) rfl rfl (fun K hK => ?_) (fun K hK => ?_)
      focus
        rw [if_pos (by rfl)]; refine wp_conv_mark (.tmp 6) rfl gm rfl HGM.out ?_; intro w5b hsm hg5; have hN := LS.all (hS.2.2.2.overq hg5.out HGE.out); (try (have q := Lib.hid (H8.out.same hsm.out); clear H8; have H8 := q; clear q)); (try (have q := Lib.hid (HS4.out.same hsm.out); clear HS4; have HS4 := q; clear q)); (try (have q := Lib.hid (HF4.out.same hsm.out); clear HF4; have HF4 := q; clear q)); have HM := Lib.hid ((fd_mark (base := w.heap.size + 3) HGM.out HGE.out).same hsm.out); (have q := Lib.hid (HN.out.over hg5.out (by have := HGE.out; omega)); clear HN; have HN := q; clear q); clear HGM hsm hg5
        refine hK.out _ _ ?_ (fun hS1 => ?_)
        · (first | exact hS | exact hN | exact LS.all (hS.2.2.2.next hb))
        clear hK K hS; have hS := hS1; clear hS1
        (try simp only [rgp])
        refine rg_one 7 ⟨some 13, .call { callee := .value (.func 120), args := #[.tmp 12], argTypes := #[3] }, 36, _, _, none⟩ (by kernel_rfl) rfl (fun K hK => ?_)
        go_simp
        (go_at_call 120; (refine (HPS.out _).mono ?_); rintro r w6 ⟨rfl, ho, hb⟩; (try (have q := Lib.hid (HGM.out.keep hb); clear HGM; have HGM := q; clear q)); (try (have q := Lib.hid (HM.out.keep hb); clear HM; have HM := q; clear q)); (try (have q := Lib.hid (H8.out.keep hb); clear H8; have H8 := q; clear q)); (try (have q := Lib.hid (HS4.out.keep hb); clear HS4; have HS4 := q; clear q)); (try (have q := Lib.hid (HF4.out.keep hb); clear HF4; have HF4 := q; clear q)); (try (have q := Lib.hid (HN.out.keep hb); clear HN; have HN := q; clear q)); have HS4 := Lib.hid (FD.of (base := w.heap.size + 3) ho hS.2.2.2.sz); clear ho)
        refine hK.out _ _ ?_ (fun hS1 => ?_)
        · (first | exact hS | exact hN | exact LS.all (hS.2.2.2.next hb))
        clear hK K hS; have hS := hS1; clear hS1
        (try simp only [rgp])
        refine rg_one 10 ⟨some 16, .call { callee := .value (.func 120), args := #[.tmp 15], argTypes := #[3] }, 36, _, _, none⟩ (by kernel_rfl) rfl (fun K hK => ?_)
        go_simp
        (go_at_call 120; (refine (HPF.out _).mono ?_); rintro r w7 ⟨rfl, ho, hb⟩; (try (have q := Lib.hid (HGM.out.keep hb); clear HGM; have HGM := q; clear q)); (try (have q := Lib.hid (HM.out.keep hb); clear HM; have HM := q; clear q)); (try (have q := Lib.hid (H8.out.keep hb); clear H8; have H8 := q; clear q)); (try (have q := Lib.hid (HS4.out.keep hb); clear HS4; have HS4 := q; clear q)); (try (have q := Lib.hid (HF4.out.keep hb); clear HF4; have HF4 := q; clear q)); (try (have q := Lib.hid (HN.out.keep hb); clear HN; have HN := q; clear q)); have HF4 := Lib.hid (FD.of (base := w.heap.size + 3) ho hS.2.2.2.sz); clear ho)
      rotate_left
      focus
        go_simp
        (go_at_call 120; (refine (HPS.out _).mono ?_); rintro r w6 ⟨rfl, ho, hb⟩; (try (have q := Lib.hid (HGM.out.keep hb); clear HGM; have HGM := q; clear q)); (try (have q := Lib.hid (HM.out.keep hb); clear HM; have HM := q; clear q)); (try (have q := Lib.hid (H8.out.keep hb); clear H8; have H8 := q; clear q)); (try (have q := Lib.hid (HS4.out.keep hb); clear HS4; have HS4 := q; clear q)); (try (have q := Lib.hid (HF4.out.keep hb); clear HF4; have HF4 := q; clear q)); (try (have q := Lib.hid (HN.out.keep hb); clear HN; have HN := q; clear q)); have HS4 := Lib.hid (FD.of (base := w.heap.size + 3) ho hS.2.2.2.sz); clear ho)
        refine hK.out _ _ ?_ (fun hS1 => ?_)
        · (first | exact hS | exact hN | exact LS.all (hS.2.2.2.next hb))
        clear hK K hS; have hS := hS1; clear hS1
        (try simp only [rgp])
        refine rg_both 1 10 ⟨some 7, .convert 36 36 (.tmp 6), 36, _, _, none⟩ ⟨some 16, .call { callee := .value (.func 120), args := #[.tmp 15], argTypes := #[3] }, 36, _, _, none⟩ (by kernel_rfl) rfl rfl (fun K hK => ?_) (fun K hK => ?_)
        focus
          rw [if_pos (by rfl)]; refine wp_conv_mark (.tmp 6) rfl gm rfl HGM.out ?_; intro w5b hsm hg5; have hN := LS.all (hS.2.2.2.overq hg5.out HGE.out); (try (have q := Lib.hid (H8.out.same hsm.out); clear H8; have H8 := q; clear q)); (try (have q := Lib.hid (HS4.out.same hsm.out); clear HS4; have HS4 := q; clear q)); (try (have q := Lib.hid (HF4.out.same hsm.out); clear HF4; have HF4 := q; clear q)); have HM := Lib.hid ((fd_mark (base := w.heap.size + 3) HGM.out HGE.out).same hsm.out); (have q := Lib.hid (HN.out.over hg5.out (by have := HGE.out; omega)); clear HN; have HN := q; clear q); clear HGM hsm hg5
          refine hK.out _ _ ?_ (fun hS1 => ?_)
          · (first | exact hS | exact hN | exact LS.all (hS.2.2.2.next hb))
          clear hK K hS; have hS := hS1; clear hS1
          (try simp only [rgp])
          refine rg_one 10 ⟨some 16, .call { callee := .value (.func 120), args := #[.tmp 15], argTypes := #[3] }, 36, _, _, none⟩ (by kernel_rfl) rfl (fun K hK => ?_)
          go_simp
          (go_at_call 120; (refine (HPF.out _).mono ?_); rintro r w7 ⟨rfl, ho, hb⟩; (try (have q := Lib.hid (HGM.out.keep hb); clear HGM; have HGM := q; clear q)); (try (have q := Lib.hid (HM.out.keep hb); clear HM; have HM := q; clear q)); (try (have q := Lib.hid (H8.out.keep hb); clear H8; have H8 := q; clear q)); (try (have q := Lib.hid (HS4.out.keep hb); clear HS4; have HS4 := q; clear q)); (try (have q := Lib.hid (HF4.out.keep hb); clear HF4; have HF4 := q; clear q)); (try (have q := Lib.hid (HN.out.keep hb); clear HN; have HN := q; clear q)); have HF4 := Lib.hid (FD.of (base := w.heap.size + 3) ho hS.2.2.2.sz); clear ho)
        rotate_left
        focus
          go_simp
          (go_at_call 120; (refine (HPF.out _).mono ?_); rintro r w7 ⟨rfl, ho, hb⟩; (try (have q := Lib.hid (HGM.out.keep hb); clear HGM; have HGM := q; clear q)); (try (have q := Lib.hid (HM.out.keep hb); clear HM; have HM := q; clear q)); (try (have q := Lib.hid (H8.out.keep hb); clear H8; have H8 := q; clear q)); (try (have q := Lib.hid (HS4.out.keep hb); clear HS4; have HS4 := q; clear q)); (try (have q := Lib.hid (HF4.out.keep hb); clear HF4; have HF4 := q; clear q)); (try (have q := Lib.hid (HN.out.keep hb); clear HN; have HN := q; clear q)); have HF4 := Lib.hid (FD.of (base := w.heap.size + 3) ho hS.2.2.2.sz); clear ho)
          refine hK.out _ _ ?_ (fun hS1 => ?_)
          · (first | exact hS | exact hN | exact LS.all (hS.2.2.2.next hb))
          clear hK K hS; have hS := hS1; clear hS1
          (try simp only [rgp])
          refine rg_one 1 ⟨some 7, .convert 36 36 (.tmp 6), 36, _, _, none⟩ (by kernel_rfl) rfl (fun K hK => ?_)
          rw [if_pos (by rfl)]; refine wp_conv_mark (.tmp 6) rfl gm rfl HGM.out ?_; intro w5b hsm hg5; have hN := LS.all (hS.2.2.2.overq hg5.out HGE.out); (try (have q := Lib.hid (H8.out.same hsm.out); clear H8; have H8 := q; clear q)); (try (have q := Lib.hid (HS4.out.same hsm.out); clear HS4; have HS4 := q; clear q)); (try (have q := Lib.hid (HF4.out.same hsm.out); clear HF4; have HF4 := q; clear q)); have HM := Lib.hid ((fd_mark (base := w.heap.size + 3) HGM.out HGE.out).same hsm.out); (have q := Lib.hid (HN.out.over hg5.out (by have := HGE.out; omega)); clear HN; have HN := q; clear q); clear HGM hsm hg5
        rotate_left
      rotate_left 2
    rotate_left 3
    focus
      go_simp
      (go_at_call 120; (refine (HPS.out _).mono ?_); rintro r w6 ⟨rfl, ho, hb⟩; (try (have q := Lib.hid (HGM.out.keep hb); clear HGM; have HGM := q; clear q)); (try (have q := Lib.hid (HM.out.keep hb); clear HM; have HM := q; clear q)); (try (have q := Lib.hid (H8.out.keep hb); clear H8; have H8 := q; clear q)); (try (have q := Lib.hid (HS4.out.keep hb); clear HS4; have HS4 := q; clear q)); (try (have q := Lib.hid (HF4.out.keep hb); clear HF4; have HF4 := q; clear q)); (try (have q := Lib.hid (HN.out.keep hb); clear HN; have HN := q; clear q)); have HS4 := Lib.hid (FD.of (base := w.heap.size + 3) ho hS.2.2.2.sz); clear ho)
      refine hK.out _ _ ?_ (fun hS1 => ?_)
      · (first | exact hS | exact hN | exact LS.all (hS.2.2.2.next hb))
      clear hK K hS; have hS := hS1; clear hS1
      (try simp only [rgp])
      refine rg_both 0 10 ⟨some 6, .buildSlice 36 5 #[(0, .const (.int .u8 115)), (1, .const (.int .u8 116)), (2, .const (.int .u8 114)), (3, .const (.int .u8 100)), (4, .const (.int .u8 1))], 36, _, _, none⟩ ⟨some 16, .call { callee := .value (.func 120), args := #[.tmp 15], argTypes := #[3] }, 36, _, _, none⟩ (by kernel_rfl) rfl rfl (fun K hK => ?_) (fun K hK => ?_)
      focus
        rw [if_pos (by rfl)]; refine wp_mark rfl ?_; intro gm w5 hm hgm5 hb5; have hb := hb5.out; (try (have q := Lib.hid (HGM.out.keep hb); clear HGM; have HGM := q; clear q)); (try (have q := Lib.hid (HM.out.keep hb); clear HM; have HM := q; clear q)); (try (have q := Lib.hid (H8.out.keep hb); clear H8; have H8 := q; clear q)); (try (have q := Lib.hid (HS4.out.keep hb); clear HS4; have HS4 := q; clear q)); (try (have q := Lib.hid (HF4.out.keep hb); clear HF4; have HF4 := q; clear q)); (try (have q := Lib.hid (HN.out.keep hb); clear HN; have HN := q; clear q)); have HGM := hm; have HGE := Lib.hid (Nat.le_trans hS.2.2.2.sz hgm5.out); clear hm hb5 hgm5
        refine hK.out _ _ ?_ (fun hS1 => ?_)
        · (first | exact hS | exact hN | exact LS.all (hS.2.2.2.next hb))
        clear hK K hS; have hS := hS1; clear hS1
        (try simp only [rgp])
        refine rg_both 1 10 ⟨some 7, .convert 36 36 (.tmp 6), 36, _, _, none⟩ ⟨some 16, .call { callee := .value (.func 120), args := #[.tmp 15], argTypes := #[3] }, 36, _, _, none⟩ (by kernel_rfl) rfl rfl (fun K hK => ?_) (fun K hK => ?_)
        focus
          rw [if_pos (by rfl)]; refine wp_conv_mark (.tmp 6) rfl gm rfl HGM.out ?_; intro w5b hsm hg5; have hN := LS.all (hS.2.2.2.overq hg5.out HGE.out); (try (have q := Lib.hid (H8.out.same hsm.out); clear H8; have H8 := q; clear q)); (try (have q := Lib.hid (HS4.out.same hsm.out); clear HS4; have HS4 := q; clear q)); (try (have q := Lib.hid (HF4.out.same hsm.out); clear HF4; have HF4 := q; clear q)); have HM := Lib.hid ((fd_mark (base := w.heap.size + 3) HGM.out HGE.out).same hsm.out); (have q := Lib.hid (HN.out.over hg5.out (by have := HGE.out; omega)); clear HN; have HN := q; clear q); clear HGM hsm hg5
          refine hK.out _ _ ?_ (fun hS1 => ?_)
          · (first | exact hS | exact hN | exact LS.all (hS.2.2.2.next hb))
          clear hK K hS; have hS := hS1; clear hS1
          (try simp only [rgp])
          refine rg_one 10 ⟨some 16, .call { callee := .value (.func 120), args := #[.tmp 15], argTypes := #[3] }, 36, _, _, none⟩ (by kernel_rfl) rfl (fun K hK => ?_)
          go_simp
          (go_at_call 120; (refine (HPF.out _).mono ?_); rintro r w7 ⟨rfl, ho, hb⟩; (try (have q := Lib.hid (HGM.out.keep hb); clear HGM; have HGM := q; clear q)); (try (have q := Lib.hid (HM.out.keep hb); clear HM; have HM := q; clear q)); (try (have q := Lib.hid (H8.out.keep hb); clear H8; have H8 := q; clear q)); (try (have q := Lib.hid (HS4.out.keep hb); clear HS4; have HS4 := q; clear q)); (try (have q := Lib.hid (HF4.out.keep hb); clear HF4; have HF4 := q; clear q)); (try (have q := Lib.hid (HN.out.keep hb); clear HN; have HN := q; clear q)); have HF4 := Lib.hid (FD.of (base := w.heap.size + 3) ho hS.2.2.2.sz); clear ho)
        rotate_left
        focus
          go_simp
          (go_at_call 120; (refine (HPF.out _).mono ?_); rintro r w7 ⟨rfl, ho, hb⟩; (try (have q := Lib.hid (HGM.out.keep hb); clear HGM; have HGM := q; clear q)); (try (have q := Lib.hid (HM.out.keep hb); clear HM; have HM := q; clear q)); (try (have q := Lib.hid (H8.out.keep hb); clear H8; have H8 := q; clear q)); (try (have q := Lib.hid (HS4.out.keep hb); clear HS4; have HS4 := q; clear q)); (try (have q := Lib.hid (HF4.out.keep hb); clear HF4; have HF4 := q; clear q)); (try (have q := Lib.hid (HN.out.keep hb); clear HN; have HN := q; clear q)); have HF4 := Lib.hid (FD.of (base := w.heap.size + 3) ho hS.2.2.2.sz); clear ho)
          refine hK.out _ _ ?_ (fun hS1 => ?_)
          · (first | exact hS | exact hN | exact LS.all (hS.2.2.2.next hb))
          clear hK K hS; have hS := hS1; clear hS1
          (try simp only [rgp])
          refine rg_one 1 ⟨some 7, .convert 36 36 (.tmp 6), 36, _, _, none⟩ (by kernel_rfl) rfl (fun K hK => ?_)
          rw [if_pos (by rfl)]; refine wp_conv_mark (.tmp 6) rfl gm rfl HGM.out ?_; intro w5b hsm hg5; have hN := LS.all (hS.2.2.2.overq hg5.out HGE.out); (try (have q := Lib.hid (H8.out.same hsm.out); clear H8; have H8 := q; clear q)); (try (have q := Lib.hid (HS4.out.same hsm.out); clear HS4; have HS4 := q; clear q)); (try (have q := Lib.hid (HF4.out.same hsm.out); clear HF4; have HF4 := q; clear q)); have HM := Lib.hid ((fd_mark (base := w.heap.size + 3) HGM.out HGE.out).same hsm.out); (have q := Lib.hid (HN.out.over hg5.out (by have := HGE.out; omega)); clear HN; have HN := q; clear q); clear HGM hsm hg5
        rotate_left
      rotate_left 2
      focus
        go_simp
        (go_at_call 120; (refine (HPF.out _).mono ?_); rintro r w7 ⟨rfl, ho, hb⟩; (try (have q := Lib.hid (HGM.out.keep hb); clear HGM; have HGM := q; clear q)); (try (have q := Lib.hid (HM.out.keep hb); clear HM; have HM := q; clear q)); (try (have q := Lib.hid (H8.out.keep hb); clear H8; have H8 := q; clear q)); (try (have q := Lib.hid (HS4.out.keep hb); clear HS4; have HS4 := q; clear q)); (try (have q := Lib.hid (HF4.out.keep hb); clear HF4; have HF4 := q; clear q)); (try (have q := Lib.hid (HN.out.keep hb); clear HN; have HN := q; clear q)); have HF4 := Lib.hid (FD.of (base := w.heap.size + 3) ho hS.2.2.2.sz); clear ho)
        refine hK.out _ _ ?_ (fun hS1 => ?_)
        · (first | exact hS | exact hN | exact LS.all (hS.2.2.2.next hb))
        clear hK K hS; have hS := hS1; clear hS1
        (try simp only [rgp])
        refine rg_one 0 ⟨some 6, .buildSlice 36 5 #[(0, .const (.int .u8 115)), (1, .const (.int .u8 116)), (2, .const (.int .u8 114)), (3, .const (.int .u8 100)), (4, .const (.int .u8 1))], 36, _, _, none⟩ (by kernel_rfl) rfl (fun K hK => ?_)
        rw [if_pos (by rfl)]; refine wp_mark rfl ?_; intro gm w5 hm hgm5 hb5; have hb := hb5.out; (try (have q := Lib.hid (HGM.out.keep hb); clear HGM; have HGM := q; clear q)); (try (have q := Lib.hid (HM.out.keep hb); clear HM; have HM := q; clear q)); (try (have q := Lib.hid (H8.out.keep hb); clear H8; have H8 := q; clear q)); (try (have q := Lib.hid (HS4.out.keep hb); clear HS4; have HS4 := q; clear q)); (try (have q := Lib.hid (HF4.out.keep hb); clear HF4; have HF4 := q; clear q)); (try (have q := Lib.hid (HN.out.keep hb); clear HN; have HN := q; clear q)); have HGM := hm; have HGE := Lib.hid (Nat.le_trans hS.2.2.2.sz hgm5.out); clear hm hb5 hgm5
        refine hK.out _ _ ?_ (fun hS1 => ?_)
        · (first | exact hS | exact hN | exact LS.all (hS.2.2.2.next hb))
        clear hK K hS; have hS := hS1; clear hS1
        (try simp only [rgp])
        refine rg_one 1 ⟨some 7, .convert 36 36 (.tmp 6), 36, _, _, none⟩ (by kernel_rfl) rfl (fun K hK => ?_)
        rw [if_pos (by rfl)]; refine wp_conv_mark (.tmp 6) rfl gm rfl HGM.out ?_; intro w5b hsm hg5; have hN := LS.all (hS.2.2.2.overq hg5.out HGE.out); (try (have q := Lib.hid (H8.out.same hsm.out); clear H8; have H8 := q; clear q)); (try (have q := Lib.hid (HS4.out.same hsm.out); clear HS4; have HS4 := q; clear q)); (try (have q := Lib.hid (HF4.out.same hsm.out); clear HF4; have HF4 := q; clear q)); have HM := Lib.hid ((fd_mark (base := w.heap.size + 3) HGM.out HGE.out).same hsm.out); (have q := Lib.hid (HN.out.over hg5.out (by have := HGE.out; omega)); clear HN; have HN := q; clear q); clear HGM hsm hg5
      rotate_left
    rotate_left 3
  rotate_left 6
  all_goals
    refine hK.out _ _ ?_ (fun hS1 => ?_)
    · (first | exact hS | exact hN | exact LS.all (hS.2.2.2.next hb))
    clear hK K hS; have hS := hS1; clear hS1
    (try simp only [rgp])
    refine rg_one 11 ⟨some 17, .buildSlice 167 4 #[(0, .tmp 7), (1, .tmp 10), (2, .tmp 13), (3, .tmp 16)], 167, _, _, none⟩ (by kernel_rfl) rfl (fun K hK => ?_)
    rw [if_pos (by rfl)]; refine wp_lit4 (.tmp 7) (.tmp 10) (.tmp 13) (.tmp 16) rfl _ _ _ _ _ _ _ _ _ _ _ _ rfl rfl rfl rfl ?_; intro gl w8 hl hgl hb8; have hb := hb8.out; (try (have q := Lib.hid (HGM.out.keep hb); clear HGM; have HGM := q; clear q)); (try (have q := Lib.hid (HM.out.keep hb); clear HM; have HM := q; clear q)); (try (have q := Lib.hid (H8.out.keep hb); clear H8; have H8 := q; clear q)); (try (have q := Lib.hid (HS4.out.keep hb); clear HS4; have HS4 := q; clear q)); (try (have q := Lib.hid (HF4.out.keep hb); clear HF4; have HF4 := q; clear q)); (try (have q := Lib.hid (HN.out.keep hb); clear HN; have HN := q; clear q)); have HRL := Lib.hid (rl_lit (g := w.heap.size + 2) (base := w.heap.size + 3) (n := 4) (ls := [mark, putL e 8, putL s 4, putL f 4]) hl.out (by omega) (Nat.le_trans hS.2.2.2.sz hgl.out) rfl rfl (by omega) (fd_four HM.out H8.out HS4.out HF4.out)); clear hl hgl hb8
    refine hK.out _ _ ?_ (fun hS1 => ?_)
    · (first | exact hS | exact hN | exact LS.all (hS.2.2.2.next hb))
    clear hK K hS; have hS := hS1; clear hS1
    (try simp only [rgp])
    refine rg_one 12 ⟨some 18, .call { callee := .value (.func 119), args := #[.tmp 3, .const (.int .i64 0), .tmp 17], argTypes := #[154, 3, 167] }, 0, _, _, none⟩ (by kernel_rfl) rfl (fun K hK => ?_)
    go_simp
    (go_at_call 119; (refine (hput_any (w.heap.size + 2) 0 4 z64 [mark, putL e 8, putL s 4, putL f 4] _ _ HN.out HRL.out (by intro y hy; simp only [List.mem_cons, List.not_mem_nil, or_false] at hy; rcases hy with rfl | rfl | rfl | rfl <;> simp [putL_length, mark_length]) (by rw [p0_flat, p0_length]; omega)).mono ?_); rintro r w9 ⟨rfl, hk9, hg9⟩; have hN := LS.all (hS.2.2.2.over hg9); clear HN; have HN := Lib.hid hk9; clear hk9 hg9)
    refine hK.out _ _ ?_ (fun hS1 => ?_)
    · (first | exact hS | exact hN | exact LS.all (hS.2.2.2.next hb))
    clear hK K hS; have hS := hS1; clear hS1
    (try simp only [rgp])
    refine wpAnyH_done (by kernel_rfl) ?_ _
    have HLS := Lib.hid hS.2.2.2
    have HN7 := Lib.hid HN.out
    clear hS HN HRL
    (try clear hN hb)
    (try clear HM H8 HS4 HF4 HGE)
    go_wp2_with (first
      | (refine wpl_load_l4 rfl (.tmp 19) rfl rfl HLS.out.hb ?_))
    go_loopw [21] (fun v wr => ∃ i : Nat, v = .int .i64 i ∧ i ≤ 4 ∧ Hid (LS w ⟨e, s, f, l⟩ wr) ∧ Hid (Blk wr (w.heap.size + 2) (splice z64 0 (p0 e s f ++ put4 (l.take i))))) (fun v _ => 4 - (intOf v).toNat)
    case atStart => exact ⟨0, rfl, by omega, HLS, Lib.hid (by have h1 := HN7.out; rw [p0_flat] at h1; simpa [put4] using h1)⟩
    case round =>
      obtain ⟨i, rfl, hi, HR, HNR⟩ := hrel
      by_cases hlt : i < 4
      · have hix := index_l4 l HLN.out i hlt
        obtain ⟨x, hx⟩ : ∃ x, l.getD i 0 = x := ⟨_, rfl⟩
        rw [hx] at hix
        have HXB := Lib.hid (show 0 ≤ x ∧ x ≤ 2147483647 from by rw [← hx]; exact HLB.out _ (getD_memH (by rw [HLN.out]; exact hlt)))
        have HPS := Lib.hid (put4_take l i (by rw [HLN.out]; exact hlt))
        rw [hx] at HPS
        have HNU : Hid (∀ w, Calls Tryz.prog 120 #[.int .i64 x] w fun r w' => r = .returned (.slice (some ⟨w.heap.size, 0, none⟩) 4 4) ∧ w'.ownsRow w.heap.size 5 1 (.slice (some ⟨w.heap.size, 0, none⟩) 4 4) 4 (il .u8 (putL x 4)) ∧ Below w.heap.size w w') := Lib.hid (number_any x HXB.out.1 HXB.out.2)
        obtain ⟨p, hp⟩ : ∃ p : Nat, 21 + 4 * i = p := ⟨_, rfl⟩
        have hp2 : (21 : Int) + 4 * (i : Int) = (p : Int) := by omega
        have hlt2 : (i : Int) < 4 := by omega
        have hpb : (p : Int) ≤ 33 := by omega
        have HPL := Lib.hid (show (p0 e s f ++ put4 (l.take i)).length = p from by rw [List.length_append, p0_length, put4_length, List.length_take, HLN.out]; omega)
        clear hx hp
        go_wp2_with (first
          | (go_at_call 120; (with_reducible refine (HNU.out _).mono ?_); rintro r w7 ⟨rfl, ho7, hb7⟩; have HF7 := Lib.hid (FD.of ho7 HR.out.sz); have HR7 := Lib.hid (HR.out.next hb7); have HN7 := Lib.hid (HNR.out.keep hb7); clear ho7 hb7)
          | (refine wpl_lit1 rfl (.tmp 29) rfl _ _ _ rfl ?_; intro gl w8 hl8 hgl8 hb8; have HR8 := Lib.hid (HR7.out.next hb8.out); have HN8 := Lib.hid (HN7.out.keep hb8.out); have HRL8 := Lib.hid (rl_lit (g := w.heap.size + 2) (base := w.heap.size + 3) (n := 1) (ls := [putL x 4]) hl8.out (by omega) (Nat.le_trans HR7.out.sz hgl8.out) rfl rfl (by omega) (fd_one (HF7.out.keep hb8.out))); clear hl8 hgl8 hb8)
          | (go_at_call 119; (refine (hput_any (w.heap.size + 2) p 1 _ [putL x 4] _ _ HN8.out HRL8.out (by intro y hy; simp only [List.mem_cons, List.not_mem_nil, or_false] at hy; subst hy; rw [putL_length]; omega) (by simp [putL_length]; omega)).mono ?_); rintro r w9 ⟨rfl, hk9, hg9⟩; have HR9 := Lib.hid (HR8.out.over hg9); have HN9 := Lib.hid hk9; clear hk9 hg9))
        go_roundw
        case rel =>
          refine ⟨i + 1, by go_num, by omega, HR9, Lib.hid ?_⟩
          have h1 := HN9.out
          simp only [List.flatten_cons, List.flatten_nil, List.append_nil] at h1
          have h2 := splice_more z64 0 (p0 e s f ++ put4 (l.take i)) (putL x 4) (by rw [HPL.out, z64_length]; omega)
          rw [HPL.out, Nat.zero_add] at h2
          rw [h2, List.append_assoc, HPS.out] at h1
          exact h1
        case measure => simp [intOf]; omega
      · obtain rfl : i = 4 := by omega
        have HNF := Lib.hid (show Blk wr (w.heap.size + 2) (splice z64 0 (headP ⟨e, s, f, l⟩)) from by have h1 := HNR.out; rwa [List.take_of_length_le (by rw [HLN.out]; omega)] at h1)
        have HFIN := Lib.hid (lay_done ⟨e, s, f, l⟩ HLN.out)
        obtain ⟨L, hL⟩ : ∃ L, splice z64 0 (headP ⟨e, s, f, l⟩) = L := ⟨_, rfl⟩
        rw [hL] at HNF HFIN
        obtain ⟨m, hm⟩ : ∃ m, headS ⟨e, s, f, l⟩ = m := ⟨_, rfl⟩
        rw [hm] at HFIN
        have HSU : Hid (Calls Tryz.prog 100 #[.agg (sv L)] wr fun r w' => ∃ p, r = .returned (.slice (some ⟨p, 0, none⟩) 4 4) ∧ w'.ownsRow wr.heap.size 5 1 (.slice (some ⟨p, 0, none⟩) 4 4) 4 (il .u8 (putL m 4)) ∧ Below wr.heap.size wr w') := Lib.hid (hsum_any (HT.out.keep HR.out.below) L HNF.out.2 HFIN.out.1 (by rw [HFIN.out.2.1]; exact hm))
        obtain ⟨wz, hwz⟩ : ∃ q, q = wr := ⟨_, rfl⟩
        subst hwz
        clear hL hm
        go_wp2_with (first
          | (refine wpl_load_sec (by rfl) (.tmp 3) rfl (w.heap.size + 2) rfl L HNF.out ?_)
          | (go_at_call 100; (with_reducible refine (HSU.out).mono ?_); rintro r w7 ⟨p7, rfl, ho7, hb7⟩; have HF7 := Lib.hid (FD.of ho7 HR.out.sz); have HR7 := Lib.hid (HR.out.next hb7); have HN7 := Lib.hid (HNF.out.keep hb7); clear ho7 hb7)
          | (refine wpl_lit1 rfl (.tmp 34) rfl _ _ _ rfl ?_; intro gl w8 hl8 hgl8 hb8; have HR8 := Lib.hid (HR7.out.next hb8.out); have HN8 := Lib.hid (HN7.out.keep hb8.out); have HRL8 := Lib.hid (rl_lit (g := w.heap.size + 2) (base := w.heap.size + 3) (n := 1) (ls := [putL m 4]) hl8.out (by omega) (Nat.le_trans HR7.out.sz hgl8.out) rfl rfl (by omega) (fd_one (HF7.out.keep hb8.out))); clear hl8 hgl8 hb8)
          | (go_at_call 119; (refine (hput_any (w.heap.size + 2) 37 1 _ [putL m 4] _ _ HN8.out HRL8.out (by intro y hy; simp only [List.mem_cons, List.not_mem_nil, or_false] at hy; subst hy; rw [putL_length]; omega) (by simp [putL_length])).mono ?_); rintro r w9 ⟨rfl, hk9, hg9⟩; have HR9 := Lib.hid (HR8.out.over hg9); have HN9 := Lib.hid (show Blk w9 (w.heap.size + 2) (secH ⟨e, s, f, l⟩) from by rw [← HFIN.out.2.2]; simpa using hk9); clear hk9 hg9)
          | (refine wpl_load_sec (by rfl) (.tmp 3) rfl (w.heap.size + 2) rfl (secH ⟨e, s, f, l⟩) HN9.out ?_)
          | (refine wpl_put_sec rfl (.tmp 2) (.tmp 37) rfl (w.heap.size + 1) z64 (secH ⟨e, s, f, l⟩) HR9.out.old (secH_length HLN.out) rfl rfl ?_; intro wf HO HGF))
        refine bodyPost_ret_by (v := .agg (sv (secH ⟨e, s, f, l⟩))) (results_cell_row rfl _ _ (w.heap.size + 1) _ (sv (secH ⟨e, s, f, l⟩)) (0, 0) _ rfl HO.out.1 Tryz.underlying63 rfl (sv_info _ (secH_length HLN.out))) rfl ⟨rfl, ?_⟩
        exact hbelow_grown HR9.out.below HGF.out (by omega) HR9.out.below.size
end Go.Proofs.YtpoiapfgbbmekaaGreatDoor
namespace Go.Proofs.YtpoiapfgbbmekaaGreatDoor
open Go.RowKit
def btwn (n a b : Int) : Bool := decide (a ≤ n ∧ n ≤ b)
theorem within_any (n a b : Int) (w : World) : Calls Tryz.prog 73 #[.int .i64 n, .int .i64 a, .int .i64 b] w fun e w' => e = .returned (.bool (btwn n a b)) ∧ w = w' := by
  by_cases h1 : a ≤ n
  · by_cases h2 : n ≤ b
    · rw [show btwn n a b = true from by simp [btwn, h1, h2]]
      go_enter Tryz.func73, Tryz.ntmps73
      go_wp2
      go_ret
      exact ⟨rfl, rfl⟩
    · rw [show btwn n a b = false from by simp [btwn, h2]]
      go_enter Tryz.func73, Tryz.ntmps73
      go_wp2
      go_ret
      exact ⟨rfl, rfl⟩
  · rw [show btwn n a b = false from by simp [btwn, h1]]
    go_enter Tryz.func73, Tryz.ntmps73
    go_wp2
    go_ret
    exact ⟨rfl, rfl⟩
def bndF (f : Int) : Int := IntKind.i64.wrap (f - 1)
def okF (f : Int) (l : List Int) (i : Nat) : Prop := ∀ j, j < i → btwn (l.getD j 0) 0 (bndF f) = true
theorem right_false {h : Hdr} (ht : HdT h) {i : Nat} (hi : i < 4) (hb : btwn (h.l.getD i 0) 0 (bndF h.f) = false) : hdOk h = false := by
  cases hk : hdOk h
  · rfl
  · obtain ⟨_, _, h3, h4⟩ := hdOk_parts hk
    have := h4 (h.l.getD i 0) (getD_mem (by rw [ht.n]; exact hi))
    have hw : bndF h.f = h.f - 1 := IntWalk.i64_in _ (by omega)
    rw [hw] at hb
    unfold btwn at hb
    simp only [decide_eq_false_iff_not] at hb
    omega
theorem right_all {h : Hdr} (ht : HdT h) (hf : okF h.f h.l 4) : hdOk h = (decide (h.e ≠ 0) && (btwn h.s 1 2147483647 && btwn h.f 1 2147483647)) := by
  rw [Bool.eq_iff_iff]
  constructor
  · intro hk
    obtain ⟨h1, h2, h3, _⟩ := hdOk_parts hk
    simp [h1, btwn, h2, h3]
  · intro hk
    simp only [Bool.and_eq_true, decide_eq_true_eq, btwn] at hk
    obtain ⟨h1, h2, h3⟩ := hk
    refine hdOk_of h1 (by simp [lsn, h2]) (by simp [lsn, h3]) fun x hx => ?_
    obtain ⟨j, hj, rfl⟩ := List.getElem_of_mem hx
    have := hf j (by rw [ht.n] at hj; exact hj)
    have hw : bndF h.f = h.f - 1 := IntWalk.i64_in _ (by omega)
    rw [hw] at this
    simp only [btwn, decide_eq_true_eq, List.getD, hj, getElem?_pos, Option.getD_some] at this
    omega
set_option maxRecDepth 8000 in
set_option maxHeartbeats 1000000 in
theorem hright_any (h : Hdr) (ht : HdT h) (w : World) : Calls Tryz.prog 28 #[.agg (hv h)] w fun e w' => e = .returned (.bool (hdOk h)) ∧ Below w.heap.size w w' := by
  obtain ⟨w0, hw0⟩ : ∃ q, w.alloc (.cells (hv h) 34) = q := ⟨_, rfl⟩
  have HK := Lib.hid (show HB w0 w.heap.size h from by rw [← hw0]; exact HB.new w h ht.n)
  have HW := Lib.hid (show Below w.heap.size w w0 from by rw [← hw0]; exact balloc w _)
  have HTY := Lib.hid ht
  obtain ⟨z0, z1, z2⟩ := HK.out.cells
  have he : 0 ≤ h.e ∧ h.e ≤ 18446744073709551615 := ht.e
  obtain ⟨m, hm⟩ : ∃ m, bndF h.f = m := ⟨_, rfl⟩
  have hm2 : IntKind.i64.wrap (h.f - 1) = m := hm
  obtain ⟨y, hy⟩ : ∃ y, hdOk h = y := ⟨_, rfl⟩
  have HY := Lib.hid hy
  have HM := Lib.hid hm
  rw [hy]
  obtain ⟨e, s, f, l⟩ := h
  dsimp only at *
  clear ht hy hm
  go_enter Tryz.func28, Tryz.ntmps28
  go_wp2_with (first
    | (refine wpl_load_l4 rfl (.tmp 5) rfl rfl HK.out ?_))
  go_loopw [7] (fun v wr => ∃ i : Nat, v = .int .i64 i ∧ i ≤ 4 ∧ Hid (okF f l i) ∧ wr = w0) (fun v _ => 4 - (intOf v).toNat)
  case atStart => exact ⟨0, rfl, by omega, Lib.hid (fun j hj => absurd hj (by omega)), rfl⟩
  case round =>
    obtain ⟨i, rfl, hi, HO, rfl⟩ := hrel
    by_cases hlt : i < 4
    · have hix := index_l4 l HTY.out.n i hlt wr
      obtain ⟨x, hx⟩ : ∃ x, l.getD i 0 = x := ⟨_, rfl⟩
      rw [hx] at hix
      obtain ⟨b, hb⟩ : ∃ b, btwn x 0 m = b := ⟨_, rfl⟩
      have HX := Lib.hid hx
      have HBT := Lib.hid hb
      have HC := Lib.hid (within_any x 0 m wr)
      rw [hb] at HC
      have hlt2 : (i : Int) < 4 := by omega
      clear hx hb
      cases b with
      | false =>
        go_wp2_with (first
          | (go_at_call 73; (with_reducible refine (HC.out).mono ?_); rintro r w' ⟨rfl, rfl⟩))
        go_ret
        exact ⟨ret_bool (by rw [← HY.out]; exact (right_false HTY.out hlt (by dsimp only; rw [HX.out, HM.out]; exact HBT.out)).symm), HW.out⟩
      | true =>
        go_wp2_with (first
          | (go_at_call 73; (with_reducible refine (HC.out).mono ?_); rintro r w' ⟨rfl, rfl⟩))
        go_roundw
        case rel =>
          refine ⟨i + 1, by go_num, by omega, Lib.hid fun j hj => ?_, trivial⟩
          by_cases hji : j = i
          · subst hji; rw [HX.out, HM.out]; exact HBT.out
          · exact HO.out j (by omega)
        case measure => simp [intOf]; omega
    · obtain rfl : i = 4 := by omega
      have HA := Lib.hid (right_all HTY.out HO.out)
      rw [HY.out] at HA
      dsimp only at HA
      obtain ⟨b1, hb1⟩ : ∃ b, btwn s 1 2147483647 = b := ⟨_, rfl⟩
      obtain ⟨b2, hb2⟩ : ∃ b, btwn f 1 2147483647 = b := ⟨_, rfl⟩
      have HC1 := Lib.hid (within_any s 1 2147483647 wr)
      have HC2 := Lib.hid (within_any f 1 2147483647 wr)
      rw [hb1] at HC1
      rw [hb2] at HC2
      rw [hb1, hb2] at HA
      clear hb1 hb2
      have hi4 : ¬ ((4 : Nat) : Int) < 4 := by omega
      by_cases h0 : e = 0
      · subst h0
        go_wp2
        go_ret
        exact ⟨ret_bool (by rw [HA.out]; simp), HW.out⟩
      · cases b1 with
        | false =>
          go_wp2_with (first
            | (go_at_call 73; (with_reducible refine (HC1.out).mono ?_); rintro r w' ⟨rfl, rfl⟩))
          go_ret
          exact ⟨ret_bool (by rw [HA.out]; simp), HW.out⟩
        | true =>
          go_wp2_with (first
            | (go_at_call 73; first | ((with_reducible refine (HC1.out).mono ?_); rintro r w' ⟨rfl, rfl⟩) | ((with_reducible refine (HC2.out).mono ?_); rintro r w' ⟨rfl, rfl⟩)))
          go_ret
          exact ⟨ret_bool (by rw [HA.out]; simp [h0]), HW.out⟩
end Go.Proofs.YtpoiapfgbbmekaaGreatDoor
namespace Go.Proofs.YtpoiapfgbbmekaaGreatDoor
open Go.RowKit
section
variable {o : Oper} {a : Act} {w : World} {Q : Exit → Act → World → Prop} {ops : Array Oper} {rest : List Oper}
theorem wpl_valw (hw : Region.wanted o (yielded ops a.tmps) = true) {v : Value} (he : (execOp a.eval o).run Tryz.prog w = .ok (.value v) w) (hk : wpList Tryz.prog ops Q rest (a.put o.dst v) w) : wpList Tryz.prog ops Q (o :: rest) a w := by
  unfold wpList
  rw [if_pos hw]
  refine Or.inl ?_
  unfold Oper.wp
  rw [he]
  simp only [Oper.upon]
  exact hk
theorem exec_build_sec (ho : o.op = .build 63 #[]) : (execOp a.eval o).run Tryz.prog w = .ok (.value (.agg (sv z64))) w := by
  unfold execOp
  simp only [ho]
  have h : (Instr.build 63 #[]).run Tryz.prog w = .ok (.agg (sv z64)) w := by kernel_rfl
  simp [h, Result.andThen]
theorem exec_eq_sec (zs ys : List Int) (hz : zs.length = 64) (hy : ys.length = 64) (x y : Operand) (u : TypeId) (ho : o.op = .binOp .eql 63 x y u) (hx : a.eval x = .agg (sv zs)) (hye : a.eval y = .agg (sv ys)) :
    (execOp a.eval o).run Tryz.prog w = .ok (.value (.bool (decide (zs = ys)))) w := by
  unfold execOp
  have hg : Tryz.prog.eqGuardType Tryz.prog.depth 63 = false := by kernel_rfl
  have he : (binOp .eql 63 (.agg (sv zs)) (.agg (sv ys))).run Tryz.prog w = .ok (.bool (decide (zs = ys))) w := by
    rw [run_eql_struct, run_eq_sec zs ys hz hy]; rfl
  simp only [ho, hx, hye, Sem.run_bind, run_eqGuard_agg w .eql 63 x y _ _ hg, Result.andThen_ok, he, Sem.run_pure]
end
def z23 : List Int := List.replicate 23 0
theorem z23_length : z23.length = 23 := by simp [z23]
theorem rest_info (zs : List Int) (h : zs.length = 23) : (Tryz.prog.info? 142).map (·.size) = some (sv zs).size := by
  rw [sv_size, h]; kernel_rfl
theorem run_items23 {w : World} (a b : List Int) (ha : a.length = 23) (hb : b.length = 23) : ∀ is : List Nat, (∀ i ∈ is, i < 23) →
    (Op.eqItems 9999 5 1 (sv a) (sv b) is).run Tryz.prog w = .ok (is.all fun i => a.getD i 0 == b.getD i 0) w
  | [], _ => by simp [Op.eqItems]
  | i :: is, h => by
    have hi : i < 23 := h i (by simp)
    have p1 := run_part_plain (P := Tryz.prog) (w := w) (e := 5) (by kernel_rfl) (xs := sv a) (off := i * 1) (v := .int .u8 (a.getD i 0)) (by rw [Nat.mul_one]; exact sv_get a i (by omega))
    have p2 := run_part_plain (P := Tryz.prog) (w := w) (e := 5) (by kernel_rfl) (xs := sv b) (off := i * 1) (v := .int .u8 (b.getD i 0)) (by rw [Nat.mul_one]; exact sv_get b i (by omega))
    have p3 := run_equalIn_int (P := Tryz.prog) w 9998 5 .u8 .u8 (a.getD i 0) (b.getD i 0) Tryz.underlying5
    have p4 := run_items23 (w := w) a b ha hb is (fun j hj => h j (List.mem_cons_of_mem _ hj))
    simp only [Op.eqItems, Sem.run_bind, p1, p2, Result.andThen_ok, List.all_cons]
    rw [p3]
    simp only [Result.andThen_ok]
    cases hc : (a.getD i 0 == b.getD i 0)
    · simp
    · simpa using p4
theorem run_eq_rest (a b : List Int) (ha : a.length = 23) (hb : b.length = 23) (w : World) : (Op.equalIn 10000 142 (.agg (sv a)) (.agg (sv b))).run Tryz.prog w = .ok (decide (a = b)) w := by
  obtain ⟨i, hi⟩ : ∃ i, Tryz.prog.info? 5 = some i := info_of_underlying Tryz.underlying5
  have hc : Tryz.prog.cellsOf 5 = 1 := by kernel_rfl
  have h1 := run_equalIn_array w (P := Tryz.prog) 9999 (sv a) (sv b) Tryz.underlying142 hi
  rw [hc, run_items23 a b ha hb _ (fun i hi => List.mem_range.1 hi)] at h1
  rw [h1]
  refine congrArg (fun x => Result.ok x w) ?_
  rw [Bool.eq_iff_iff, List.all_eq_true, decide_eq_true_eq]
  constructor
  · intro h
    refine List.ext_getElem (by omega) fun j h1 h2 => ?_
    have := h j (List.mem_range.2 (by omega))
    simpa [List.getD, h1, h2] using this
  · rintro rfl j _
    simp
theorem run_load_rest {w : World} {b : Nat} {zs : List Int} (h : Blk w b zs) : (loadVar 142 ⟨b, 41, none⟩).run Tryz.prog w = .ok (.agg (sv (zs.drop 41))) w := by
  have hl23 : (zs.drop 41).length = 23 := by simp [h.2]
  have hl : (loadCells ⟨b, 41, none⟩ (il .u8 (zs.drop 41)).length).run Tryz.prog w = .ok (il .u8 (zs.drop 41)).toArray w :=
    run_loadCells_list (P := Tryz.prog) w ⟨b, 41, none⟩ (il .u8 (zs.drop 41)) (fun j v hv => by
      have hadd : (⟨b, 41, none⟩ : Addr).add j = ⟨b, 41 + j, none⟩ := by unfold Addr.add; split <;> simp_all
      have hj : j < (zs.drop 41).length := by have := (List.getElem?_eq_some_iff.1 hv).1; rwa [il_length] at this
      rw [il_get _ _ _ hj] at hv
      rw [hadd, h.cell (41 + j) (by omega), ← hv]
      simp [List.getD])
  have hi := rest_info (zs.drop 41) hl23
  cases hq : Tryz.prog.info? 142 with
  | none => simp [hq] at hi
  | some i =>
    have hs : i.size = 23 := by simpa [hq, sv_size, hl23] using hi
    have hagg : (isAgg 142).run Tryz.prog w = .ok true w := by
      unfold isAgg
      rw [Sem.run_bind, run_underlying Tryz.underlying142 w]
      rfl
    rw [il_length, hl23] at hl
    simp [loadVar, Sem.run_bind, hagg, sizeOf, typeInfo, hq, hs, hl, sv]
section
variable {o : Oper} {a : Act} {w : World}
theorem exec_load_rest {b : Nat} {zs : List Int} (x : Operand) (ho : o.op = .load 142 x) (hx : a.eval x = .pointer (some ⟨b, 41, none⟩)) (h : Blk w b zs) :
    (execOp a.eval o).run Tryz.prog w = .ok (.value (.agg (sv (zs.drop 41)))) w := by
  unfold execOp
  simp only [ho, hx, Instr.loadAt, Instr.sureAddr, Sem.run_bind, Sem.run_pure, Result.andThen_ok, run_load_rest h]
theorem exec_ptr_rest (x : Operand) (ho : o.op = .sliceToArrayPointer 142 x) (p : Option Addr) (n c : Nat) (hx : a.eval x = .slice p n c) (h : 23 ≤ n) :
    (execOp a.eval o).run Tryz.prog w = .ok (.value (.pointer p)) w := by
  have hn : ¬ n < 23 := by omega
  unfold execOp
  simp only [ho, hx, Instr.arrayAt, Sem.run_bind, run_underlying Tryz.underlying142, Result.andThen_ok]
  simp [hn, Result.andThen]
theorem exec_build_rest (ho : o.op = .build 142 #[]) : (execOp a.eval o).run Tryz.prog w = .ok (.value (.agg (sv z23))) w := by
  unfold execOp
  simp only [ho]
  have h : (Instr.build 142 #[]).run Tryz.prog w = .ok (.agg (sv z23)) w := by kernel_rfl
  simp [h, Result.andThen]
theorem exec_neq_rest (zs ys : List Int) (hz : zs.length = 23) (hy : ys.length = 23) (x y : Operand) (u : TypeId) (ho : o.op = .binOp .neq 142 x y u) (hx : a.eval x = .agg (sv zs)) (hye : a.eval y = .agg (sv ys)) :
    (execOp a.eval o).run Tryz.prog w = .ok (.value (.bool (!decide (zs = ys)))) w := by
  unfold execOp
  have hg : Tryz.prog.eqGuardType Tryz.prog.depth 142 = false := by kernel_rfl
  have he : (binOp .neq 142 (.agg (sv zs)) (.agg (sv ys))).run Tryz.prog w = .ok (.bool (!decide (zs = ys))) w := by
    rw [run_neq_struct, run_eq_rest zs ys hz hy]; rfl
  simp only [ho, hx, hye, Sem.run_bind, run_eqGuard_agg w .neq 142 x y _ _ hg, Result.andThen_ok, he, Sem.run_pure]
end
section
variable {o : Oper} {a : Act} {w : World} {Q : Exit → Act → World → Prop} {ops : Array Oper} {rest : List Oper}
theorem wpl_build_z (ho : o.op = .build 63 #[]) (hw : Region.wanted o (yielded ops a.tmps) = true) (hk : wpList Tryz.prog ops Q rest (a.put o.dst (.agg (sv z64))) w) : wpList Tryz.prog ops Q (o :: rest) a w :=
  wpl_valw hw (exec_build_sec ho) hk
theorem wpl_eq_sec (x y : Operand) (u : TypeId) (ho : o.op = .binOp .eql 63 x y u) (zs ys : List Int) (hz : zs.length = 64) (hy : ys.length = 64) (hx : a.eval x = .agg (sv zs)) (hye : a.eval y = .agg (sv ys)) (hw : Region.wanted o (yielded ops a.tmps) = true)
    (hk : wpList Tryz.prog ops Q rest (a.put o.dst (.bool (decide (zs = ys)))) w) : wpList Tryz.prog ops Q (o :: rest) a w := wpl_valw hw (exec_eq_sec zs ys hz hy x y u ho hx hye) hk
theorem wpl_neq_hd (x y : Operand) (u : TypeId) (ho : o.op = .binOp .neq 34 x y u) {c d : Hdr} (hc : c.l.length = 4) (hd : d.l.length = 4) (hx : a.eval x = .agg (hv c)) (hye : a.eval y = .agg (hv d)) (hw : Region.wanted o (yielded ops a.tmps) = true)
    (hk : wpList Tryz.prog ops Q rest (a.put o.dst (.bool (!decide (c = d)))) w) : wpList Tryz.prog ops Q (o :: rest) a w := wpl_valw hw (exec_neq_hd hc hd x y u ho hx hye) hk
theorem wpl_load_rest (x : Operand) (ho : o.op = .load 142 x) {b : Nat} {zs : List Int} (hx : a.eval x = .pointer (some ⟨b, 41, none⟩)) (h : Blk w b zs) (hw : Region.wanted o (yielded ops a.tmps) = true)
    (hk : wpList Tryz.prog ops Q rest (a.put o.dst (.agg (sv (zs.drop 41)))) w) : wpList Tryz.prog ops Q (o :: rest) a w := wpl_valw hw (exec_load_rest x ho hx h) hk
theorem wpl_ptr_rest (x : Operand) (ho : o.op = .sliceToArrayPointer 142 x) (p : Option Addr) (n c : Nat) (hx : a.eval x = .slice p n c) (h : 23 ≤ n) (hw : Region.wanted o (yielded ops a.tmps) = true)
    (hk : wpList Tryz.prog ops Q rest (a.put o.dst (.pointer p)) w) : wpList Tryz.prog ops Q (o :: rest) a w := wpl_valw hw (exec_ptr_rest x ho p n c hx h) hk
theorem wpl_build_rest (ho : o.op = .build 142 #[]) (hw : Region.wanted o (yielded ops a.tmps) = true) (hk : wpList Tryz.prog ops Q rest (a.put o.dst (.agg (sv z23))) w) : wpList Tryz.prog ops Q (o :: rest) a w :=
  wpl_valw hw (exec_build_rest ho) hk
theorem wpl_neq_rest (x y : Operand) (u : TypeId) (ho : o.op = .binOp .neq 142 x y u) (zs ys : List Int) (hz : zs.length = 23) (hy : ys.length = 23) (hx : a.eval x = .agg (sv zs)) (hye : a.eval y = .agg (sv ys)) (hw : Region.wanted o (yielded ops a.tmps) = true)
    (hk : wpList Tryz.prog ops Q rest (a.put o.dst (.bool (!decide (zs = ys)))) w) : wpList Tryz.prog ops Q (o :: rest) a w := wpl_valw hw (exec_neq_rest zs ys hz hy x y u ho hx hye) hk
end
end Go.Proofs.YtpoiapfgbbmekaaGreatDoor
namespace Go.Proofs.YtpoiapfgbbmekaaGreatDoor
open Go.RowKit
set_option maxRecDepth 8000 in
set_option maxHeartbeats 2000000 in
theorem henc_ok (h : Hdr) (ht : HdT h) (hk : hdOk h = true) (w : World) (hT : Tab w) :
    Calls Tryz.prog 83 #[.agg (hv h)] w fun r w' => r = .returned (.tuple #[.agg (sv (secH h)), .int .i64 0]) ∧ Below w.heap.size w w' := by
  obtain ⟨w0, hw0⟩ : ∃ q, (w.alloc (.cells (hv h) 34)).alloc (.cells (sv z64) 63) = q := ⟨_, rfl⟩
  have hs1 : (w.alloc (.cells (hv h) 34)).heap.size = w.heap.size + 1 := alloc_size w _
  have HK := Lib.hid (show HB w0 w.heap.size h from by rw [← hw0]; exact (HB.new w h ht.n).keep (balloc _ _))
  have HO := Lib.hid (show Blk w0 (w.heap.size + 1) z64 from by rw [← hw0, ← hs1]; exact Blk.new _ z64 z64_length)
  have HW := Lib.hid (show Below w.heap.size w w0 from by rw [← hw0]; exact bch (balloc w _) (balloc _ _))
  have HR : Hid (∀ w, Calls Tryz.prog 28 #[.agg (hv h)] w fun r w' => r = .returned (.bool true) ∧ Below w.heap.size w w') := Lib.hid fun w => by rw [← hk]; exact hright_any h ht w
  have HY := Lib.hid (fun w => hlay_any h ht hk w)
  have HN := Lib.hid (secH_length ht.n)
  have HT := Lib.hid hT
  rw [z64_cells] at hw0
  clear ht hk hT hs1
  go_enter Tryz.func83, Tryz.ntmps83
  go_wp2_with (first
    | (refine wpl_load_hd (by rfl) (.tmp 1) rfl rfl (show HB w0 w.heap.size h from HK.out) ?_)
    | (refine wpl_load_hd (by rfl) (.tmp 1) rfl rfl HK1.out ?_)
    | (go_at_call 28; (with_reducible refine (HR.out _).mono ?_); rintro r w1 ⟨rfl, hb1⟩; have HK1 := Lib.hid (HK.out.keep hb1); have HO1 := Lib.hid (HO.out.keep hb1); have HB1 := Lib.hid (bch HW.out hb1); clear hb1)
    | (go_at_call 103; (with_reducible refine (HY.out _ (HT.out.keep HB1.out)).mono ?_); rintro r w2 ⟨rfl, hb2⟩; have HO2 := Lib.hid (HO1.out.keep hb2); have HB2 := Lib.hid (bch HB1.out hb2); clear hb2)
    | (refine wpl_put_sec rfl (.tmp 2) (.tmp 9) rfl (w.heap.size + 1) z64 (secH h) HO2.out HN.out rfl rfl ?_; intro w3 HO3 HG3))
  refine bodyPost_ret_by (results_row_tmp rfl _ _ (w.heap.size + 1) _ rfl (run_loadVar_row w3 (w.heap.size + 1) _ 63 (sv (secH h)) (0, 0) _ HO3.out.1 Tryz.underlying63 rfl (sv_info _ HN.out))) rfl ⟨rfl, hbelow_grown HB2.out HG3.out (by omega) HB2.out.size⟩
set_option maxRecDepth 8000 in
set_option maxHeartbeats 2000000 in
theorem henc_no (h : Hdr) (ht : HdT h) (hk : hdOk h = false) (w : World) :
    Calls Tryz.prog 83 #[.agg (hv h)] w fun r w' => r = .returned (.tuple #[.agg (sv z64), .int .i64 13]) ∧ Below w.heap.size w w' := by
  obtain ⟨w0, hw0⟩ : ∃ q, (w.alloc (.cells (hv h) 34)).alloc (.cells (sv z64) 63) = q := ⟨_, rfl⟩
  have hs1 : (w.alloc (.cells (hv h) 34)).heap.size = w.heap.size + 1 := alloc_size w _
  have HK := Lib.hid (show HB w0 w.heap.size h from by rw [← hw0]; exact (HB.new w h ht.n).keep (balloc _ _))
  have HO := Lib.hid (show Blk w0 (w.heap.size + 1) z64 from by rw [← hw0, ← hs1]; exact Blk.new _ z64 z64_length)
  have HW := Lib.hid (show Below w.heap.size w w0 from by rw [← hw0]; exact bch (balloc w _) (balloc _ _))
  have HR : Hid (∀ w, Calls Tryz.prog 28 #[.agg (hv h)] w fun r w' => r = .returned (.bool false) ∧ Below w.heap.size w w') := Lib.hid fun w => by rw [← hk]; exact hright_any h ht w
  rw [z64_cells] at hw0
  clear ht hk hs1
  go_enter Tryz.func83, Tryz.ntmps83
  go_wp2_with (first
    | (refine wpl_load_hd (by rfl) (.tmp 1) rfl rfl (show HB w0 w.heap.size h from HK.out) ?_)
    | (go_at_call 28; (with_reducible refine (HR.out _).mono ?_); rintro r w1 ⟨rfl, hb1⟩; have HK1 := Lib.hid (HK.out.keep hb1); have HO1 := Lib.hid (HO.out.keep hb1); have HB1 := Lib.hid (bch HW.out hb1); clear hb1)
    | (refine wpl_build_z rfl (by rfl) ?_)
    | (refine wpl_put_sec rfl (.tmp 2) (.tmp 7) rfl (w.heap.size + 1) z64 z64 HO1.out z64_length rfl rfl ?_; intro w3 HO3 HG3))
  refine bodyPost_ret_by (results_row_tmp rfl _ _ (w.heap.size + 1) _ rfl (run_loadVar_row w3 (w.heap.size + 1) _ 63 (sv z64) (0, 0) _ HO3.out.1 Tryz.underlying63 rfl (sv_info _ z64_length))) rfl ⟨rfl, hbelow_grown HB1.out HG3.out (by omega) HB1.out.size⟩
end Go.Proofs.YtpoiapfgbbmekaaGreatDoor
namespace Go.Proofs.YtpoiapfgbbmekaaGreatDoor
open Go.RowKit
def rdl (zs : List Int) (i : Nat) : List Int := (List.range 4).map fun j => if j < i then num zs (21 + 4 * j) 4 else 0
theorem rdl_set (zs : List Int) (i : Nat) (h : i < 4) : (rdl zs i).set i (num zs (21 + 4 * i) 4) = rdl zs (i + 1) := by
  match i, h with
  | 0, _ => rfl
  | 1, _ => rfl
  | 2, _ => rfl
  | 3, _ => rfl
theorem rdl_all (zs : List Int) : rdl zs 4 = [num zs 21 4, num zs 25 4, num zs 29 4, num zs 33 4] := rfl
set_option maxRecDepth 8000 in
set_option maxHeartbeats 4000000 in
theorem hread_any (zs : List Int) (hl : zs.length = 64) (hb : isB zs) (w : World) :
    Calls Tryz.prog 101 #[.agg (sv zs)] w fun e w' => e = .returned (.agg (hv (readH zs))) ∧ Below w.heap.size w w' := by
  have HT := readH_typed hb
  obtain ⟨w0, hw0⟩ : ∃ q, (w.alloc (.cells (sv zs) 63)).alloc (.cells #[.int .u64 0, .int .i64 0, .int .i64 0, .int .i64 0, .int .i64 0, .int .i64 0, .int .i64 0] 34) = q := ⟨_, rfl⟩
  have hs1 : (w.alloc (.cells (sv zs) 63)).heap.size = w.heap.size + 1 := alloc_size w _
  have HK := Lib.hid (show Blk w0 w.heap.size zs from by rw [← hw0]; exact (Blk.new w zs hl).keep (balloc _ _))
  have HRB := Lib.hid (show HB w0 (w.heap.size + 1) noH from by rw [← hw0, ← hs1]; exact HB.new _ noH rfl)
  have HW := Lib.hid (show Below w.heap.size w w0 from by rw [← hw0]; exact bch (balloc w _) (balloc _ _))
  have HSZ := Lib.hid (show w0.heap.size = w.heap.size + 2 from by rw [← hw0, alloc_size, hs1])
  obtain ⟨e0, he0⟩ : ∃ x, num zs 5 8 = x := ⟨_, rfl⟩
  obtain ⟨s0, hs0⟩ : ∃ x, num zs 13 4 = x := ⟨_, rfl⟩
  obtain ⟨f0, hf0⟩ : ∃ x, num zs 17 4 = x := ⟨_, rfl⟩
  have HE := Lib.hid (show (⟨e0, s0, f0, [num zs 21 4, num zs 25 4, num zs 29 4, num zs 33 4]⟩ : Hdr) = readH zs from by rw [← he0, ← hs0, ← hf0]; rfl)
  have HG5 : Hid (∀ w', Blk w' w.heap.size zs → Calls Tryz.prog 116 #[.slice (some ⟨w.heap.size, 5, none⟩) 8 59] w' fun e w'' => e = .returned (.int .u64 e0) ∧ w' = w'') := Lib.hid fun w' h => sec_get w.heap.size 5 8 zs w' h hb (by omega) (by omega) (by omega) he0
  have HG13 : Hid (∀ w', Calls Tryz.prog 117 #[.agg (sv zs), .int .i64 13] w' fun e w'' => e = .returned (.int .i64 s0) ∧ Below w'.heap.size w' w'') := Lib.hid fun w' => hget_any zs hl hb 13 (by omega) w' hs0
  have HG17 : Hid (∀ w', Calls Tryz.prog 117 #[.agg (sv zs), .int .i64 17] w' fun e w'' => e = .returned (.int .i64 f0) ∧ Below w'.heap.size w' w'') := Lib.hid fun w' => hget_any zs hl hb 17 (by omega) w' hf0
  have HL := Lib.hid hl
  have HZ := Lib.hid hb
  clear hl hb he0 hs0 hf0 HT hs1
  go_enter Tryz.func101, Tryz.ntmps101
  go_wp2_with fail
  refine wp_region_held_drew (S := (fun w' => Blk w' w.heap.size zs ∧ Below w0.heap.size w0 w')) (by kernel_rfl) ⟨HK.out, (Below.refl _ _).drew⟩ (fun hS => ?_)
  refine rgw 0 ⟨some 5, .slice 63 (.tmp 1) (some (.const (.int .i64 5))) (some (.const (.int .i64 13))) none, 36, _, _, none⟩ hS ?_
  refine rgw 2 ⟨some 7, .load 63 (.tmp 1), 63, _, _, none⟩ hS ?_ (hy := by intro w hSw; (try dsimp only at hSw); refine exec_load_sec (.tmp 1) ?_ ?_ hSw.1 <;> rfl)
  refine rgw 4 ⟨some 9, .load 63 (.tmp 1), 63, _, _, none⟩ hS ?_ (hy := by intro w hSw; (try dsimp only at hSw); refine exec_load_sec (.tmp 1) ?_ ?_ hSw.1 <;> rfl)
  refine rg_both 1 7 ⟨some 6, .call { callee := .value (.func 116), args := #[.tmp 5], argTypes := #[36] }, 31, _, _, none⟩ ⟨some 3, .alloc 34, 0, _, _, none⟩ (by kernel_rfl) rfl rfl (fun K hK => ?_) (fun K hK => ?_)
  focus
    go_simp
    (go_at_call 116; (refine (HG5.out _ hS.1).mono ?_); rintro e w2 ⟨rfl, rfl⟩)
    refine hK.out _ _ ?_ (fun hS1 => ?_)
    · (first | exact hS | exact hN | exact ⟨hS.1.keep hb, bch hS.2 hb⟩)
    clear hK K hS; have hS := hS1; clear hS1
    (try simp only [rgp])
    refine rg_both 3 7 ⟨some 8, .call { callee := .value (.func 117), args := #[.tmp 7, .const (.int .i64 13)], argTypes := #[63, 3] }, 3, _, _, none⟩ ⟨some 3, .alloc 34, 0, _, _, none⟩ (by kernel_rfl) rfl rfl (fun K hK => ?_) (fun K hK => ?_)
    focus
      go_simp
      (go_at_call 117; (refine (HG13.out _).mono ?_); rintro e w3 ⟨rfl, hb⟩; (try (have HA2 := Lib.hid (HA.out.keep hb); clear HA; have HA := HA2; clear HA2)))
      refine hK.out _ _ ?_ (fun hS1 => ?_)
      · (first | exact hS | exact hN | exact ⟨hS.1.keep hb, bch hS.2 hb⟩)
      clear hK K hS; have hS := hS1; clear hS1
      (try simp only [rgp])
      refine rg_both 5 7 ⟨some 10, .call { callee := .value (.func 117), args := #[.tmp 9, .const (.int .i64 17)], argTypes := #[63, 3] }, 3, _, _, none⟩ ⟨some 3, .alloc 34, 0, _, _, none⟩ (by kernel_rfl) rfl rfl (fun K hK => ?_) (fun K hK => ?_)
      focus
        go_simp
        (go_at_call 117; (refine (HG17.out _).mono ?_); rintro e w4 ⟨rfl, hb⟩; (try (have HA2 := Lib.hid (HA.out.keep hb); clear HA; have HA := HA2; clear HA2)))
        refine hK.out _ _ ?_ (fun hS1 => ?_)
        · (first | exact hS | exact hN | exact ⟨hS.1.keep hb, bch hS.2 hb⟩)
        clear hK K hS; have hS := hS1; clear hS1
        (try simp only [rgp])
        refine rgw 6 ⟨some 11, .build 34 #[(0, .tmp 6), (1, .tmp 8), (2, .tmp 10)], 34, _, _, none⟩ hS ?_ (v := .agg (hv ⟨e0, s0, f0, [0, 0, 0, 0]⟩)) (hy := by intro w hSw; (try dsimp only at hSw); go_simp; rfl)
        refine rg_one 7 ⟨some 3, .alloc 34, 0, _, _, none⟩ (by kernel_rfl) rfl (fun K hK => ?_)
        rw [if_pos (by rfl)]; refine wp_new_hd rfl ?_; intro g w5 HA hg hb0; have hb := hb0.out; have HGE := Lib.hid (Nat.le_trans hS.2.size hg.out); clear hg hb0
        refine hK.out _ _ ?_ (fun hS1 => ?_)
        · (first | exact hS | exact hN | exact ⟨hS.1.keep hb, bch hS.2 hb⟩)
        clear hK K hS; have hS := hS1; clear hS1
        (try simp only [rgp])
      rotate_left
      focus
        rw [if_pos (by rfl)]; refine wp_new_hd rfl ?_; intro g w5 HA hg hb0; have hb := hb0.out; have HGE := Lib.hid (Nat.le_trans hS.2.size hg.out); clear hg hb0
        refine hK.out _ _ ?_ (fun hS1 => ?_)
        · (first | exact hS | exact hN | exact ⟨hS.1.keep hb, bch hS.2 hb⟩)
        clear hK K hS; have hS := hS1; clear hS1
        (try simp only [rgp])
        refine rg_one 5 ⟨some 10, .call { callee := .value (.func 117), args := #[.tmp 9, .const (.int .i64 17)], argTypes := #[63, 3] }, 3, _, _, none⟩ (by kernel_rfl) rfl (fun K hK => ?_)
        go_simp
        (go_at_call 117; (refine (HG17.out _).mono ?_); rintro e w4 ⟨rfl, hb⟩; (try (have HA2 := Lib.hid (HA.out.keep hb); clear HA; have HA := HA2; clear HA2)))
        refine hK.out _ _ ?_ (fun hS1 => ?_)
        · (first | exact hS | exact hN | exact ⟨hS.1.keep hb, bch hS.2 hb⟩)
        clear hK K hS; have hS := hS1; clear hS1
        (try simp only [rgp])
        refine rgw 6 ⟨some 11, .build 34 #[(0, .tmp 6), (1, .tmp 8), (2, .tmp 10)], 34, _, _, none⟩ hS ?_ (v := .agg (hv ⟨e0, s0, f0, [0, 0, 0, 0]⟩)) (hy := by intro w hSw; (try dsimp only at hSw); go_simp; rfl)
      rotate_left
    rotate_left 2
    focus
      rw [if_pos (by rfl)]; refine wp_new_hd rfl ?_; intro g w5 HA hg hb0; have hb := hb0.out; have HGE := Lib.hid (Nat.le_trans hS.2.size hg.out); clear hg hb0
      refine hK.out _ _ ?_ (fun hS1 => ?_)
      · (first | exact hS | exact hN | exact ⟨hS.1.keep hb, bch hS.2 hb⟩)
      clear hK K hS; have hS := hS1; clear hS1
      (try simp only [rgp])
      refine rg_one 3 ⟨some 8, .call { callee := .value (.func 117), args := #[.tmp 7, .const (.int .i64 13)], argTypes := #[63, 3] }, 3, _, _, none⟩ (by kernel_rfl) rfl (fun K hK => ?_)
      go_simp
      (go_at_call 117; (refine (HG13.out _).mono ?_); rintro e w3 ⟨rfl, hb⟩; (try (have HA2 := Lib.hid (HA.out.keep hb); clear HA; have HA := HA2; clear HA2)))
      refine hK.out _ _ ?_ (fun hS1 => ?_)
      · (first | exact hS | exact hN | exact ⟨hS.1.keep hb, bch hS.2 hb⟩)
      clear hK K hS; have hS := hS1; clear hS1
      (try simp only [rgp])
      refine rg_one 5 ⟨some 10, .call { callee := .value (.func 117), args := #[.tmp 9, .const (.int .i64 17)], argTypes := #[63, 3] }, 3, _, _, none⟩ (by kernel_rfl) rfl (fun K hK => ?_)
      go_simp
      (go_at_call 117; (refine (HG17.out _).mono ?_); rintro e w4 ⟨rfl, hb⟩; (try (have HA2 := Lib.hid (HA.out.keep hb); clear HA; have HA := HA2; clear HA2)))
      refine hK.out _ _ ?_ (fun hS1 => ?_)
      · (first | exact hS | exact hN | exact ⟨hS.1.keep hb, bch hS.2 hb⟩)
      clear hK K hS; have hS := hS1; clear hS1
      (try simp only [rgp])
      refine rgw 6 ⟨some 11, .build 34 #[(0, .tmp 6), (1, .tmp 8), (2, .tmp 10)], 34, _, _, none⟩ hS ?_ (v := .agg (hv ⟨e0, s0, f0, [0, 0, 0, 0]⟩)) (hy := by intro w hSw; (try dsimp only at hSw); go_simp; rfl)
    rotate_left
  rotate_left 3
  focus
    rw [if_pos (by rfl)]; refine wp_new_hd rfl ?_; intro g w5 HA hg hb0; have hb := hb0.out; have HGE := Lib.hid (Nat.le_trans hS.2.size hg.out); clear hg hb0
    refine hK.out _ _ ?_ (fun hS1 => ?_)
    · (first | exact hS | exact hN | exact ⟨hS.1.keep hb, bch hS.2 hb⟩)
    clear hK K hS; have hS := hS1; clear hS1
    (try simp only [rgp])
    refine rg_one 1 ⟨some 6, .call { callee := .value (.func 116), args := #[.tmp 5], argTypes := #[36] }, 31, _, _, none⟩ (by kernel_rfl) rfl (fun K hK => ?_)
    go_simp
    (go_at_call 116; (refine (HG5.out _ hS.1).mono ?_); rintro e w2 ⟨rfl, rfl⟩)
    refine hK.out _ _ ?_ (fun hS1 => ?_)
    · (first | exact hS | exact hN | exact ⟨hS.1.keep hb, bch hS.2 hb⟩)
    clear hK K hS; have hS := hS1; clear hS1
    (try simp only [rgp])
    refine rg_one 3 ⟨some 8, .call { callee := .value (.func 117), args := #[.tmp 7, .const (.int .i64 13)], argTypes := #[63, 3] }, 3, _, _, none⟩ (by kernel_rfl) rfl (fun K hK => ?_)
    go_simp
    (go_at_call 117; (refine (HG13.out _).mono ?_); rintro e w3 ⟨rfl, hb⟩; (try (have HA2 := Lib.hid (HA.out.keep hb); clear HA; have HA := HA2; clear HA2)))
    refine hK.out _ _ ?_ (fun hS1 => ?_)
    · (first | exact hS | exact hN | exact ⟨hS.1.keep hb, bch hS.2 hb⟩)
    clear hK K hS; have hS := hS1; clear hS1
    (try simp only [rgp])
    refine rg_one 5 ⟨some 10, .call { callee := .value (.func 117), args := #[.tmp 9, .const (.int .i64 17)], argTypes := #[63, 3] }, 3, _, _, none⟩ (by kernel_rfl) rfl (fun K hK => ?_)
    go_simp
    (go_at_call 117; (refine (HG17.out _).mono ?_); rintro e w4 ⟨rfl, hb⟩; (try (have HA2 := Lib.hid (HA.out.keep hb); clear HA; have HA := HA2; clear HA2)))
    refine hK.out _ _ ?_ (fun hS1 => ?_)
    · (first | exact hS | exact hN | exact ⟨hS.1.keep hb, bch hS.2 hb⟩)
    clear hK K hS; have hS := hS1; clear hS1
    (try simp only [rgp])
    refine rgw 6 ⟨some 11, .build 34 #[(0, .tmp 6), (1, .tmp 8), (2, .tmp 10)], 34, _, _, none⟩ hS ?_ (v := .agg (hv ⟨e0, s0, f0, [0, 0, 0, 0]⟩)) (hy := by intro w hSw; (try dsimp only at hSw); go_simp; rfl)
  rotate_left
  all_goals
    refine rg_one 8 ⟨none, .store 34 (.tmp 3) (.tmp 11), 0, _, _, none⟩ (by kernel_rfl) rfl (fun K hK => ?_)
    rw [if_pos (by rfl)]; refine wp_put_hd (.tmp 3) (.tmp 11) rfl g noH ⟨e0, s0, f0, [0, 0, 0, 0]⟩ HA.out rfl rfl rfl ?_; intro w6 HA6 HG6; have HN1 := Lib.hid (show w.heap.size ≠ g by have := HGE.out; have := HSZ.out; omega); have HN2 := HGE; have hN := And.intro (hS.1.over HG6.out HN1.out) (hbelow_grown hS.2 HG6.out HGE.out hS.2.size); clear HA
    refine hK.out _ _ ?_ (fun hS1 => ?_)
    · (first | exact hS | exact hN | exact ⟨hS.1.keep hb, bch hS.2 hb⟩)
    clear hK K hS; have hS := hS1; clear hS1
    (try simp only [Act.put])
    refine wpAnyH_done (by kernel_rfl) ?_ _
    have HB6 := Lib.hid hS.2
    have HK6 := Lib.hid hS.1
    have HA := Lib.hid HA6.out
    clear hS HA6 HG6
    (try clear hN hb)
    go_wp2
    go_loopw [12] (fun v wr => ∃ i : Nat, v = .int .i64 i ∧ i ≤ 4 ∧ Hid (HB wr g ⟨e0, s0, f0, rdl zs i⟩) ∧ Hid (Blk wr w.heap.size zs) ∧ Hid (Below w0.heap.size w0 wr)) (fun v _ => 4 - (intOf v).toNat)
    case atStart => exact ⟨0, rfl, by omega, HA, HK6, HB6⟩
    case round =>
      obtain ⟨i, rfl, hi, HAR, HKR, HBR⟩ := hrel
      by_cases hlt : i < 4
      · obtain ⟨x, hx⟩ : ∃ x, num zs (21 + 4 * i) 4 = x := ⟨_, rfl⟩
        have HXS := Lib.hid (rdl_set zs i hlt)
        rw [hx] at HXS
        have HGX := Lib.hid (fun w => hget_any zs HL.out HZ.out (21 + 4 * i) (by omega) w hx)
        obtain ⟨p, hp⟩ : ∃ p : Nat, 21 + 4 * i = p := ⟨_, rfl⟩
        rw [hp] at HGX
        have hp2 : (21 : Int) + 4 * (i : Int) = (p : Int) := by omega
        have hlt2 : (i : Int) < 4 := by omega
        have hpb : (p : Int) ≤ 33 := by omega
        clear hx hp
        go_wp2_with (first
          | (refine wpl_load_sec (by rfl) (.tmp 1) rfl w.heap.size rfl zs HKR.out ?_)
          | (go_at_call 117; (with_reducible refine (HGX.out _).mono ?_); rintro r w7 ⟨rfl, hb7⟩; have HA7 := Lib.hid (HAR.out.keep hb7); have HK7 := Lib.hid (HKR.out.keep hb7); have HB7 := Lib.hid (bch HBR.out hb7); have hc7 := HA7.out.head i hlt; have hf7 := HA7.out.frozen (3 + i); dsimp only at hc7; clear hb7))
        go_roundw
        case rel =>
          refine ⟨i + 1, by go_num, by omega, Lib.hid ?_, Lib.hid (HK7.out.apart HN1.out _ _), Lib.hid (HB7.out.setCell HN2.out _)⟩
          have h1 := HA7.out.stored i x
          dsimp only at h1
          rw [HXS.out] at h1
          exact h1
        case measure => simp [intOf]; omega
      · obtain rfl : i = 4 := by omega
        have HRD := Lib.hid (rdl_all zs)
        have HAF := Lib.hid (show HB wr g (readH zs) from by have h1 := HAR.out; rw [HRD.out, HE.out] at h1; exact h1)
        have HO := Lib.hid (HRB.out.keep HBR.out)
        go_wp2_with (first
          | (refine wpl_load_hd (by rfl) (.tmp 3) rfl rfl HAF.out ?_)
          | (refine wpl_put_hd rfl (.tmp 2) (.tmp 24) rfl (w.heap.size + 1) noH (readH zs) HO.out rfl rfl rfl ?_; intro w9 HO9 HG9))
        refine bodyPost_ret_by (v := .agg (hv (readH zs))) (results_cell_row rfl _ _ (w.heap.size + 1) _ (hv (readH zs)) (0, 0) _ rfl HO9.out.1 Tryz.underlying34 rfl (hv_info rfl)) rfl ⟨rfl, ?_⟩
        exact hbelow_grown (bch HW.out HBR.out) HG9.out (by omega) (Nat.le_trans HW.out.size HBR.out.size)
end Go.Proofs.YtpoiapfgbbmekaaGreatDoor
namespace Go.Proofs.YtpoiapfgbbmekaaGreatDoor
open Go.RowKit
theorem bequal_any (v v' : Value) (n n' : Nat) (d d' : List Int) (w : World) (h1 : RI .u8 w v n d) (h2 : RI .u8 w v' n' d') (hb1 : isB d) (hb2 : isB d') :
    Calls Tryz.prog 99 #[v, v'] w fun e w' => e = .returned (.bool (decide (d = d'))) ∧ w = w' := by
  have q1 := conv_ri h1
  have q2 := conv_ri h2
  by_cases hd : d = d'
  · subst hd
    rw [show decide (d = d) = true from by simp]
    clear h1 h2 hb1 hb2
    go_enter Tryz.func99, Tryz.ntmps99
    go_wp2
    go_ret
    exact ⟨rfl, rfl⟩
  · rw [show decide (d = d') = false from by simp [hd]]
    have hs2 := str_ne (fun e => hd (strOfNums_inj hb1 hb2 e))
    clear h1 h2 hb1 hb2
    go_enter Tryz.func99, Tryz.ntmps99
    go_wp2
    go_ret
    exact ⟨rfl, rfl⟩
end Go.Proofs.YtpoiapfgbbmekaaGreatDoor
namespace Go.Proofs.YtpoiapfgbbmekaaGreatDoor
open Go.RowKit
set_option maxRecDepth 8000 in
set_option maxHeartbeats 4000000 in
theorem hdec_none (zs : List Int) (hl : zs.length = 64) (hb : isB zs) (w : World) (hT : Tab w) (h1 : zs = z64) :
    Calls Tryz.prog 72 #[.agg (sv zs)] w fun r w' => r = .returned (.tuple #[.agg (hv noH), .int .i64 7]) ∧ Below w.heap.size w w' := by
  obtain ⟨w0, hw0⟩ : ∃ q, (w.alloc (.cells (sv zs) 63)).alloc (.cells #[.int .u64 0, .int .i64 0, .int .i64 0, .int .i64 0, .int .i64 0, .int .i64 0, .int .i64 0] 34) = q := ⟨_, rfl⟩
  have hs1 : (w.alloc (.cells (sv zs) 63)).heap.size = w.heap.size + 1 := alloc_size w _
  have HK := Lib.hid (show Blk w0 w.heap.size zs from by rw [← hw0]; exact (Blk.new w zs hl).keep (balloc _ _))
  have HRB := Lib.hid (show HB w0 (w.heap.size + 1) noH from by rw [← hw0, ← hs1]; exact HB.new _ noH rfl)
  have HW := Lib.hid (show Below w.heap.size w w0 from by rw [← hw0]; exact bch (balloc w _) (balloc _ _))
  have HSZ := Lib.hid (show w0.heap.size = w.heap.size + 2 from by rw [← hw0, alloc_size, hs1])
  have HT := Lib.hid hT
  have HL := Lib.hid hl
  have HZB := Lib.hid hb
  have HEQ := Lib.hid (show decide (zs = z64) = true from by simpa using h1)
  clear hl hb hT hs1 h1
  go_enter Tryz.func72, Tryz.ntmps72
  go_wp2_with (first
    | (refine wpl_load_sec (by rfl) (.tmp 1) rfl w.heap.size rfl zs HK.out ?_)
    | (refine wpl_build_z rfl (by rfl) ?_)
    | (refine wpl_eq_sec (.tmp 6) (.tmp 7) _ rfl zs z64 HL.out z64_length rfl rfl (by rfl) ?_; rw [HEQ.out])
    | (refine wpl_put_hd rfl (.tmp 2) (.tmp 9) rfl (w.heap.size + 1) noH noH HRB.out rfl rfl rfl ?_; intro wf HOF HGF))
  refine bodyPost_ret_by (results_row_tmp rfl _ _ (w.heap.size + 1) _ rfl HOF.out.load) rfl ⟨rfl, hbelow_grown HW.out HGF.out (by omega) HW.out.size⟩
set_option maxRecDepth 8000 in
set_option maxHeartbeats 4000000 in
theorem hdec_mark (zs : List Int) (hl : zs.length = 64) (hb : isB zs) (w : World) (hT : Tab w) (h1 : ¬ zs = z64) (h2 : ¬ zs.take 5 = mark) :
    Calls Tryz.prog 72 #[.agg (sv zs)] w fun r w' => r = .returned (.tuple #[.agg (hv noH), .int .i64 2]) ∧ Below w.heap.size w w' := by
  obtain ⟨w0, hw0⟩ : ∃ q, (w.alloc (.cells (sv zs) 63)).alloc (.cells #[.int .u64 0, .int .i64 0, .int .i64 0, .int .i64 0, .int .i64 0, .int .i64 0, .int .i64 0] 34) = q := ⟨_, rfl⟩
  have hs1 : (w.alloc (.cells (sv zs) 63)).heap.size = w.heap.size + 1 := alloc_size w _
  have HK := Lib.hid (show Blk w0 w.heap.size zs from by rw [← hw0]; exact (Blk.new w zs hl).keep (balloc _ _))
  have HRB := Lib.hid (show HB w0 (w.heap.size + 1) noH from by rw [← hw0, ← hs1]; exact HB.new _ noH rfl)
  have HW := Lib.hid (show Below w.heap.size w w0 from by rw [← hw0]; exact bch (balloc w _) (balloc _ _))
  have HSZ := Lib.hid (show w0.heap.size = w.heap.size + 2 from by rw [← hw0, alloc_size, hs1])
  have HT := Lib.hid hT
  have HL := Lib.hid hl
  have HZB := Lib.hid hb
  have HEQ := Lib.hid (show decide (zs = z64) = false from by simpa using h1)
  have hri5 := HK.out.ri 0 5 64 (by omega) (by omega) (by omega)
  rw [List.drop_zero] at hri5
  obtain ⟨s5, hs5⟩ : ∃ s, strOfNums (zs.take 5) = s := ⟨_, rfl⟩
  have hq5 := (conv_ri hri5).trans (by rw [hs5])
  have hne0 := str_ne (show ¬ s5 = ⟨#[115, 116, 114, 100, 1]⟩ from fun e => h2 (strOfNums_inj (hb.take 5) mark_bytes (by rw [hs5, e]; rfl)))
  have hne : (s5.toList == [115, 116, 114, 100, 1]) = false := by rwa [show (⟨#[115, 116, 114, 100, 1]⟩ : ByteArray).toList = [115, 116, 114, 100, 1] from by rw [ByteArray.toList_eq]] at hne0
  clear hne0
  clear hri5 hs5
  clear hl hb hT hs1 h1 h2
  go_enter Tryz.func72, Tryz.ntmps72
  go_wp2_with (first
    | (refine wpl_load_sec (by rfl) (.tmp 1) rfl w.heap.size rfl zs HK.out ?_)
    | (refine wpl_build_z rfl (by rfl) ?_)
    | (refine wpl_eq_sec (.tmp 6) (.tmp 7) _ rfl zs z64 HL.out z64_length rfl rfl (by rfl) ?_; rw [HEQ.out])
    | (refine wpl_put_hd rfl (.tmp 2) (.tmp 21) rfl (w.heap.size + 1) noH noH HRB.out rfl rfl rfl ?_; intro wf HOF HGF))
  refine bodyPost_ret_by (results_row_tmp rfl _ _ (w.heap.size + 1) _ rfl HOF.out.load) rfl ⟨rfl, hbelow_grown HW.out HGF.out (by omega) HW.out.size⟩
set_option maxRecDepth 8000 in
set_option maxHeartbeats 4000000 in
theorem hdec_rest (zs : List Int) (hl : zs.length = 64) (hb : isB zs) (w : World) (hT : Tab w) (h1 : ¬ zs = z64) (h2 : zs.take 5 = mark) (h3 : ¬ zs.drop 41 = z23) :
    Calls Tryz.prog 72 #[.agg (sv zs)] w fun r w' => r = .returned (.tuple #[.agg (hv noH), .int .i64 2]) ∧ Below w.heap.size w w' := by
  obtain ⟨w0, hw0⟩ : ∃ q, (w.alloc (.cells (sv zs) 63)).alloc (.cells #[.int .u64 0, .int .i64 0, .int .i64 0, .int .i64 0, .int .i64 0, .int .i64 0, .int .i64 0] 34) = q := ⟨_, rfl⟩
  have hs1 : (w.alloc (.cells (sv zs) 63)).heap.size = w.heap.size + 1 := alloc_size w _
  have HK := Lib.hid (show Blk w0 w.heap.size zs from by rw [← hw0]; exact (Blk.new w zs hl).keep (balloc _ _))
  have HRB := Lib.hid (show HB w0 (w.heap.size + 1) noH from by rw [← hw0, ← hs1]; exact HB.new _ noH rfl)
  have HW := Lib.hid (show Below w.heap.size w w0 from by rw [← hw0]; exact bch (balloc w _) (balloc _ _))
  have HSZ := Lib.hid (show w0.heap.size = w.heap.size + 2 from by rw [← hw0, alloc_size, hs1])
  have HT := Lib.hid hT
  have HL := Lib.hid hl
  have HZB := Lib.hid hb
  have HEQ := Lib.hid (show decide (zs = z64) = false from by simpa using h1)
  have hri5 := HK.out.ri 0 5 64 (by omega) (by omega) (by omega)
  rw [List.drop_zero] at hri5
  have hq5 := (conv_ri hri5).trans (show Result.ok (Value.string (strOfNums (zs.take 5))) w0 = .ok (.string ⟨#[115, 116, 114, 100, 1]⟩) w0 from by rw [h2]; rfl)
  have HD23 := Lib.hid (show (zs.drop 41).length = 23 from by simp [hl])
  have HRQ := Lib.hid (show (!decide (zs.drop 41 = z23)) = true from by simpa using h3)
  clear hri5
  clear hl hb hT hs1 h1 h2 h3
  go_enter Tryz.func72, Tryz.ntmps72
  go_wp2_with (first
    | (refine wpl_load_sec (by rfl) (.tmp 1) rfl w.heap.size rfl zs HK.out ?_)
    | (refine wpl_build_z rfl (by rfl) ?_)
    | (refine wpl_eq_sec (.tmp 6) (.tmp 7) _ rfl zs z64 HL.out z64_length rfl rfl (by rfl) ?_; rw [HEQ.out])
    | (refine wpl_ptr_rest (.tmp 15) rfl _ _ _ rfl (by omega) (by rfl) ?_)
    | (refine wpl_load_rest (.tmp 16) rfl rfl HK.out (by rfl) ?_)
    | (refine wpl_build_rest rfl (by rfl) ?_)
    | (refine wpl_neq_rest (.tmp 17) (.tmp 18) _ rfl (zs.drop 41) z23 HD23.out z23_length rfl rfl (by rfl) ?_; rw [HRQ.out])
    | (refine wpl_put_hd rfl (.tmp 2) (.tmp 21) rfl (w.heap.size + 1) noH noH HRB.out rfl rfl rfl ?_; intro wf HOF HGF))
  refine bodyPost_ret_by (results_row_tmp rfl _ _ (w.heap.size + 1) _ rfl HOF.out.load) rfl ⟨rfl, hbelow_grown HW.out HGF.out (by omega) HW.out.size⟩
set_option maxRecDepth 8000 in
set_option maxHeartbeats 4000000 in
theorem hdec_sum (zs : List Int) (hl : zs.length = 64) (hb : isB zs) (w : World) (hT : Tab w) (h1 : ¬ zs = z64) (h2 : zs.take 5 = mark) (h3 : zs.drop 41 = z23) (h4 : ¬ (zs.drop 37).take 4 = putL (maskS (ofS (zs.take 37))) 4) :
    Calls Tryz.prog 72 #[.agg (sv zs)] w fun r w' => r = .returned (.tuple #[.agg (hv noH), .int .i64 3]) ∧ Below w.heap.size w w' := by
  obtain ⟨w0, hw0⟩ : ∃ q, (w.alloc (.cells (sv zs) 63)).alloc (.cells #[.int .u64 0, .int .i64 0, .int .i64 0, .int .i64 0, .int .i64 0, .int .i64 0, .int .i64 0] 34) = q := ⟨_, rfl⟩
  have hs1 : (w.alloc (.cells (sv zs) 63)).heap.size = w.heap.size + 1 := alloc_size w _
  have HK := Lib.hid (show Blk w0 w.heap.size zs from by rw [← hw0]; exact (Blk.new w zs hl).keep (balloc _ _))
  have HRB := Lib.hid (show HB w0 (w.heap.size + 1) noH from by rw [← hw0, ← hs1]; exact HB.new _ noH rfl)
  have HW := Lib.hid (show Below w.heap.size w w0 from by rw [← hw0]; exact bch (balloc w _) (balloc _ _))
  have HSZ := Lib.hid (show w0.heap.size = w.heap.size + 2 from by rw [← hw0, alloc_size, hs1])
  have HT := Lib.hid hT
  have HL := Lib.hid hl
  have HZB := Lib.hid hb
  have HEQ := Lib.hid (show decide (zs = z64) = false from by simpa using h1)
  have hri5 := HK.out.ri 0 5 64 (by omega) (by omega) (by omega)
  rw [List.drop_zero] at hri5
  have hq5 := (conv_ri hri5).trans (show Result.ok (Value.string (strOfNums (zs.take 5))) w0 = .ok (.string ⟨#[115, 116, 114, 100, 1]⟩) w0 from by rw [h2]; rfl)
  have HD23 := Lib.hid (show (zs.drop 41).length = 23 from by simp [hl])
  have HRQ := Lib.hid (show (!decide (zs.drop 41 = z23)) = false from by simpa using h3)
  clear hri5
  obtain ⟨m, hm⟩ : ∃ m, maskS (ofS (zs.take 37)) = m := ⟨_, rfl⟩
  have HSU := Lib.hid (fun w ht => hsum_any (w := w) ht zs hl hb hm)
  have HBQ := Lib.hid (show decide ((zs.drop 37).take 4 = putL m 4) = false from by rw [← hm]; simpa using h4)
  have HPB := Lib.hid (show isB ((zs.drop 37).take 4) from (hb.drop 37).take 4)
  clear hm
  clear hl hb hT hs1 h1 h2 h3 h4
  go_enter Tryz.func72, Tryz.ntmps72
  go_wp2_with (first
    | (refine wpl_load_sec (by rfl) (.tmp 1) rfl w.heap.size rfl zs HK.out ?_)
    | (refine wpl_build_z rfl (by rfl) ?_)
    | (refine wpl_eq_sec (.tmp 6) (.tmp 7) _ rfl zs z64 HL.out z64_length rfl rfl (by rfl) ?_; rw [HEQ.out])
    | (refine wpl_ptr_rest (.tmp 15) rfl _ _ _ rfl (by omega) (by rfl) ?_)
    | (refine wpl_load_rest (.tmp 16) rfl rfl HK.out (by rfl) ?_)
    | (refine wpl_build_rest rfl (by rfl) ?_)
    | (refine wpl_neq_rest (.tmp 17) (.tmp 18) _ rfl (zs.drop 41) z23 HD23.out z23_length rfl rfl (by rfl) ?_; rw [HRQ.out]))
  go_wp2_with fail
  refine wp_region_held_drew (S := (fun w' => Blk w' w.heap.size zs ∧ HB w' (w.heap.size + 1) noH ∧ Below w.heap.size w w')) (by kernel_rfl) ⟨HK.out, HRB.out, HW.out.drew⟩ (fun hS => ?_)
  refine rgw 0 ⟨some 23, .slice 63 (.tmp 1) (some (.const (.int .i64 37))) (some (.const (.int .i64 41))) none, 36, _, _, none⟩ hS ?_
  refine rgw 1 ⟨some 24, .load 63 (.tmp 1), 63, _, _, none⟩ hS ?_ (hy := by intro w hSw; (try dsimp only at hSw); refine exec_load_sec (.tmp 1) ?_ ?_ hSw.1 <;> rfl)
  refine rg_one 2 ⟨some 25, .call { callee := .value (.func 100), args := #[.tmp 24], argTypes := #[63] }, 36, _, _, none⟩ (by kernel_rfl) rfl (fun K hK => ?_)
  go_simp
  (go_at_call 100; (refine (HSU.out _ (HT.out.keep hS.2.2)).mono ?_); rintro r w3 ⟨p3, rfl, ho, hb⟩; have HR3 := Lib.hid (RI.own ho); clear ho)
  refine hK.out _ _ ?_ (fun hS1 => ?_)
  · (first | exact hS | exact ⟨hS.1.keep hb, hS.2.1.keep hb, bch hS.2.2 hb⟩)
  clear hK K hS; have hS := hS1; clear hS1
  (try simp only [rgp])
  refine rg_one 3 ⟨some 26, .call { callee := .value (.func 99), args := #[.tmp 23, .tmp 25], argTypes := #[36, 36] }, 4, _, _, none⟩ (by kernel_rfl) rfl (fun K hK => ?_)
  go_simp
  (go_at_call 99; (refine (bequal_any _ _ 4 4 _ _ _ (hS.1.ri 37 4 27 (by omega) (by omega) (by omega)) HR3.out HPB.out (putL_isB _ _)).mono ?_); rintro r w4 ⟨rfl, rfl⟩; rw [HBQ.out])
  refine hK.out _ _ ?_ (fun hS1 => ?_)
  · (first | exact hS | exact ⟨hS.1.keep hb, hS.2.1.keep hb, bch hS.2.2 hb⟩)
  clear hK K hS; have hS := hS1; clear hS1
  (try simp only [rgp])
  refine rgw 4 ⟨some 27, .unOp .not 4 (.tmp 26), 4, _, _, none⟩ hS ?_
  refine rgw 5 ⟨some 22, .assign (.tmp 27), 4, _, _, none⟩ hS ?_
  refine wpAnyH_done (by kernel_rfl) ?_ _
  have HK3 := Lib.hid hS.1
  have HRB3 := Lib.hid hS.2.1
  have HW3 := Lib.hid hS.2.2
  clear hS
  go_wp2_with (first
    | (refine wpl_put_hd rfl (.tmp 2) (.tmp 28) rfl (w.heap.size + 1) noH noH HRB3.out rfl rfl rfl ?_; intro wf HOF HGF))
  refine bodyPost_ret_by (results_row_tmp rfl _ _ (w.heap.size + 1) _ rfl HOF.out.load) rfl ⟨rfl, hbelow_grown HW3.out HGF.out (by omega) HW3.out.size⟩
set_option maxRecDepth 8000 in
set_option maxHeartbeats 4000000 in
theorem hdec_wrong (zs : List Int) (hl : zs.length = 64) (hb : isB zs) (w : World) (hT : Tab w) (h1 : ¬ zs = z64) (h2 : zs.take 5 = mark) (h3 : zs.drop 41 = z23) (h4 : (zs.drop 37).take 4 = putL (maskS (ofS (zs.take 37))) 4) (h5 : hdOk (readH zs) = false) :
    Calls Tryz.prog 72 #[.agg (sv zs)] w fun r w' => r = .returned (.tuple #[.agg (hv noH), .int .i64 2]) ∧ Below w.heap.size w w' := by
  obtain ⟨w0, hw0⟩ : ∃ q, (w.alloc (.cells (sv zs) 63)).alloc (.cells #[.int .u64 0, .int .i64 0, .int .i64 0, .int .i64 0, .int .i64 0, .int .i64 0, .int .i64 0] 34) = q := ⟨_, rfl⟩
  have hs1 : (w.alloc (.cells (sv zs) 63)).heap.size = w.heap.size + 1 := alloc_size w _
  have HK := Lib.hid (show Blk w0 w.heap.size zs from by rw [← hw0]; exact (Blk.new w zs hl).keep (balloc _ _))
  have HRB := Lib.hid (show HB w0 (w.heap.size + 1) noH from by rw [← hw0, ← hs1]; exact HB.new _ noH rfl)
  have HW := Lib.hid (show Below w.heap.size w w0 from by rw [← hw0]; exact bch (balloc w _) (balloc _ _))
  have HSZ := Lib.hid (show w0.heap.size = w.heap.size + 2 from by rw [← hw0, alloc_size, hs1])
  have HT := Lib.hid hT
  have HL := Lib.hid hl
  have HZB := Lib.hid hb
  have HEQ := Lib.hid (show decide (zs = z64) = false from by simpa using h1)
  have hri5 := HK.out.ri 0 5 64 (by omega) (by omega) (by omega)
  rw [List.drop_zero] at hri5
  have hq5 := (conv_ri hri5).trans (show Result.ok (Value.string (strOfNums (zs.take 5))) w0 = .ok (.string ⟨#[115, 116, 114, 100, 1]⟩) w0 from by rw [h2]; rfl)
  have HD23 := Lib.hid (show (zs.drop 41).length = 23 from by simp [hl])
  have HRQ := Lib.hid (show (!decide (zs.drop 41 = z23)) = false from by simpa using h3)
  clear hri5
  obtain ⟨m, hm⟩ : ∃ m, maskS (ofS (zs.take 37)) = m := ⟨_, rfl⟩
  have HSU := Lib.hid (fun w ht => hsum_any (w := w) ht zs hl hb hm)
  have HBQ := Lib.hid (show decide ((zs.drop 37).take 4 = putL m 4) = true from by rw [← hm]; simpa using h4)
  have HPB := Lib.hid (show isB ((zs.drop 37).take 4) from (hb.drop 37).take 4)
  clear hm
  have HRD := Lib.hid (fun w => hread_any zs hl hb w)
  have HRT := Lib.hid (readH_typed hb)
  have HOK : Hid (∀ w, Calls Tryz.prog 28 #[.agg (hv (readH zs))] w fun r w' => r = .returned (.bool false) ∧ Below w.heap.size w w') := Lib.hid fun w => by rw [← h5]; exact hright_any _ (readH_typed hb) w
  clear hl hb hT hs1 h1 h2 h3 h4 h5
  go_enter Tryz.func72, Tryz.ntmps72
  go_wp2_with (first
    | (refine wpl_load_sec (by rfl) (.tmp 1) rfl w.heap.size rfl zs HK.out ?_)
    | (refine wpl_build_z rfl (by rfl) ?_)
    | (refine wpl_eq_sec (.tmp 6) (.tmp 7) _ rfl zs z64 HL.out z64_length rfl rfl (by rfl) ?_; rw [HEQ.out])
    | (refine wpl_ptr_rest (.tmp 15) rfl _ _ _ rfl (by omega) (by rfl) ?_)
    | (refine wpl_load_rest (.tmp 16) rfl rfl HK.out (by rfl) ?_)
    | (refine wpl_build_rest rfl (by rfl) ?_)
    | (refine wpl_neq_rest (.tmp 17) (.tmp 18) _ rfl (zs.drop 41) z23 HD23.out z23_length rfl rfl (by rfl) ?_; rw [HRQ.out]))
  go_wp2_with fail
  refine wp_region_held_drew (S := (fun w' => Blk w' w.heap.size zs ∧ HB w' (w.heap.size + 1) noH ∧ Below w.heap.size w w')) (by kernel_rfl) ⟨HK.out, HRB.out, HW.out.drew⟩ (fun hS => ?_)
  refine rgw 0 ⟨some 23, .slice 63 (.tmp 1) (some (.const (.int .i64 37))) (some (.const (.int .i64 41))) none, 36, _, _, none⟩ hS ?_
  refine rgw 1 ⟨some 24, .load 63 (.tmp 1), 63, _, _, none⟩ hS ?_ (hy := by intro w hSw; (try dsimp only at hSw); refine exec_load_sec (.tmp 1) ?_ ?_ hSw.1 <;> rfl)
  refine rg_one 2 ⟨some 25, .call { callee := .value (.func 100), args := #[.tmp 24], argTypes := #[63] }, 36, _, _, none⟩ (by kernel_rfl) rfl (fun K hK => ?_)
  go_simp
  (go_at_call 100; (refine (HSU.out _ (HT.out.keep hS.2.2)).mono ?_); rintro r w3 ⟨p3, rfl, ho, hb⟩; have HR3 := Lib.hid (RI.own ho); clear ho)
  refine hK.out _ _ ?_ (fun hS1 => ?_)
  · (first | exact hS | exact ⟨hS.1.keep hb, hS.2.1.keep hb, bch hS.2.2 hb⟩)
  clear hK K hS; have hS := hS1; clear hS1
  (try simp only [rgp])
  refine rg_one 3 ⟨some 26, .call { callee := .value (.func 99), args := #[.tmp 23, .tmp 25], argTypes := #[36, 36] }, 4, _, _, none⟩ (by kernel_rfl) rfl (fun K hK => ?_)
  go_simp
  (go_at_call 99; (refine (bequal_any _ _ 4 4 _ _ _ (hS.1.ri 37 4 27 (by omega) (by omega) (by omega)) HR3.out HPB.out (putL_isB _ _)).mono ?_); rintro r w4 ⟨rfl, rfl⟩; rw [HBQ.out])
  refine hK.out _ _ ?_ (fun hS1 => ?_)
  · (first | exact hS | exact ⟨hS.1.keep hb, hS.2.1.keep hb, bch hS.2.2 hb⟩)
  clear hK K hS; have hS := hS1; clear hS1
  (try simp only [rgp])
  refine rgw 4 ⟨some 27, .unOp .not 4 (.tmp 26), 4, _, _, none⟩ hS ?_
  refine rgw 5 ⟨some 22, .assign (.tmp 27), 4, _, _, none⟩ hS ?_
  refine wpAnyH_done (by kernel_rfl) ?_ _
  have HK3 := Lib.hid hS.1
  have HRB3 := Lib.hid hS.2.1
  have HW3 := Lib.hid hS.2.2
  clear hS
  go_wp2_with (first
    | (refine wpl_load_sec (by rfl) (.tmp 1) rfl w.heap.size rfl zs HK3.out ?_)
    | (go_at_call 101; (with_reducible refine (HRD.out _).mono ?_); rintro r w5 ⟨rfl, hb5⟩; have HRB5 := Lib.hid (HRB3.out.keep hb5); have HW5 := Lib.hid (bch HW3.out hb5); clear hb5)
    | (refine wpl_put_hd rfl (.tmp 4) (.tmp 30) rfl w5.heap.size noH (readH zs) (HB.new w5 noH rfl) rfl rfl rfl ?_; intro w7 HA7 HG7; have HL5 := Lib.hid (HRB5.out.lt); have HRB7 := Lib.hid ((HRB5.out.keep (balloc w5 _)).over HG7.out (by have := HL5.out; omega)); have HW7 := Lib.hid (hbelow_grown (bch HW5.out (balloc w5 _)) HG7.out HW5.out.size (Nat.le_trans HW5.out.size (balloc w5 _).size)))
    | (refine wpl_load_hd (by rfl) (.tmp 4) rfl rfl HA8.out ?_)
    | (refine wpl_load_hd (by rfl) (.tmp 4) rfl rfl HA7.out ?_)
    | (go_at_call 28; (with_reducible refine (HOK.out _).mono ?_); rintro r w8 ⟨rfl, hb8⟩; have HA8 := Lib.hid (HA7.out.keep hb8); have HRB8 := Lib.hid (HRB7.out.keep hb8); have HW8 := Lib.hid (bch HW7.out hb8); clear hb8)
    | (refine wpl_put_hd rfl (.tmp 2) (.tmp 34) rfl (w.heap.size + 1) noH noH HRB8.out rfl rfl rfl ?_; intro wf HOF HGF))
  refine bodyPost_ret_by (results_row_tmp rfl _ _ (w.heap.size + 1) _ rfl HOF.out.load) rfl ⟨rfl, hbelow_grown HW8.out HGF.out (by omega) HW8.out.size⟩
set_option maxRecDepth 8000 in
set_option maxHeartbeats 4000000 in
theorem hdec_ok (zs : List Int) (hl : zs.length = 64) (hb : isB zs) (w : World) (hT : Tab w) (h1 : ¬ zs = z64) (h2 : zs.take 5 = mark) (h3 : zs.drop 41 = z23) (h4 : (zs.drop 37).take 4 = putL (maskS (ofS (zs.take 37))) 4) (h5 : hdOk (readH zs) = true) :
    Calls Tryz.prog 72 #[.agg (sv zs)] w fun r w' => r = .returned (.tuple #[.agg (hv (readH zs)), .int .i64 0]) ∧ Below w.heap.size w w' := by
  obtain ⟨w0, hw0⟩ : ∃ q, (w.alloc (.cells (sv zs) 63)).alloc (.cells #[.int .u64 0, .int .i64 0, .int .i64 0, .int .i64 0, .int .i64 0, .int .i64 0, .int .i64 0] 34) = q := ⟨_, rfl⟩
  have hs1 : (w.alloc (.cells (sv zs) 63)).heap.size = w.heap.size + 1 := alloc_size w _
  have HK := Lib.hid (show Blk w0 w.heap.size zs from by rw [← hw0]; exact (Blk.new w zs hl).keep (balloc _ _))
  have HRB := Lib.hid (show HB w0 (w.heap.size + 1) noH from by rw [← hw0, ← hs1]; exact HB.new _ noH rfl)
  have HW := Lib.hid (show Below w.heap.size w w0 from by rw [← hw0]; exact bch (balloc w _) (balloc _ _))
  have HSZ := Lib.hid (show w0.heap.size = w.heap.size + 2 from by rw [← hw0, alloc_size, hs1])
  have HT := Lib.hid hT
  have HL := Lib.hid hl
  have HZB := Lib.hid hb
  have HEQ := Lib.hid (show decide (zs = z64) = false from by simpa using h1)
  have hri5 := HK.out.ri 0 5 64 (by omega) (by omega) (by omega)
  rw [List.drop_zero] at hri5
  have hq5 := (conv_ri hri5).trans (show Result.ok (Value.string (strOfNums (zs.take 5))) w0 = .ok (.string ⟨#[115, 116, 114, 100, 1]⟩) w0 from by rw [h2]; rfl)
  have HD23 := Lib.hid (show (zs.drop 41).length = 23 from by simp [hl])
  have HRQ := Lib.hid (show (!decide (zs.drop 41 = z23)) = false from by simpa using h3)
  clear hri5
  obtain ⟨m, hm⟩ : ∃ m, maskS (ofS (zs.take 37)) = m := ⟨_, rfl⟩
  have HSU := Lib.hid (fun w ht => hsum_any (w := w) ht zs hl hb hm)
  have HBQ := Lib.hid (show decide ((zs.drop 37).take 4 = putL m 4) = true from by rw [← hm]; simpa using h4)
  have HPB := Lib.hid (show isB ((zs.drop 37).take 4) from (hb.drop 37).take 4)
  clear hm
  have HRD := Lib.hid (fun w => hread_any zs hl hb w)
  have HRT := Lib.hid (readH_typed hb)
  have HOK : Hid (∀ w, Calls Tryz.prog 28 #[.agg (hv (readH zs))] w fun r w' => r = .returned (.bool true) ∧ Below w.heap.size w w') := Lib.hid fun w => by rw [← h5]; exact hright_any _ (readH_typed hb) w
  clear hl hb hT hs1 h1 h2 h3 h4 h5
  go_enter Tryz.func72, Tryz.ntmps72
  go_wp2_with (first
    | (refine wpl_load_sec (by rfl) (.tmp 1) rfl w.heap.size rfl zs HK.out ?_)
    | (refine wpl_build_z rfl (by rfl) ?_)
    | (refine wpl_eq_sec (.tmp 6) (.tmp 7) _ rfl zs z64 HL.out z64_length rfl rfl (by rfl) ?_; rw [HEQ.out])
    | (refine wpl_ptr_rest (.tmp 15) rfl _ _ _ rfl (by omega) (by rfl) ?_)
    | (refine wpl_load_rest (.tmp 16) rfl rfl HK.out (by rfl) ?_)
    | (refine wpl_build_rest rfl (by rfl) ?_)
    | (refine wpl_neq_rest (.tmp 17) (.tmp 18) _ rfl (zs.drop 41) z23 HD23.out z23_length rfl rfl (by rfl) ?_; rw [HRQ.out]))
  go_wp2_with fail
  refine wp_region_held_drew (S := (fun w' => Blk w' w.heap.size zs ∧ HB w' (w.heap.size + 1) noH ∧ Below w.heap.size w w')) (by kernel_rfl) ⟨HK.out, HRB.out, HW.out.drew⟩ (fun hS => ?_)
  refine rgw 0 ⟨some 23, .slice 63 (.tmp 1) (some (.const (.int .i64 37))) (some (.const (.int .i64 41))) none, 36, _, _, none⟩ hS ?_
  refine rgw 1 ⟨some 24, .load 63 (.tmp 1), 63, _, _, none⟩ hS ?_ (hy := by intro w hSw; (try dsimp only at hSw); refine exec_load_sec (.tmp 1) ?_ ?_ hSw.1 <;> rfl)
  refine rg_one 2 ⟨some 25, .call { callee := .value (.func 100), args := #[.tmp 24], argTypes := #[63] }, 36, _, _, none⟩ (by kernel_rfl) rfl (fun K hK => ?_)
  go_simp
  (go_at_call 100; (refine (HSU.out _ (HT.out.keep hS.2.2)).mono ?_); rintro r w3 ⟨p3, rfl, ho, hb⟩; have HR3 := Lib.hid (RI.own ho); clear ho)
  refine hK.out _ _ ?_ (fun hS1 => ?_)
  · (first | exact hS | exact ⟨hS.1.keep hb, hS.2.1.keep hb, bch hS.2.2 hb⟩)
  clear hK K hS; have hS := hS1; clear hS1
  (try simp only [rgp])
  refine rg_one 3 ⟨some 26, .call { callee := .value (.func 99), args := #[.tmp 23, .tmp 25], argTypes := #[36, 36] }, 4, _, _, none⟩ (by kernel_rfl) rfl (fun K hK => ?_)
  go_simp
  (go_at_call 99; (refine (bequal_any _ _ 4 4 _ _ _ (hS.1.ri 37 4 27 (by omega) (by omega) (by omega)) HR3.out HPB.out (putL_isB _ _)).mono ?_); rintro r w4 ⟨rfl, rfl⟩; rw [HBQ.out])
  refine hK.out _ _ ?_ (fun hS1 => ?_)
  · (first | exact hS | exact ⟨hS.1.keep hb, hS.2.1.keep hb, bch hS.2.2 hb⟩)
  clear hK K hS; have hS := hS1; clear hS1
  (try simp only [rgp])
  refine rgw 4 ⟨some 27, .unOp .not 4 (.tmp 26), 4, _, _, none⟩ hS ?_
  refine rgw 5 ⟨some 22, .assign (.tmp 27), 4, _, _, none⟩ hS ?_
  refine wpAnyH_done (by kernel_rfl) ?_ _
  have HK3 := Lib.hid hS.1
  have HRB3 := Lib.hid hS.2.1
  have HW3 := Lib.hid hS.2.2
  clear hS
  go_wp2_with (first
    | (refine wpl_load_sec (by rfl) (.tmp 1) rfl w.heap.size rfl zs HK3.out ?_)
    | (go_at_call 101; (with_reducible refine (HRD.out _).mono ?_); rintro r w5 ⟨rfl, hb5⟩; have HRB5 := Lib.hid (HRB3.out.keep hb5); have HW5 := Lib.hid (bch HW3.out hb5); clear hb5)
    | (refine wpl_put_hd rfl (.tmp 4) (.tmp 30) rfl w5.heap.size noH (readH zs) (HB.new w5 noH rfl) rfl rfl rfl ?_; intro w7 HA7 HG7; have HL5 := Lib.hid (HRB5.out.lt); have HRB7 := Lib.hid ((HRB5.out.keep (balloc w5 _)).over HG7.out (by have := HL5.out; omega)); have HW7 := Lib.hid (hbelow_grown (bch HW5.out (balloc w5 _)) HG7.out HW5.out.size (Nat.le_trans HW5.out.size (balloc w5 _).size)))
    | (refine wpl_load_hd (by rfl) (.tmp 4) rfl rfl HA8.out ?_)
    | (refine wpl_load_hd (by rfl) (.tmp 4) rfl rfl HA7.out ?_)
    | (go_at_call 28; (with_reducible refine (HOK.out _).mono ?_); rintro r w8 ⟨rfl, hb8⟩; have HA8 := Lib.hid (HA7.out.keep hb8); have HRB8 := Lib.hid (HRB7.out.keep hb8); have HW8 := Lib.hid (bch HW7.out hb8); clear hb8)
    | (refine wpl_put_hd rfl (.tmp 2) (.tmp 35) rfl (w.heap.size + 1) noH (readH zs) HRB8.out rfl rfl rfl ?_; intro wf HOF HGF))
  refine bodyPost_ret_by (results_row_tmp rfl _ _ (w.heap.size + 1) _ rfl HOF.out.load) rfl ⟨rfl, hbelow_grown HW8.out HGF.out (by omega) HW8.out.size⟩
theorem hdec_any (zs : List Int) (hl : zs.length = 64) (hb : isB zs) (w : World) (hT : Tab w) {h : Hdr} {x : Int} (hd : headD zs = (h, x)) :
    Calls Tryz.prog 72 #[.agg (sv zs)] w fun r w' => r = .returned (.tuple #[.agg (hv h), .int .i64 x]) ∧ Below w.heap.size w w' := by
  rcases headD_cases (zs := zs) with ⟨h1, e⟩ | ⟨h1, h2, e⟩ | ⟨h1, h2, h3, h4, e⟩ | ⟨h1, h2, h3, h4, h5, e⟩ | ⟨h1, h2, h3, h4, h5, e⟩ <;> (rw [hd] at e; obtain ⟨rfl, rfl⟩ := Prod.mk.inj e)
  · exact hdec_none zs hl hb w hT h1
  · by_cases hm : zs.take 5 = mark
    · exact hdec_rest zs hl hb w hT h1 hm (fun q => (h2.elim (fun k => k hm) (fun k => k q)))
    · exact hdec_mark zs hl hb w hT h1 hm
  · exact hdec_sum zs hl hb w hT h1 h2 h3 h4
  · exact hdec_wrong zs hl hb w hT h1 h2 h3 h4 h5
  · exact hdec_ok zs hl hb w hT h1 h2 h3 h4 h5
end Go.Proofs.YtpoiapfgbbmekaaGreatDoor
