/-
  TEXTS JOINED: HeadGet, HeadLay, HeadRight, HeadEnc, HeadRead, BytesEq, HeadDec. Each one's own words stand at its head.
-/
import Derived.Test.YtgegbpnmfpjdmaaGreatDoorJ18
import Derived.Test.YtgegbpnmfpjdmaaGreatDoorJ16
import Derived.Test.YtgegbpnmfpjdmaaGreatDoorJ3
import Derived.Test.YtgegbpnmfpjdmaaGreatDoorJ7
namespace Go.Proofs.YtgegbpnmfpjdmaaGreatDoor
open Go.RowKit
theorem hword_put (x : Int) (n : Nat) (hn : n ≤ 8) (w : World) :
    Calls Tryz.prog 115 #[.int .u64 x, .int .i64 n] w fun e w' => e = .returned (.slice (some ⟨w.heap.size, 0, none⟩) n n) ∧ w'.ownsRow w.heap.size 5 1 (.slice (some ⟨w.heap.size, 0, none⟩) n n) n (il .u8 (putL x n)) ∧ Below w.heap.size w w' :=
  (put_any x n n (by unfold I63; omega) (by unfold clampI; omega) w).mono fun _ _ ⟨he, ho, hb⟩ => ⟨he, ho, hb⟩
theorem hword_get (b off len cap : Nat) (zs : List Int) (w : World) (hr : RI .u8 w (.slice (some ⟨b, off, none⟩) len cap) len zs) (hz : Bytes zs) (h0 : 0 < len) :
    Calls Tryz.prog 120 #[.slice (some ⟨b, off, none⟩) len cap] w fun e w' => e = .returned (.int .u64 (getI zs (min len 8))) ∧ w = w' := by
  obtain ⟨b2, off2, c2, e, _, _, hcell⟩ := hr.open_ h0
  simp only [Value.slice.injEq, Option.some.injEq, Addr.mk.injEq, and_true, true_and] at e
  obtain ⟨⟨rfl, rfl⟩, rfl⟩ := e
  exact get_some b off len cap zs w hz h0 hr.le hcell
theorem sec_get (g p n : Nat) (zs : List Int) (w : World) (hk : Blk w g zs) (hb : isB zs) (hp : p + n ≤ 64) (h0 : 0 < n) (h8 : n ≤ 8) {m : Int} (hm : num zs p n = m) :
    Calls Tryz.prog 120 #[.slice (some ⟨g, p, none⟩) n (64 - p)] w fun e w' => e = .returned (.int .u64 m) ∧ w = w' := by
  have h := hword_get g p n (64 - p) ((zs.drop p).take n) w (hk.ri p n (64 - p) hp (by omega) (by omega)) (bytes_of_mem ((hb.drop p).take n)) h0
  rw [Nat.min_eq_left h8, getI_take _ n n (Nat.le_refl _)] at h
  rw [← hm]; exact h
theorem number_any (n : Int) (h0 : 0 ≤ n) (h1 : n ≤ 2147483647) (w : World) :
    Calls Tryz.prog 128 #[.int .i64 n] w fun e w' => e = .returned (.slice (some ⟨w.heap.size, 0, none⟩) 4 4) ∧ w'.ownsRow w.heap.size 5 1 (.slice (some ⟨w.heap.size, 0, none⟩) 4 4) 4 (il .u8 (putL n 4)) ∧ Below w.heap.size w w' := by
  have HP : Hid (Calls Tryz.prog 115 #[.int .u64 n, .int .i64 4] w fun e w' => e = .returned (.slice (some ⟨w.heap.size, 0, none⟩) 4 4) ∧ w'.ownsRow w.heap.size 5 1 (.slice (some ⟨w.heap.size, 0, none⟩) 4 4) 4 (il .u8 (putL n 4)) ∧ Below w.heap.size w w') := Lib.hid (hword_put n 4 (by omega) w)
  go_enter Tryz.func128, Tryz.ntmps128
  go_wp2_with (first
    | (go_at_call 115; (with_reducible refine (HP.out).mono ?_); rintro e w1 ⟨rfl, ho, hb⟩; have HO := Lib.hid ho; have HB := Lib.hid hb; clear ho hb))
  go_ret
  exact ⟨rfl, HO.out, HB.out⟩
set_option maxRecDepth 8000 in
set_option maxHeartbeats 1000000 in
theorem hget_any (zs : List Int) (hl : zs.length = 64) (hb : isB zs) (p : Nat) (hp : p + 4 ≤ 64) (w : World) {m : Int} (hm : num zs p 4 = m) :
    Calls Tryz.prog 121 #[.agg (sv zs), .int .i64 p] w fun e w' => e = .returned (.int .i64 m) ∧ Below w.heap.size w w' := by
  have hbd := num_bd hb p 4
  rw [hm] at hbd
  have hbd1 : 0 ≤ m ∧ m < 4294967296 := by omega
  obtain ⟨w0, hw0⟩ : ∃ q, w.alloc (.cells (sv zs) 60) = q := ⟨_, rfl⟩
  have hk0 : Blk w0 w.heap.size zs := by rw [← hw0]; exact Blk.new w zs hl
  have HW := Lib.hid (show Below w.heap.size w w0 from by rw [← hw0]; exact below_alloc w _)
  have HG := Lib.hid (sec_get w.heap.size p 4 zs w0 hk0 hb hp (by omega) (by omega) hm)
  obtain ⟨q, hq⟩ : ∃ q, 64 - p = q := ⟨_, rfl⟩
  rw [hq] at HG
  have hp2 : (p : Int) ≤ 60 := by omega
  obtain ⟨t, ht⟩ : ∃ t : Nat, (p : Int) + 4 = (t : Int) := ⟨p + 4, by omega⟩
  have hp3 : (t : Int) ≤ 64 := by omega
  have hp4 : (p : Int) ≤ (t : Int) := by omega
  have hp5 : t - p = 4 := by omega
  have hp6 : ¬ 64 = p := by omega
  clear hbd hb hl hm hk0
  go_enter Tryz.func121, Tryz.ntmps121
  go_wp2_with (first
    | (go_at_call 120; (with_reducible refine (HG.out).mono ?_); rintro e w' ⟨rfl, rfl⟩))
  go_ret
  exact ⟨rfl, HW.out⟩
theorem hsum_any {w : World} (hT : Tab w) (zs : List Int) (hl : zs.length = 64) (hb : isB zs) {m : Nat} (hm : maskS (ofS (zs.take 37)) = m) :
    Calls Tryz.prog 101 #[.agg (sv zs)] w fun e w' => ∃ p, e = .returned (.slice (some ⟨p, 0, none⟩) 4 4) ∧ w'.ownsRow w.heap.size 5 1 (.slice (some ⟨p, 0, none⟩) 4 4) 4 (il .u8 (putL m 4)) ∧ Below w.heap.size w w' := by
  obtain ⟨w0, hw0⟩ : ∃ q, w.alloc (.cells (sv zs) 60) = q := ⟨_, rfl⟩
  have hk0 : Blk w0 w.heap.size zs := by rw [← hw0]; exact Blk.new w zs hl
  have hb0 : Below w.heap.size w w0 := by rw [← hw0]; exact below_alloc w _
  have HW := Lib.hid hb0
  obtain ⟨o, ho⟩ : ∃ o, ofS (zs.take 37) = o := ⟨_, rfl⟩
  rw [ho] at hm
  have hr := hk0.ri 0 37 64 (by omega) (by omega) (by omega)
  rw [List.drop_zero] at hr
  have HO : Hid (Calls Tryz.prog 119 #[.slice (some ⟨w.heap.size, 0, none⟩) 37 64] w0 fun e w' => e = .returned (.int .u32 o) ∧ w0 = w') := Lib.hid (of_any (hT.keep hb0) hr (hb.take 37) ho)
  have HK : Hid (∀ w, Calls Tryz.prog 118 #[.int .u32 o] w fun e w' => e = .returned (.int .u32 m) ∧ w = w') := Lib.hid fun w => mask_any o m (by rw [← ho]; exact ofS_lt _) hm w
  have hm9 : (m : Int) ≤ 4294967295 := by have := maskS_lt o; omega
  have HP : Hid (∀ w, Calls Tryz.prog 115 #[.int .u64 m, .int .i64 4] w fun e w' => e = .returned (.slice (some ⟨w.heap.size, 0, none⟩) 4 4) ∧ w'.ownsRow w.heap.size 5 1 (.slice (some ⟨w.heap.size, 0, none⟩) 4 4) 4 (il .u8 (putL m 4)) ∧ Below w.heap.size w w') := Lib.hid (hword_put m 4 (by omega))
  clear hT hb hl hm ho hr hk0 hb0
  go_enter Tryz.func101, Tryz.ntmps101
  go_wp2_with (first
    | (go_at_call 119; (with_reducible refine (HO.out).mono ?_); rintro e w' ⟨rfl, rfl⟩)
    | (go_at_call 118; (with_reducible refine (HK.out _).mono ?_); rintro e w' ⟨rfl, rfl⟩)
    | (go_at_call 115; (with_reducible refine (HP.out _).mono ?_); rintro e w2 ⟨rfl, ho2, hb2⟩; have HO2 := Lib.hid ho2; have HB2 := Lib.hid hb2; clear ho2 hb2))
  go_ret
  exact ⟨_, rfl, own_mono HO2.out HW.out.size, bch HW.out HB2.out⟩
end Go.Proofs.YtgegbpnmfpjdmaaGreatDoor
namespace Go.Proofs.YtgegbpnmfpjdmaaGreatDoor
open Go.RowKit
def p0 (e s f : Int) : List Int := mark ++ putL e 8 ++ putL s 4 ++ putL f 4
theorem p0_length (e s f : Int) : (p0 e s f).length = 21 := by simp [p0, putL_length, mark_length]
theorem p0_flat (e s f : Int) : [mark, putL e 8, putL s 4, putL f 4].flatten = p0 e s f := by simp [p0]
theorem put4_take (l : List Int) (i : Nat) (hi : i < l.length) : put4 (l.take i) ++ putL (l.getD i 0) 4 = put4 (l.take (i + 1)) := by
  rw [List.take_succ_eq_append_getElem hi, put4_snoc]
  simp [List.getD, hi]
theorem fd_one {w : World} {base : Nat} {v : Value} {l : List Int} (h : FD w base v l) : ∀ (j : Nat) (x : Value) (k : List Int), [v][j]? = some x → [l][j]? = some k → FD w base x k := by
  intro j x k hx hk
  match j with
  | 0 => simp at hx hk; subst hx; subst hk; exact h
  | j + 1 => simp at hx
theorem fd_four {w : World} {base : Nat} {v0 v1 v2 v3 : Value} {l0 l1 l2 l3 : List Int} (h0 : FD w base v0 l0) (h1 : FD w base v1 l1) (h2 : FD w base v2 l2) (h3 : FD w base v3 l3) :
    ∀ (j : Nat) (x : Value) (k : List Int), [v0, v1, v2, v3][j]? = some x → [l0, l1, l2, l3][j]? = some k → FD w base x k := by
  intro j x k hx hk
  match j with
  | 0 => simp at hx hk; subst hx; subst hk; exact h0
  | 1 => simp at hx hk; subst hx; subst hk; exact h1
  | 2 => simp at hx hk; subst hx; subst hk; exact h2
  | 3 => simp at hx hk; subst hx; subst hk; exact h3
  | j + 4 => simp at hx
theorem lay_done (h : Hdr) (hn : h.l.length = 4) : isB (splice z64 0 (headP h)) ∧ (splice z64 0 (headP h)).take 37 = headP h ∧ splice (splice z64 0 (headP h)) 37 (putL (headS h) 4) = secH h := by
  have hl := headP_length hn
  have e0 : splice z64 0 (headP h) = headP h ++ z64.drop 37 := by unfold splice; rw [List.take_zero, List.nil_append, hl]
  refine ⟨by rw [e0]; exact (headP_bytes h).append ((zeros_bytes 64).drop 37), by rw [e0, List.take_left' hl], ?_⟩
  have h2 := splice_more z64 0 (headP h) (putL (headS h) 4) (by rw [hl, z64_length]; omega)
  rw [hl, Nat.zero_add] at h2
  rw [h2]
  unfold splice secH headB
  rw [List.take_zero, List.nil_append, List.length_append, hl, putL_length]
  rfl
structure LS (W : World) (h : Hdr) (w : World) : Prop where
  below : Below W.heap.size W w
  sz : W.heap.size + 3 ≤ w.heap.size
  hb : HB w W.heap.size h
  old : Blk w (W.heap.size + 1) z64
theorem LS.next {W w w' : World} {h : Hdr} (k : LS W h w) (hb : Below w.heap.size w w') : LS W h w' := ⟨bch k.below hb, Nat.le_trans k.sz hb.size, k.hb.keep hb, k.old.keep hb⟩
theorem LS.over {W w w' : World} {h : Hdr} (k : LS W h w) (hg : w.grownBy w' (some (W.heap.size + 2))) : LS W h w' :=
  ⟨hbelow_grown k.below hg (by omega) k.below.size, Nat.le_trans k.sz hg.size, k.hb.over hg (by omega), k.old.over hg (by omega)⟩
theorem LS.overq {W w w' : World} {h : Hdr} {q : Nat} (k : LS W h w) (hg : w.grownBy w' (some q)) (hq : W.heap.size + 3 ≤ q) : LS W h w' :=
  ⟨hbelow_grown k.below hg (by omega) k.below.size, Nat.le_trans k.sz hg.size, k.hb.over hg (by omega), k.old.over hg (by omega)⟩
theorem LS.all {W w : World} {e s f : Int} {l : List Int} (k : LS W ⟨e, s, f, l⟩ w) : w.cell? ⟨W.heap.size, 0, none⟩ = some (.int .u64 e) ∧ w.cell? ⟨W.heap.size, 1, none⟩ = some (.int .i64 s) ∧ w.cell? ⟨W.heap.size, 2, none⟩ = some (.int .i64 f) ∧ LS W ⟨e, s, f, l⟩ w :=
  ⟨k.hb.cells.1, k.hb.cells.2.1, k.hb.cells.2.2, k⟩
set_option maxRecDepth 8000 in
set_option maxHeartbeats 4000000 in
theorem hlay_any (h : Hdr) (ht : HdT h) (hk : hdOk h = true) (w : World) (hT : Tab w) :
    Calls Tryz.prog 107 #[.agg (hv h)] w fun e w' => e = .returned (.agg (sv (secH h))) ∧ Below w.heap.size w w' := by
  have hok := hdOk_parts hk
  obtain ⟨w0, hw0⟩ : ∃ q, ((w.alloc (.cells (hv h) 30)).alloc (.cells (sv z64) 60)).alloc (.cells (sv z64) 60) = q := ⟨_, rfl⟩
  have hs1 : (w.alloc (.cells (hv h) 30)).heap.size = w.heap.size + 1 := alloc_size w _
  have hs2 : ((w.alloc (.cells (hv h) 30)).alloc (.cells (sv z64) 60)).heap.size = w.heap.size + 2 := by rw [alloc_size, hs1]
  have HN0 := Lib.hid (show Blk w0 (w.heap.size + 2) z64 from by rw [← hw0, ← hs2]; exact Blk.new _ z64 z64_length)
  have HLS0 : Hid (LS w h w0) := Lib.hid ⟨by rw [← hw0]; exact bch (bch (balloc w _) (balloc _ _)) (balloc _ _), by rw [← hw0, alloc_size, hs2]; omega, by rw [← hw0]; exact ((HB.new w h ht.n).keep (balloc _ _)).keep (balloc _ _), by rw [← hw0]; exact Blk.keep (by rw [← hs1]; exact Blk.new _ z64 z64_length) (balloc _ _)⟩
  have HLN := Lib.hid ht.n
  have HT := Lib.hid hT
  have HLB := Lib.hid (show ∀ x ∈ h.l, 0 ≤ x ∧ x ≤ 2147483647 from fun x hx => by have := hok.2.2.2 x hx; have := hok.2.2.1; omega)
  have hZ := z64_cells
  have HZ := Lib.hid hZ
  have he : 0 ≤ h.e ∧ h.e ≤ 18446744073709551615 := ht.e
  have hs := hok.2.1
  have hf := hok.2.2.1
  obtain ⟨e, s, f, l⟩ := h
  dsimp only at *
  have HP8 : Hid (∀ w, Calls Tryz.prog 115 #[.int .u64 e, .int .i64 8] w fun r w' => r = .returned (.slice (some ⟨w.heap.size, 0, none⟩) 8 8) ∧ w'.ownsRow w.heap.size 5 1 (.slice (some ⟨w.heap.size, 0, none⟩) 8 8) 8 (il .u8 (putL e 8)) ∧ Below w.heap.size w w') := Lib.hid (hword_put e 8 (by omega))
  have HPS : Hid (∀ w, Calls Tryz.prog 128 #[.int .i64 s] w fun r w' => r = .returned (.slice (some ⟨w.heap.size, 0, none⟩) 4 4) ∧ w'.ownsRow w.heap.size 5 1 (.slice (some ⟨w.heap.size, 0, none⟩) 4 4) 4 (il .u8 (putL s 4)) ∧ Below w.heap.size w w') := Lib.hid (number_any s (by omega) hs.2)
  have HPF : Hid (∀ w, Calls Tryz.prog 128 #[.int .i64 f] w fun r w' => r = .returned (.slice (some ⟨w.heap.size, 0, none⟩) 4 4) ∧ w'.ownsRow w.heap.size 5 1 (.slice (some ⟨w.heap.size, 0, none⟩) 4 4) 4 (il .u8 (putL f 4)) ∧ Below w.heap.size w w') := Lib.hid (number_any f (by omega) hf.2)
  clear hok hk ht hT hZ hs1 hs2
  go_enter Tryz.func107, Tryz.ntmps107
  go_wp2_with fail
  rw [← HZ.out, hw0]
  have HN : Hid (Blk w0.drew (w.heap.size + 2) z64) := Lib.hid (HN0.out.keep (Below.refl _ _).drew)
  refine wp_region_held_drew (S := (fun w' => w'.cell? ⟨w.heap.size, 0, none⟩ = some (.int .u64 e) ∧ w'.cell? ⟨w.heap.size, 1, none⟩ = some (.int .i64 s) ∧ w'.cell? ⟨w.heap.size, 2, none⟩ = some (.int .i64 f) ∧ LS w ⟨e, s, f, l⟩ w')) (by kernel_rfl) (LS.all (HLS0.out.next (Below.refl _ _).drew)) (fun hS => ?_)
  refine rgw 2 ⟨some 8, .fieldAddr 30 (.tmp 1) 0, 0, _, _, none⟩ hS ?_
  refine rgw 3 ⟨some 9, .load 22 (.tmp 8), 22, _, _, none⟩ hS ?_
  refine rgw 5 ⟨some 11, .fieldAddr 30 (.tmp 1) 1, 0, _, _, none⟩ hS ?_
  refine rgw 6 ⟨some 12, .load 3 (.tmp 11), 3, _, _, none⟩ hS ?_
  refine rgw 8 ⟨some 14, .fieldAddr 30 (.tmp 1) 2, 0, _, _, none⟩ hS ?_
  refine rgw 9 ⟨some 15, .load 3 (.tmp 14), 3, _, _, none⟩ hS ?_
  refine rg_both 0 4 ⟨some 6, .buildSlice 43 5 #[(0, .const (.int .u8 115)), (1, .const (.int .u8 116)), (2, .const (.int .u8 114)), (3, .const (.int .u8 100)), (4, .const (.int .u8 1))], 43, _, _, none⟩ ⟨some 10, .call { callee := .value (.func 115), args := #[.tmp 9, .const (.int .i64 8)], argTypes := #[22, 3] }, 43, _, _, none⟩ (by kernel_rfl) rfl rfl (fun K hK => ?_) (fun K hK => ?_)
  focus
    rw [if_pos (by rfl)]; refine wp_mark rfl ?_; intro gm w5 hm hgm5 hb5; have hb := hb5.out; (try (have q := Lib.hid (HGM.out.keep hb); clear HGM; have HGM := q; clear q)); (try (have q := Lib.hid (HM.out.keep hb); clear HM; have HM := q; clear q)); (try (have q := Lib.hid (H8.out.keep hb); clear H8; have H8 := q; clear q)); (try (have q := Lib.hid (HS4.out.keep hb); clear HS4; have HS4 := q; clear q)); (try (have q := Lib.hid (HF4.out.keep hb); clear HF4; have HF4 := q; clear q)); (try (have q := Lib.hid (HN.out.keep hb); clear HN; have HN := q; clear q)); have HGM := hm; have HGE := Lib.hid (Nat.le_trans hS.2.2.2.sz hgm5.out); clear hm hb5 hgm5
    refine hK.out _ _ ?_ (fun hS1 => ?_)
    · (first | exact hS | exact hN | exact LS.all (hS.2.2.2.next hb))
    clear hK K hS; have hS := hS1; clear hS1
    (try simp only [rgp])
    refine rg_both 1 4 ⟨some 7, .convert 43 43 (.tmp 6), 43, _, _, none⟩ ⟨some 10, .call { callee := .value (.func 115), args := #[.tmp 9, .const (.int .i64 8)], argTypes := #[22, 3] }, 43, _, _, none⟩ (by kernel_rfl) rfl rfl (fun K hK => ?_) (fun K hK => ?_)
    focus
      rw [if_pos (by rfl)]; refine wp_conv_mark (.tmp 6) rfl gm rfl HGM.out ?_; intro w5b hsm hg5; have hN := LS.all (hS.2.2.2.overq hg5.out HGE.out); (try (have q := Lib.hid (H8.out.same hsm.out); clear H8; have H8 := q; clear q)); (try (have q := Lib.hid (HS4.out.same hsm.out); clear HS4; have HS4 := q; clear q)); (try (have q := Lib.hid (HF4.out.same hsm.out); clear HF4; have HF4 := q; clear q)); have HM := Lib.hid ((fd_mark (base := w.heap.size + 3) HGM.out HGE.out).same hsm.out); (have q := Lib.hid (HN.out.over hg5.out (by have := HGE.out; omega)); clear HN; have HN := q; clear q); clear HGM hsm hg5
      refine hK.out _ _ ?_ (fun hS1 => ?_)
      · (first | exact hS | exact hN | exact LS.all (hS.2.2.2.next hb))
      clear hK K hS; have hS := hS1; clear hS1
      (try simp only [rgp])
      refine rg_one 4 ⟨some 10, .call { callee := .value (.func 115), args := #[.tmp 9, .const (.int .i64 8)], argTypes := #[22, 3] }, 43, _, _, none⟩ (by kernel_rfl) rfl (fun K hK => ?_)
      go_simp
      (go_at_call 115; (refine (HP8.out _).mono ?_); rintro r w4 ⟨rfl, ho, hb⟩; (try (have q := Lib.hid (HGM.out.keep hb); clear HGM; have HGM := q; clear q)); (try (have q := Lib.hid (HM.out.keep hb); clear HM; have HM := q; clear q)); (try (have q := Lib.hid (H8.out.keep hb); clear H8; have H8 := q; clear q)); (try (have q := Lib.hid (HS4.out.keep hb); clear HS4; have HS4 := q; clear q)); (try (have q := Lib.hid (HF4.out.keep hb); clear HF4; have HF4 := q; clear q)); (try (have q := Lib.hid (HN.out.keep hb); clear HN; have HN := q; clear q)); have H8 := Lib.hid (FD.of (base := w.heap.size + 3) ho hS.2.2.2.sz); clear ho)
      refine hK.out _ _ ?_ (fun hS1 => ?_)
      · (first | exact hS | exact hN | exact LS.all (hS.2.2.2.next hb))
      clear hK K hS; have hS := hS1; clear hS1
      (try simp only [rgp])
      refine rg_one 7 ⟨some 13, .call { callee := .value (.func 128), args := #[.tmp 12], argTypes := #[3] }, 43, _, _, none⟩ (by kernel_rfl) rfl (fun K hK => ?_)
      go_simp
      (go_at_call 128; (refine (HPS.out _).mono ?_); rintro r w6 ⟨rfl, ho, hb⟩; (try (have q := Lib.hid (HGM.out.keep hb); clear HGM; have HGM := q; clear q)); (try (have q := Lib.hid (HM.out.keep hb); clear HM; have HM := q; clear q)); (try (have q := Lib.hid (H8.out.keep hb); clear H8; have H8 := q; clear q)); (try (have q := Lib.hid (HS4.out.keep hb); clear HS4; have HS4 := q; clear q)); (try (have q := Lib.hid (HF4.out.keep hb); clear HF4; have HF4 := q; clear q)); (try (have q := Lib.hid (HN.out.keep hb); clear HN; have HN := q; clear q)); have HS4 := Lib.hid (FD.of (base := w.heap.size + 3) ho hS.2.2.2.sz); clear ho)
      refine hK.out _ _ ?_ (fun hS1 => ?_)
      · (first | exact hS | exact hN | exact LS.all (hS.2.2.2.next hb))
      clear hK K hS; have hS := hS1; clear hS1
      (try simp only [rgp])
      refine rg_one 10 ⟨some 16, .call { callee := .value (.func 128), args := #[.tmp 15], argTypes := #[3] }, 43, _, _, none⟩ (by kernel_rfl) rfl (fun K hK => ?_)
      go_simp
      (go_at_call 128; (refine (HPF.out _).mono ?_); rintro r w7 ⟨rfl, ho, hb⟩; (try (have q := Lib.hid (HGM.out.keep hb); clear HGM; have HGM := q; clear q)); (try (have q := Lib.hid (HM.out.keep hb); clear HM; have HM := q; clear q)); (try (have q := Lib.hid (H8.out.keep hb); clear H8; have H8 := q; clear q)); (try (have q := Lib.hid (HS4.out.keep hb); clear HS4; have HS4 := q; clear q)); (try (have q := Lib.hid (HF4.out.keep hb); clear HF4; have HF4 := q; clear q)); (try (have q := Lib.hid (HN.out.keep hb); clear HN; have HN := q; clear q)); have HF4 := Lib.hid (FD.of (base := w.heap.size + 3) ho hS.2.2.2.sz); clear ho)
    rotate_left
    focus
      go_simp
      (go_at_call 115; (refine (HP8.out _).mono ?_); rintro r w4 ⟨rfl, ho, hb⟩; (try (have q := Lib.hid (HGM.out.keep hb); clear HGM; have HGM := q; clear q)); (try (have q := Lib.hid (HM.out.keep hb); clear HM; have HM := q; clear q)); (try (have q := Lib.hid (H8.out.keep hb); clear H8; have H8 := q; clear q)); (try (have q := Lib.hid (HS4.out.keep hb); clear HS4; have HS4 := q; clear q)); (try (have q := Lib.hid (HF4.out.keep hb); clear HF4; have HF4 := q; clear q)); (try (have q := Lib.hid (HN.out.keep hb); clear HN; have HN := q; clear q)); have H8 := Lib.hid (FD.of (base := w.heap.size + 3) ho hS.2.2.2.sz); clear ho)
      refine hK.out _ _ ?_ (fun hS1 => ?_)
      · (first | exact hS | exact hN | exact LS.all (hS.2.2.2.next hb))
      clear hK K hS; have hS := hS1; clear hS1
      (try simp only [rgp])
      refine rg_both 1 7 ⟨some 7, .convert 43 43 (.tmp 6), 43, _, _, none⟩ ⟨some 13, .call { callee := .value (.func 128), args := #[.tmp 12], argTypes := #[3] }, 43, _, _, none⟩ (by kernel_rfl) rfl rfl (fun K hK => ?_) (fun K hK => ?_)
      focus
        rw [if_pos (by rfl)]; refine wp_conv_mark (.tmp 6) rfl gm rfl HGM.out ?_; intro w5b hsm hg5; have hN := LS.all (hS.2.2.2.overq hg5.out HGE.out); (try (have q := Lib.hid (H8.out.same hsm.out); clear H8; have H8 := q; clear q)); (try (have q := Lib.hid (HS4.out.same hsm.out); clear HS4; have HS4 := q; clear q)); (try (have q := Lib.hid (HF4.out.same hsm.out); clear HF4; have HF4 := q; clear q)); have HM := Lib.hid ((fd_mark (base := w.heap.size + 3) HGM.out HGE.out).same hsm.out); (have q := Lib.hid (HN.out.over hg5.out (by have := HGE.out; omega)); clear HN; have HN := q; clear q); clear HGM hsm hg5
        refine hK.out _ _ ?_ (fun hS1 => ?_)
        · (first | exact hS | exact hN | exact LS.all (hS.2.2.2.next hb))
        clear hK K hS; have hS := hS1; clear hS1
        (try simp only [rgp])
        refine rg_one 7 ⟨some 13, .call { callee := .value (.func 128), args := #[.tmp 12], argTypes := #[3] }, 43, _, _, none⟩ (by kernel_rfl) rfl (fun K hK => ?_)
        go_simp
        (go_at_call 128; (refine (HPS.out _).mono ?_); rintro r w6 ⟨rfl, ho, hb⟩; (try (have q := Lib.hid (HGM.out.keep hb); clear HGM; have HGM := q; clear q)); (try (have q := Lib.hid (HM.out.keep hb); clear HM; have HM := q; clear q)); (try (have q := Lib.hid (H8.out.keep hb); clear H8; have H8 := q; clear q)); (try (have q := Lib.hid (HS4.out.keep hb); clear HS4; have HS4 := q; clear q)); (try (have q := Lib.hid (HF4.out.keep hb); clear HF4; have HF4 := q; clear q)); (try (have q := Lib.hid (HN.out.keep hb); clear HN; have HN := q; clear q)); have HS4 := Lib.hid (FD.of (base := w.heap.size + 3) ho hS.2.2.2.sz); clear ho)
        refine hK.out _ _ ?_ (fun hS1 => ?_)
        · (first | exact hS | exact hN | exact LS.all (hS.2.2.2.next hb))
        clear hK K hS; have hS := hS1; clear hS1
        (try simp only [rgp])
        refine rg_one 10 ⟨some 16, .call { callee := .value (.func 128), args := #[.tmp 15], argTypes := #[3] }, 43, _, _, none⟩ (by kernel_rfl) rfl (fun K hK => ?_)
        go_simp
        (go_at_call 128; (refine (HPF.out _).mono ?_); rintro r w7 ⟨rfl, ho, hb⟩; (try (have q := Lib.hid (HGM.out.keep hb); clear HGM; have HGM := q; clear q)); (try (have q := Lib.hid (HM.out.keep hb); clear HM; have HM := q; clear q)); (try (have q := Lib.hid (H8.out.keep hb); clear H8; have H8 := q; clear q)); (try (have q := Lib.hid (HS4.out.keep hb); clear HS4; have HS4 := q; clear q)); (try (have q := Lib.hid (HF4.out.keep hb); clear HF4; have HF4 := q; clear q)); (try (have q := Lib.hid (HN.out.keep hb); clear HN; have HN := q; clear q)); have HF4 := Lib.hid (FD.of (base := w.heap.size + 3) ho hS.2.2.2.sz); clear ho)
      rotate_left
      focus
        go_simp
        (go_at_call 128; (refine (HPS.out _).mono ?_); rintro r w6 ⟨rfl, ho, hb⟩; (try (have q := Lib.hid (HGM.out.keep hb); clear HGM; have HGM := q; clear q)); (try (have q := Lib.hid (HM.out.keep hb); clear HM; have HM := q; clear q)); (try (have q := Lib.hid (H8.out.keep hb); clear H8; have H8 := q; clear q)); (try (have q := Lib.hid (HS4.out.keep hb); clear HS4; have HS4 := q; clear q)); (try (have q := Lib.hid (HF4.out.keep hb); clear HF4; have HF4 := q; clear q)); (try (have q := Lib.hid (HN.out.keep hb); clear HN; have HN := q; clear q)); have HS4 := Lib.hid (FD.of (base := w.heap.size + 3) ho hS.2.2.2.sz); clear ho)
        refine hK.out _ _ ?_ (fun hS1 => ?_)
        · (first | exact hS | exact hN | exact LS.all (hS.2.2.2.next hb))
        clear hK K hS; have hS := hS1; clear hS1
        (try simp only [rgp])
        refine rg_both 1 10 ⟨some 7, .convert 43 43 (.tmp 6), 43, _, _, none⟩ ⟨some 16, .call { callee := .value (.func 128), args := #[.tmp 15], argTypes := #[3] }, 43, _, _, none⟩ (by kernel_rfl) rfl rfl (fun K hK => ?_) (fun K hK => ?_)
        focus
          rw [if_pos (by rfl)]; refine wp_conv_mark (.tmp 6) rfl gm rfl HGM.out ?_; intro w5b hsm hg5; have hN := LS.all (hS.2.2.2.overq hg5.out HGE.out); (try (have q := Lib.hid (H8.out.same hsm.out); clear H8; have H8 := q; clear q)); (try (have q := Lib.hid (HS4.out.same hsm.out); clear HS4; have HS4 := q; clear q)); (try (have q := Lib.hid (HF4.out.same hsm.out); clear HF4; have HF4 := q; clear q)); have HM := Lib.hid ((fd_mark (base := w.heap.size + 3) HGM.out HGE.out).same hsm.out); (have q := Lib.hid (HN.out.over hg5.out (by have := HGE.out; omega)); clear HN; have HN := q; clear q); clear HGM hsm hg5
          refine hK.out _ _ ?_ (fun hS1 => ?_)
          · (first | exact hS | exact hN | exact LS.all (hS.2.2.2.next hb))
          clear hK K hS; have hS := hS1; clear hS1
          (try simp only [rgp])
          refine rg_one 10 ⟨some 16, .call { callee := .value (.func 128), args := #[.tmp 15], argTypes := #[3] }, 43, _, _, none⟩ (by kernel_rfl) rfl (fun K hK => ?_)
          go_simp
          (go_at_call 128; (refine (HPF.out _).mono ?_); rintro r w7 ⟨rfl, ho, hb⟩; (try (have q := Lib.hid (HGM.out.keep hb); clear HGM; have HGM := q; clear q)); (try (have q := Lib.hid (HM.out.keep hb); clear HM; have HM := q; clear q)); (try (have q := Lib.hid (H8.out.keep hb); clear H8; have H8 := q; clear q)); (try (have q := Lib.hid (HS4.out.keep hb); clear HS4; have HS4 := q; clear q)); (try (have q := Lib.hid (HF4.out.keep hb); clear HF4; have HF4 := q; clear q)); (try (have q := Lib.hid (HN.out.keep hb); clear HN; have HN := q; clear q)); have HF4 := Lib.hid (FD.of (base := w.heap.size + 3) ho hS.2.2.2.sz); clear ho)
        rotate_left
        focus
          go_simp
          (go_at_call 128; (refine (HPF.out _).mono ?_); rintro r w7 ⟨rfl, ho, hb⟩; (try (have q := Lib.hid (HGM.out.keep hb); clear HGM; have HGM := q; clear q)); (try (have q := Lib.hid (HM.out.keep hb); clear HM; have HM := q; clear q)); (try (have q := Lib.hid (H8.out.keep hb); clear H8; have H8 := q; clear q)); (try (have q := Lib.hid (HS4.out.keep hb); clear HS4; have HS4 := q; clear q)); (try (have q := Lib.hid (HF4.out.keep hb); clear HF4; have HF4 := q; clear q)); (try (have q := Lib.hid (HN.out.keep hb); clear HN; have HN := q; clear q)); have HF4 := Lib.hid (FD.of (base := w.heap.size + 3) ho hS.2.2.2.sz); clear ho)
          refine hK.out _ _ ?_ (fun hS1 => ?_)
          · (first | exact hS | exact hN | exact LS.all (hS.2.2.2.next hb))
          clear hK K hS; have hS := hS1; clear hS1
          (try simp only [rgp])
          refine rg_one 1 ⟨some 7, .convert 43 43 (.tmp 6), 43, _, _, none⟩ (by kernel_rfl) rfl (fun K hK => ?_)
          rw [if_pos (by rfl)]; refine wp_conv_mark (.tmp 6) rfl gm rfl HGM.out ?_; intro w5b hsm hg5; have hN := LS.all (hS.2.2.2.overq hg5.out HGE.out); (try (have q := Lib.hid (H8.out.same hsm.out); clear H8; have H8 := q; clear q)); (try (have q := Lib.hid (HS4.out.same hsm.out); clear HS4; have HS4 := q; clear q)); (try (have q := Lib.hid (HF4.out.same hsm.out); clear HF4; have HF4 := q; clear q)); have HM := Lib.hid ((fd_mark (base := w.heap.size + 3) HGM.out HGE.out).same hsm.out); (have q := Lib.hid (HN.out.over hg5.out (by have := HGE.out; omega)); clear HN; have HN := q; clear q); clear HGM hsm hg5
        rotate_left
      rotate_left 2
    rotate_left 3
  rotate_left 4
  focus
    go_simp
    (go_at_call 115; (refine (HP8.out _).mono ?_); rintro r w4 ⟨rfl, ho, hb⟩; (try (have q := Lib.hid (HGM.out.keep hb); clear HGM; have HGM := q; clear q)); (try (have q := Lib.hid (HM.out.keep hb); clear HM; have HM := q; clear q)); (try (have q := Lib.hid (H8.out.keep hb); clear H8; have H8 := q; clear q)); (try (have q := Lib.hid (HS4.out.keep hb); clear HS4; have HS4 := q; clear q)); (try (have q := Lib.hid (HF4.out.keep hb); clear HF4; have HF4 := q; clear q)); (try (have q := Lib.hid (HN.out.keep hb); clear HN; have HN := q; clear q)); have H8 := Lib.hid (FD.of (base := w.heap.size + 3) ho hS.2.2.2.sz); clear ho)
    refine hK.out _ _ ?_ (fun hS1 => ?_)
    · (first | exact hS | exact hN | exact LS.all (hS.2.2.2.next hb))
    clear hK K hS; have hS := hS1; clear hS1
    (try simp only [rgp])
    refine rg_both 0 7 ⟨some 6, .buildSlice 43 5 #[(0, .const (.int .u8 115)), (1, .const (.int .u8 116)), (2, .const (.int .u8 114)), (3, .const (.int .u8 100)), (4, .const (.int .u8 1))], 43, _, _, none⟩ ⟨some 13, .call { callee := .value (.func 128), args := #[.tmp 12], argTypes := #[3] }, 43, _, _, none⟩ (by kernel_rfl) rfl rfl (fun K hK => ?_) (fun K hK => ?_)
    focus
      rw [if_pos (by rfl)]; refine wp_mark rfl ?_; intro gm w5 hm hgm5 hb5; have hb := hb5.out; (try (have q := Lib.hid (HGM.out.keep hb); clear HGM; have HGM := q; clear q)); (try (have q := Lib.hid (HM.out.keep hb); clear HM; have HM := q; clear q)); (try (have q := Lib.hid (H8.out.keep hb); clear H8; have H8 := q; clear q)); (try (have q := Lib.hid (HS4.out.keep hb); clear HS4; have HS4 := q; clear q)); (try (have q := Lib.hid (HF4.out.keep hb); clear HF4; have HF4 := q; clear q)); (try (have q := Lib.hid (HN.out.keep hb); clear HN; have HN := q; clear q)); have HGM := hm; have HGE := Lib.hid (Nat.le_trans hS.2.2.2.sz hgm5.out); clear hm hb5 hgm5
      refine hK.out _ _ ?_ (fun hS1 => ?_)
      · (first | exact hS | exact hN | exact LS.all (hS.2.2.2.next hb))
      clear hK K hS; have hS := hS1; clear hS1
      (try simp only [rgp])
      refine rg_both 1 7 ⟨some 7, .convert 43 43 (.tmp 6), 43, _, _, none⟩ ⟨some 13, .call { callee := .value (.func 128), args := #[.tmp 12], argTypes := #[3] }, 43, _, _, none⟩ (by kernel_rfl) rfl rfl (fun K hK => ?_) (fun K hK => ?_)
      focus
        rw [if_pos (by rfl)]; refine wp_conv_mark (.tmp 6) rfl gm rfl HGM.out ?_; intro w5b hsm hg5; have hN := LS.all (hS.2.2.2.overq hg5.out HGE.out); (try (have q := Lib.hid (H8.out.same hsm.out); clear H8; have H8 := q; clear q)); (try (have q := Lib.hid (HS4.out.same hsm.out); clear HS4; have HS4 := q; clear q)); (try (have q := Lib.hid (HF4.out.same hsm.out); clear HF4; have HF4 := q; clear q)); have HM := Lib.hid ((fd_mark (base := w.heap.size + 3) HGM.out HGE.out).same hsm.out); (have q := Lib.hid (HN.out.over hg5.out (by have := HGE.out; omega)); clear HN; have HN := q; clear q); clear HGM hsm hg5
        refine hK.out _ _ ?_ (fun hS1 => ?_)
        · (first | exact hS | exact hN | exact LS.all (hS.2.2.2.next hb))
        clear hK K hS; have hS := hS1; clear hS1
        (try simp only [rgp])
        refine rg_one 7 ⟨some 13, .call { callee := .value (.func 128), args := #[.tmp 12], argTypes := #[3] }, 43, _, _, none⟩ (by kernel_rfl) rfl (fun K hK => ?_)
        go_simp
        (go_at_call 128; (refine (HPS.out _).mono ?_); rintro r w6 ⟨rfl, ho, hb⟩; (try (have q := Lib.hid (HGM.out.keep hb); clear HGM; have HGM := q; clear q)); (try (have q := Lib.hid (HM.out.keep hb); clear HM; have HM := q; clear q)); (try (have q := Lib.hid (H8.out.keep hb); clear H8; have H8 := q; clear q)); (try (have q := Lib.hid (HS4.out.keep hb); clear HS4; have HS4 := q; clear q)); (try (have q := Lib.hid (HF4.out.keep hb); clear HF4; have HF4 := q; clear q)); (try (have q := Lib.hid (HN.out.keep hb); clear HN; have HN := q; clear q)); have HS4 := Lib.hid (FD.of (base := w.heap.size + 3) ho hS.2.2.2.sz); clear ho)
        refine hK.out _ _ ?_ (fun hS1 => ?_)
        · (first | exact hS | exact hN | exact LS.all (hS.2.2.2.next hb))
        clear hK K hS; have hS := hS1; clear hS1
        (try simp only [rgp])
        refine rg_one 10 ⟨some 16, .call { callee := .value (.func 128), args := #[.tmp 15], argTypes := #[3] }, 43, _, _, none⟩ (by kernel_rfl) rfl (fun K hK => ?_)
        go_simp
        (go_at_call 128; (refine (HPF.out _).mono ?_); rintro r w7 ⟨rfl, ho, hb⟩; (try (have q := Lib.hid (HGM.out.keep hb); clear HGM; have HGM := q; clear q)); (try (have q := Lib.hid (HM.out.keep hb); clear HM; have HM := q; clear q)); (try (have q := Lib.hid (H8.out.keep hb); clear H8; have H8 := q; clear q)); (try (have q := Lib.hid (HS4.out.keep hb); clear HS4; have HS4 := q; clear q)); (try (have q := Lib.hid (HF4.out.keep hb); clear HF4; have HF4 := q; clear q)); (try (have q := Lib.hid (HN.out.keep hb); clear HN; have HN := q; clear q)); have HF4 := Lib.hid (FD.of (base := w.heap.size + 3) ho hS.2.2.2.sz); clear ho)
      rotate_left
      focus
        go_simp
        (go_at_call 128; (refine (HPS.out _).mono ?_); rintro r w6 ⟨rfl, ho, hb⟩; (try (have q := Lib.hid (HGM.out.keep hb); clear HGM; have HGM := q; clear q)); (try (have q := Lib.hid (HM.out.keep hb); clear HM; have HM := q; clear q)); (try (have q := Lib.hid (H8.out.keep hb); clear H8; have H8 := q; clear q)); (try (have q := Lib.hid (HS4.out.keep hb); clear HS4; have HS4 := q; clear q)); (try (have q := Lib.hid (HF4.out.keep hb); clear HF4; have HF4 := q; clear q)); (try (have q := Lib.hid (HN.out.keep hb); clear HN; have HN := q; clear q)); have HS4 := Lib.hid (FD.of (base := w.heap.size + 3) ho hS.2.2.2.sz); clear ho)
        refine hK.out _ _ ?_ (fun hS1 => ?_)
        · (first | exact hS | exact hN | exact LS.all (hS.2.2.2.next hb))
        clear hK K hS; have hS := hS1; clear hS1
        (try simp only [rgp])
        refine rg_both 1 10 ⟨some 7, .convert 43 43 (.tmp 6), 43, _, _, none⟩ ⟨some 16, .call { callee := .value (.func 128), args := #[.tmp 15], argTypes := #[3] }, 43, _, _, none⟩ (by kernel_rfl) rfl rfl (fun K hK => ?_) (fun K hK => ?_)
        focus
          rw [if_pos (by rfl)]; refine wp_conv_mark (.tmp 6) rfl gm rfl HGM.out ?_; intro w5b hsm hg5; have hN := LS.all (hS.2.2.2.overq hg5.out HGE.out); (try (have q := Lib.hid (H8.out.same hsm.out); clear H8; have H8 := q; clear q)); (try (have q := Lib.hid (HS4.out.same hsm.out); clear HS4; have HS4 := q; clear q)); (try (have q := Lib.hid (HF4.out.same hsm.out); clear HF4; have HF4 := q; clear q)); have HM := Lib.hid ((fd_mark (base := w.heap.size + 3) HGM.out HGE.out).same hsm.out); (have q := Lib.hid (HN.out.over hg5.out (by have := HGE.out; omega)); clear HN; have HN := q; clear q); clear HGM hsm hg5
          refine hK.out _ _ ?_ (fun hS1 => ?_)
          · (first | exact hS | exact hN | exact LS.all (hS.2.2.2.next hb))
          clear hK K hS; have hS := hS1; clear hS1
          (try simp only [rgp])
          refine rg_one 10 ⟨some 16, .call { callee := .value (.func 128), args := #[.tmp 15], argTypes := #[3] }, 43, _, _, none⟩ (by kernel_rfl) rfl (fun K hK => ?_)
          go_simp
          (go_at_call 128; (refine (HPF.out _).mono ?_); rintro r w7 ⟨rfl, ho, hb⟩; (try (have q := Lib.hid (HGM.out.keep hb); clear HGM; have HGM := q; clear q)); (try (have q := Lib.hid (HM.out.keep hb); clear HM; have HM := q; clear q)); (try (have q := Lib.hid (H8.out.keep hb); clear H8; have H8 := q; clear q)); (try (have q := Lib.hid (HS4.out.keep hb); clear HS4; have HS4 := q; clear q)); (try (have q := Lib.hid (HF4.out.keep hb); clear HF4; have HF4 := q; clear q)); (try (have q := Lib.hid (HN.out.keep hb); clear HN; have HN := q; clear q)); have HF4 := Lib.hid (FD.of (base := w.heap.size + 3) ho hS.2.2.2.sz); clear ho)
        rotate_left
        focus
          go_simp
          (go_at_call 128; (refine (HPF.out _).mono ?_); rintro r w7 ⟨rfl, ho, hb⟩; (try (have q := Lib.hid (HGM.out.keep hb); clear HGM; have HGM := q; clear q)); (try (have q := Lib.hid (HM.out.keep hb); clear HM; have HM := q; clear q)); (try (have q := Lib.hid (H8.out.keep hb); clear H8; have H8 := q; clear q)); (try (have q := Lib.hid (HS4.out.keep hb); clear HS4; have HS4 := q; clear q)); (try (have q := Lib.hid (HF4.out.keep hb); clear HF4; have HF4 := q; clear q)); (try (have q := Lib.hid (HN.out.keep hb); clear HN; have HN := q; clear q)); have HF4 := Lib.hid (FD.of (base := w.heap.size + 3) ho hS.2.2.2.sz); clear ho)
          refine hK.out _ _ ?_ (fun hS1 => ?_)
          · (first | exact hS | exact hN | exact LS.all (hS.2.2.2.next hb))
          clear hK K hS; have hS := hS1; clear hS1
          (try simp only [rgp])
          refine rg_one 1 ⟨some 7, .convert 43 43 (.tmp 6), 43, _, _, none⟩ (by kernel_rfl) rfl (fun K hK => ?_)
          rw [if_pos (by rfl)]; refine wp_conv_mark (.tmp 6) rfl gm rfl HGM.out ?_; intro w5b hsm hg5; have hN := LS.all (hS.2.2.2.overq hg5.out HGE.out); (try (have q := Lib.hid (H8.out.same hsm.out); clear H8; have H8 := q; clear q)); (try (have q := Lib.hid (HS4.out.same hsm.out); clear HS4; have HS4 := q; clear q)); (try (have q := Lib.hid (HF4.out.same hsm.out); clear HF4; have HF4 := q; clear q)); have HM := Lib.hid ((fd_mark (base := w.heap.size + 3) HGM.out HGE.out).same hsm.out); (have q := Lib.hid (HN.out.over hg5.out (by have := HGE.out; omega)); clear HN; have HN := q; clear q); clear HGM hsm hg5
        rotate_left
      rotate_left 2
    rotate_left 3
    focus
      go_simp
      (go_at_call 128; (refine (HPS.out _).mono ?_); rintro r w6 ⟨rfl, ho, hb⟩; (try (have q := Lib.hid (HGM.out.keep hb); clear HGM; have HGM := q; clear q)); (try (have q := Lib.hid (HM.out.keep hb); clear HM; have HM := q; clear q)); (try (have q := Lib.hid (H8.out.keep hb); clear H8; have H8 := q; clear q)); (try (have q := Lib.hid (HS4.out.keep hb); clear HS4; have HS4 := q; clear q)); (try (have q := Lib.hid (HF4.out.keep hb); clear HF4; have HF4 := q; clear q)); (try (have q := Lib.hid (HN.out.keep hb); clear HN; have HN := q; clear q)); have HS4 := Lib.hid (FD.of (base := w.heap.size + 3) ho hS.2.2.2.sz); clear ho)
      refine hK.out _ _ ?_ (fun hS1 => ?_)
      · (first | exact hS | exact hN | exact LS.all (hS.2.2.2.next hb))
      clear hK K hS; have hS := hS1; clear hS1
      (try simp only [rgp])
      refine rg_both 0 10 ⟨some 6, .buildSlice 43 5 #[(0, .const (.int .u8 115)), (1, .const (.int .u8 116)), (2, .const (.int .u8 114)), (3, .const (.int .u8 100)), (4, .const (.int .u8 1))], 43, _, _, none⟩ ⟨some 16, .call { callee := .value (.func 128), args := #[.tmp 15], argTypes := #[3] }, 43, _, _, none⟩ (by kernel_rfl) rfl rfl (fun K hK => ?_) (fun K hK => ?_)
      focus
        rw [if_pos (by rfl)]; refine wp_mark rfl ?_; intro gm w5 hm hgm5 hb5; have hb := hb5.out; (try (have q := Lib.hid (HGM.out.keep hb); clear HGM; have HGM := q; clear q)); (try (have q := Lib.hid (HM.out.keep hb); clear HM; have HM := q; clear q)); (try (have q := Lib.hid (H8.out.keep hb); clear H8; have H8 := q; clear q)); (try (have q := Lib.hid (HS4.out.keep hb); clear HS4; have HS4 := q; clear q)); (try (have q := Lib.hid (HF4.out.keep hb); clear HF4; have HF4 := q; clear q)); (try (have q := Lib.hid (HN.out.keep hb); clear HN; have HN := q; clear q)); have HGM := hm; have HGE := Lib.hid (Nat.le_trans hS.2.2.2.sz hgm5.out); clear hm hb5 hgm5
        refine hK.out _ _ ?_ (fun hS1 => ?_)
        · (first | exact hS | exact hN | exact LS.all (hS.2.2.2.next hb))
        clear hK K hS; have hS := hS1; clear hS1
        (try simp only [rgp])
        refine rg_both 1 10 ⟨some 7, .convert 43 43 (.tmp 6), 43, _, _, none⟩ ⟨some 16, .call { callee := .value (.func 128), args := #[.tmp 15], argTypes := #[3] }, 43, _, _, none⟩ (by kernel_rfl) rfl rfl (fun K hK => ?_) (fun K hK => ?_)
        focus
          rw [if_pos (by rfl)]; refine wp_conv_mark (.tmp 6) rfl gm rfl HGM.out ?_; intro w5b hsm hg5; have hN := LS.all (hS.2.2.2.overq hg5.out HGE.out); (try (have q := Lib.hid (H8.out.same hsm.out); clear H8; have H8 := q; clear q)); (try (have q := Lib.hid (HS4.out.same hsm.out); clear HS4; have HS4 := q; clear q)); (try (have q := Lib.hid (HF4.out.same hsm.out); clear HF4; have HF4 := q; clear q)); have HM := Lib.hid ((fd_mark (base := w.heap.size + 3) HGM.out HGE.out).same hsm.out); (have q := Lib.hid (HN.out.over hg5.out (by have := HGE.out; omega)); clear HN; have HN := q; clear q); clear HGM hsm hg5
          refine hK.out _ _ ?_ (fun hS1 => ?_)
          · (first | exact hS | exact hN | exact LS.all (hS.2.2.2.next hb))
          clear hK K hS; have hS := hS1; clear hS1
          (try simp only [rgp])
          refine rg_one 10 ⟨some 16, .call { callee := .value (.func 128), args := #[.tmp 15], argTypes := #[3] }, 43, _, _, none⟩ (by kernel_rfl) rfl (fun K hK => ?_)
          go_simp
          (go_at_call 128; (refine (HPF.out _).mono ?_); rintro r w7 ⟨rfl, ho, hb⟩; (try (have q := Lib.hid (HGM.out.keep hb); clear HGM; have HGM := q; clear q)); (try (have q := Lib.hid (HM.out.keep hb); clear HM; have HM := q; clear q)); (try (have q := Lib.hid (H8.out.keep hb); clear H8; have H8 := q; clear q)); (try (have q := Lib.hid (HS4.out.keep hb); clear HS4; have HS4 := q; clear q)); (try (have q := Lib.hid (HF4.out.keep hb); clear HF4; have HF4 := q; clear q)); (try (have q := Lib.hid (HN.out.keep hb); clear HN; have HN := q; clear q)); have HF4 := Lib.hid (FD.of (base := w.heap.size + 3) ho hS.2.2.2.sz); clear ho)
        rotate_left
        focus
          go_simp
          (go_at_call 128; (refine (HPF.out _).mono ?_); rintro r w7 ⟨rfl, ho, hb⟩; (try (have q := Lib.hid (HGM.out.keep hb); clear HGM; have HGM := q; clear q)); (try (have q := Lib.hid (HM.out.keep hb); clear HM; have HM := q; clear q)); (try (have q := Lib.hid (H8.out.keep hb); clear H8; have H8 := q; clear q)); (try (have q := Lib.hid (HS4.out.keep hb); clear HS4; have HS4 := q; clear q)); (try (have q := Lib.hid (HF4.out.keep hb); clear HF4; have HF4 := q; clear q)); (try (have q := Lib.hid (HN.out.keep hb); clear HN; have HN := q; clear q)); have HF4 := Lib.hid (FD.of (base := w.heap.size + 3) ho hS.2.2.2.sz); clear ho)
          refine hK.out _ _ ?_ (fun hS1 => ?_)
          · (first | exact hS | exact hN | exact LS.all (hS.2.2.2.next hb))
          clear hK K hS; have hS := hS1; clear hS1
          (try simp only [rgp])
          refine rg_one 1 ⟨some 7, .convert 43 43 (.tmp 6), 43, _, _, none⟩ (by kernel_rfl) rfl (fun K hK => ?_)
          rw [if_pos (by rfl)]; refine wp_conv_mark (.tmp 6) rfl gm rfl HGM.out ?_; intro w5b hsm hg5; have hN := LS.all (hS.2.2.2.overq hg5.out HGE.out); (try (have q := Lib.hid (H8.out.same hsm.out); clear H8; have H8 := q; clear q)); (try (have q := Lib.hid (HS4.out.same hsm.out); clear HS4; have HS4 := q; clear q)); (try (have q := Lib.hid (HF4.out.same hsm.out); clear HF4; have HF4 := q; clear q)); have HM := Lib.hid ((fd_mark (base := w.heap.size + 3) HGM.out HGE.out).same hsm.out); (have q := Lib.hid (HN.out.over hg5.out (by have := HGE.out; omega)); clear HN; have HN := q; clear q); clear HGM hsm hg5
        rotate_left
      rotate_left 2
      focus
        go_simp
        (go_at_call 128; (refine (HPF.out _).mono ?_); rintro r w7 ⟨rfl, ho, hb⟩; (try (have q := Lib.hid (HGM.out.keep hb); clear HGM; have HGM := q; clear q)); (try (have q := Lib.hid (HM.out.keep hb); clear HM; have HM := q; clear q)); (try (have q := Lib.hid (H8.out.keep hb); clear H8; have H8 := q; clear q)); (try (have q := Lib.hid (HS4.out.keep hb); clear HS4; have HS4 := q; clear q)); (try (have q := Lib.hid (HF4.out.keep hb); clear HF4; have HF4 := q; clear q)); (try (have q := Lib.hid (HN.out.keep hb); clear HN; have HN := q; clear q)); have HF4 := Lib.hid (FD.of (base := w.heap.size + 3) ho hS.2.2.2.sz); clear ho)
        refine hK.out _ _ ?_ (fun hS1 => ?_)
        · (first | exact hS | exact hN | exact LS.all (hS.2.2.2.next hb))
        clear hK K hS; have hS := hS1; clear hS1
        (try simp only [rgp])
        refine rg_one 0 ⟨some 6, .buildSlice 43 5 #[(0, .const (.int .u8 115)), (1, .const (.int .u8 116)), (2, .const (.int .u8 114)), (3, .const (.int .u8 100)), (4, .const (.int .u8 1))], 43, _, _, none⟩ (by kernel_rfl) rfl (fun K hK => ?_)
        rw [if_pos (by rfl)]; refine wp_mark rfl ?_; intro gm w5 hm hgm5 hb5; have hb := hb5.out; (try (have q := Lib.hid (HGM.out.keep hb); clear HGM; have HGM := q; clear q)); (try (have q := Lib.hid (HM.out.keep hb); clear HM; have HM := q; clear q)); (try (have q := Lib.hid (H8.out.keep hb); clear H8; have H8 := q; clear q)); (try (have q := Lib.hid (HS4.out.keep hb); clear HS4; have HS4 := q; clear q)); (try (have q := Lib.hid (HF4.out.keep hb); clear HF4; have HF4 := q; clear q)); (try (have q := Lib.hid (HN.out.keep hb); clear HN; have HN := q; clear q)); have HGM := hm; have HGE := Lib.hid (Nat.le_trans hS.2.2.2.sz hgm5.out); clear hm hb5 hgm5
        refine hK.out _ _ ?_ (fun hS1 => ?_)
        · (first | exact hS | exact hN | exact LS.all (hS.2.2.2.next hb))
        clear hK K hS; have hS := hS1; clear hS1
        (try simp only [rgp])
        refine rg_one 1 ⟨some 7, .convert 43 43 (.tmp 6), 43, _, _, none⟩ (by kernel_rfl) rfl (fun K hK => ?_)
        rw [if_pos (by rfl)]; refine wp_conv_mark (.tmp 6) rfl gm rfl HGM.out ?_; intro w5b hsm hg5; have hN := LS.all (hS.2.2.2.overq hg5.out HGE.out); (try (have q := Lib.hid (H8.out.same hsm.out); clear H8; have H8 := q; clear q)); (try (have q := Lib.hid (HS4.out.same hsm.out); clear HS4; have HS4 := q; clear q)); (try (have q := Lib.hid (HF4.out.same hsm.out); clear HF4; have HF4 := q; clear q)); have HM := Lib.hid ((fd_mark (base := w.heap.size + 3) HGM.out HGE.out).same hsm.out); (have q := Lib.hid (HN.out.over hg5.out (by have := HGE.out; omega)); clear HN; have HN := q; clear q); clear HGM hsm hg5
      rotate_left
    rotate_left 3
  rotate_left 6
  all_goals
    refine hK.out _ _ ?_ (fun hS1 => ?_)
    · (first | exact hS | exact hN | exact LS.all (hS.2.2.2.next hb))
    clear hK K hS; have hS := hS1; clear hS1
    (try simp only [rgp])
    refine rg_one 11 ⟨some 17, .buildSlice 23 4 #[(0, .tmp 7), (1, .tmp 10), (2, .tmp 13), (3, .tmp 16)], 23, _, _, none⟩ (by kernel_rfl) rfl (fun K hK => ?_)
    rw [if_pos (by rfl)]; refine wp_lit4 (.tmp 7) (.tmp 10) (.tmp 13) (.tmp 16) rfl _ _ _ _ _ _ _ _ _ _ _ _ rfl rfl rfl rfl ?_; intro gl w8 hl hgl hb8; have hb := hb8.out; (try (have q := Lib.hid (HGM.out.keep hb); clear HGM; have HGM := q; clear q)); (try (have q := Lib.hid (HM.out.keep hb); clear HM; have HM := q; clear q)); (try (have q := Lib.hid (H8.out.keep hb); clear H8; have H8 := q; clear q)); (try (have q := Lib.hid (HS4.out.keep hb); clear HS4; have HS4 := q; clear q)); (try (have q := Lib.hid (HF4.out.keep hb); clear HF4; have HF4 := q; clear q)); (try (have q := Lib.hid (HN.out.keep hb); clear HN; have HN := q; clear q)); have HRL := Lib.hid (rl_lit (g := w.heap.size + 2) (base := w.heap.size + 3) (n := 4) (ls := [mark, putL e 8, putL s 4, putL f 4]) hl.out (by omega) (Nat.le_trans hS.2.2.2.sz hgl.out) rfl rfl (by omega) (fd_four HM.out H8.out HS4.out HF4.out)); clear hl hgl hb8
    refine hK.out _ _ ?_ (fun hS1 => ?_)
    · (first | exact hS | exact hN | exact LS.all (hS.2.2.2.next hb))
    clear hK K hS; have hS := hS1; clear hS1
    (try simp only [rgp])
    refine rg_one 12 ⟨some 18, .call { callee := .value (.func 127), args := #[.tmp 3, .const (.int .i64 0), .tmp 17], argTypes := #[176, 3, 23] }, 0, _, _, none⟩ (by kernel_rfl) rfl (fun K hK => ?_)
    go_simp
    (go_at_call 127; (refine (hput_any (w.heap.size + 2) 0 4 z64 [mark, putL e 8, putL s 4, putL f 4] _ _ HN.out HRL.out (by intro y hy; simp only [List.mem_cons, List.not_mem_nil, or_false] at hy; rcases hy with rfl | rfl | rfl | rfl <;> simp [putL_length, mark_length]) (by rw [p0_flat, p0_length]; omega)).mono ?_); rintro r w9 ⟨rfl, hk9, hg9⟩; have hN := LS.all (hS.2.2.2.over hg9); clear HN; have HN := Lib.hid hk9; clear hk9 hg9)
    refine hK.out _ _ ?_ (fun hS1 => ?_)
    · (first | exact hS | exact hN | exact LS.all (hS.2.2.2.next hb))
    clear hK K hS; have hS := hS1; clear hS1
    (try simp only [rgp])
    refine wpAnyH_done (by kernel_rfl) ?_ _
    have HLS := Lib.hid hS.2.2.2
    have HN7 := Lib.hid HN.out
    clear hS HN HRL
    (try clear hN hb)
    (try clear HM H8 HS4 HF4 HGE)
    go_wp2_with (first
      | (refine wpl_load_l4 rfl (.tmp 19) rfl rfl HLS.out.hb ?_))
    go_loopw [21] (fun v wr => ∃ i : Nat, v = .int .i64 i ∧ i ≤ 4 ∧ Hid (LS w ⟨e, s, f, l⟩ wr) ∧ Hid (Blk wr (w.heap.size + 2) (splice z64 0 (p0 e s f ++ put4 (l.take i))))) (fun v _ => 4 - (intOf v).toNat)
    case atStart => exact ⟨0, rfl, by omega, HLS, Lib.hid (by have h1 := HN7.out; rw [p0_flat] at h1; simpa [put4] using h1)⟩
    case round =>
      obtain ⟨i, rfl, hi, HR, HNR⟩ := hrel
      by_cases hlt : i < 4
      · have hix := index_l4 l HLN.out i hlt
        obtain ⟨x, hx⟩ : ∃ x, l.getD i 0 = x := ⟨_, rfl⟩
        rw [hx] at hix
        have HXB := Lib.hid (show 0 ≤ x ∧ x ≤ 2147483647 from by rw [← hx]; exact HLB.out _ (getD_memH (by rw [HLN.out]; exact hlt)))
        have HPS := Lib.hid (put4_take l i (by rw [HLN.out]; exact hlt))
        rw [hx] at HPS
        have HNU : Hid (∀ w, Calls Tryz.prog 128 #[.int .i64 x] w fun r w' => r = .returned (.slice (some ⟨w.heap.size, 0, none⟩) 4 4) ∧ w'.ownsRow w.heap.size 5 1 (.slice (some ⟨w.heap.size, 0, none⟩) 4 4) 4 (il .u8 (putL x 4)) ∧ Below w.heap.size w w') := Lib.hid (number_any x HXB.out.1 HXB.out.2)
        obtain ⟨p, hp⟩ : ∃ p : Nat, 21 + 4 * i = p := ⟨_, rfl⟩
        have hp2 : (21 : Int) + 4 * (i : Int) = (p : Int) := by omega
        have hlt2 : (i : Int) < 4 := by omega
        have hpb : (p : Int) ≤ 33 := by omega
        have HPL := Lib.hid (show (p0 e s f ++ put4 (l.take i)).length = p from by rw [List.length_append, p0_length, put4_length, List.length_take, HLN.out]; omega)
        clear hx hp
        go_wp2_with (first
          | (go_at_call 128; (with_reducible refine (HNU.out _).mono ?_); rintro r w7 ⟨rfl, ho7, hb7⟩; have HF7 := Lib.hid (FD.of ho7 HR.out.sz); have HR7 := Lib.hid (HR.out.next hb7); have HN7 := Lib.hid (HNR.out.keep hb7); clear ho7 hb7)
          | (refine wpl_lit1 rfl (.tmp 29) rfl _ _ _ rfl ?_; intro gl w8 hl8 hgl8 hb8; have HR8 := Lib.hid (HR7.out.next hb8.out); have HN8 := Lib.hid (HN7.out.keep hb8.out); have HRL8 := Lib.hid (rl_lit (g := w.heap.size + 2) (base := w.heap.size + 3) (n := 1) (ls := [putL x 4]) hl8.out (by omega) (Nat.le_trans HR7.out.sz hgl8.out) rfl rfl (by omega) (fd_one (HF7.out.keep hb8.out))); clear hl8 hgl8 hb8)
          | (go_at_call 127; (refine (hput_any (w.heap.size + 2) p 1 _ [putL x 4] _ _ HN8.out HRL8.out (by intro y hy; simp only [List.mem_cons, List.not_mem_nil, or_false] at hy; subst hy; rw [putL_length]; omega) (by simp [putL_length]; omega)).mono ?_); rintro r w9 ⟨rfl, hk9, hg9⟩; have HR9 := Lib.hid (HR8.out.over hg9); have HN9 := Lib.hid hk9; clear hk9 hg9))
        go_roundw
        case rel =>
          refine ⟨i + 1, by go_num, by omega, HR9, Lib.hid ?_⟩
          have h1 := HN9.out
          simp only [List.flatten_cons, List.flatten_nil, List.append_nil] at h1
          have h2 := splice_more z64 0 (p0 e s f ++ put4 (l.take i)) (putL x 4) (by rw [HPL.out, z64_length]; omega)
          rw [HPL.out, Nat.zero_add] at h2
          rw [h2, List.append_assoc, HPS.out] at h1
          exact h1
        case measure => simp [intOf]; omega
      · obtain rfl : i = 4 := by omega
        have HNF := Lib.hid (show Blk wr (w.heap.size + 2) (splice z64 0 (headP ⟨e, s, f, l⟩)) from by have h1 := HNR.out; rwa [List.take_of_length_le (by rw [HLN.out]; omega)] at h1)
        have HFIN := Lib.hid (lay_done ⟨e, s, f, l⟩ HLN.out)
        obtain ⟨L, hL⟩ : ∃ L, splice z64 0 (headP ⟨e, s, f, l⟩) = L := ⟨_, rfl⟩
        rw [hL] at HNF HFIN
        obtain ⟨m, hm⟩ : ∃ m, headS ⟨e, s, f, l⟩ = m := ⟨_, rfl⟩
        rw [hm] at HFIN
        have HSU : Hid (Calls Tryz.prog 101 #[.agg (sv L)] wr fun r w' => ∃ p, r = .returned (.slice (some ⟨p, 0, none⟩) 4 4) ∧ w'.ownsRow wr.heap.size 5 1 (.slice (some ⟨p, 0, none⟩) 4 4) 4 (il .u8 (putL m 4)) ∧ Below wr.heap.size wr w') := Lib.hid (hsum_any (HT.out.keep HR.out.below) L HNF.out.2 HFIN.out.1 (by rw [HFIN.out.2.1]; exact hm))
        obtain ⟨wz, hwz⟩ : ∃ q, q = wr := ⟨_, rfl⟩
        subst hwz
        clear hL hm
        go_wp2_with (first
          | (refine wpl_load_sec (by rfl) (.tmp 3) rfl (w.heap.size + 2) rfl L HNF.out ?_)
          | (go_at_call 101; (with_reducible refine (HSU.out).mono ?_); rintro r w7 ⟨p7, rfl, ho7, hb7⟩; have HF7 := Lib.hid (FD.of ho7 HR.out.sz); have HR7 := Lib.hid (HR.out.next hb7); have HN7 := Lib.hid (HNF.out.keep hb7); clear ho7 hb7)
          | (refine wpl_lit1 rfl (.tmp 34) rfl _ _ _ rfl ?_; intro gl w8 hl8 hgl8 hb8; have HR8 := Lib.hid (HR7.out.next hb8.out); have HN8 := Lib.hid (HN7.out.keep hb8.out); have HRL8 := Lib.hid (rl_lit (g := w.heap.size + 2) (base := w.heap.size + 3) (n := 1) (ls := [putL m 4]) hl8.out (by omega) (Nat.le_trans HR7.out.sz hgl8.out) rfl rfl (by omega) (fd_one (HF7.out.keep hb8.out))); clear hl8 hgl8 hb8)
          | (go_at_call 127; (refine (hput_any (w.heap.size + 2) 37 1 _ [putL m 4] _ _ HN8.out HRL8.out (by intro y hy; simp only [List.mem_cons, List.not_mem_nil, or_false] at hy; subst hy; rw [putL_length]; omega) (by simp [putL_length])).mono ?_); rintro r w9 ⟨rfl, hk9, hg9⟩; have HR9 := Lib.hid (HR8.out.over hg9); have HN9 := Lib.hid (show Blk w9 (w.heap.size + 2) (secH ⟨e, s, f, l⟩) from by rw [← HFIN.out.2.2]; simpa using hk9); clear hk9 hg9)
          | (refine wpl_load_sec (by rfl) (.tmp 3) rfl (w.heap.size + 2) rfl (secH ⟨e, s, f, l⟩) HN9.out ?_)
          | (refine wpl_put_sec rfl (.tmp 2) (.tmp 37) rfl (w.heap.size + 1) z64 (secH ⟨e, s, f, l⟩) HR9.out.old (secH_length HLN.out) rfl rfl ?_; intro wf HO HGF))
        refine bodyPost_ret_by (v := .agg (sv (secH ⟨e, s, f, l⟩))) (results_cell_row rfl _ _ (w.heap.size + 1) _ (sv (secH ⟨e, s, f, l⟩)) (0, 0) _ rfl HO.out.1 Tryz.underlying60 rfl (sv_info _ (secH_length HLN.out))) rfl ⟨rfl, ?_⟩
        exact hbelow_grown HR9.out.below HGF.out (by omega) HR9.out.below.size
end Go.Proofs.YtgegbpnmfpjdmaaGreatDoor
namespace Go.Proofs.YtgegbpnmfpjdmaaGreatDoor
open Go.RowKit
def btwn (n a b : Int) : Bool := decide (a ≤ n ∧ n ≤ b)
theorem within_any (n a b : Int) (w : World) : Calls Tryz.prog 51 #[.int .i64 n, .int .i64 a, .int .i64 b] w fun e w' => e = .returned (.bool (btwn n a b)) ∧ w = w' := by
  by_cases h1 : a ≤ n
  · by_cases h2 : n ≤ b
    · rw [show btwn n a b = true from by simp [btwn, h1, h2]]
      go_enter Tryz.func51, Tryz.ntmps51
      go_wp2
      go_ret
      exact ⟨rfl, rfl⟩
    · rw [show btwn n a b = false from by simp [btwn, h2]]
      go_enter Tryz.func51, Tryz.ntmps51
      go_wp2
      go_ret
      exact ⟨rfl, rfl⟩
  · rw [show btwn n a b = false from by simp [btwn, h1]]
    go_enter Tryz.func51, Tryz.ntmps51
    go_wp2
    go_ret
    exact ⟨rfl, rfl⟩
def bndF (f : Int) : Int := IntKind.i64.wrap (f - 1)
def okF (f : Int) (l : List Int) (i : Nat) : Prop := ∀ j, j < i → btwn (l.getD j 0) 0 (bndF f) = true
theorem right_false {h : Hdr} (ht : HdT h) {i : Nat} (hi : i < 4) (hb : btwn (h.l.getD i 0) 0 (bndF h.f) = false) : hdOk h = false := by
  cases hk : hdOk h
  · rfl
  · obtain ⟨_, _, h3, h4⟩ := hdOk_parts hk
    have := h4 (h.l.getD i 0) (getD_mem (by rw [ht.n]; exact hi))
    have hw : bndF h.f = h.f - 1 := IntWalk.i64_in _ (by omega)
    rw [hw] at hb
    unfold btwn at hb
    simp only [decide_eq_false_iff_not] at hb
    omega
theorem right_all {h : Hdr} (ht : HdT h) (hf : okF h.f h.l 4) : hdOk h = (decide (h.e ≠ 0) && (btwn h.s 1 2147483647 && btwn h.f 1 2147483647)) := by
  rw [Bool.eq_iff_iff]
  constructor
  · intro hk
    obtain ⟨h1, h2, h3, _⟩ := hdOk_parts hk
    simp [h1, btwn, h2, h3]
  · intro hk
    simp only [Bool.and_eq_true, decide_eq_true_eq, btwn] at hk
    obtain ⟨h1, h2, h3⟩ := hk
    refine hdOk_of h1 (by simp [lsn, h2]) (by simp [lsn, h3]) fun x hx => ?_
    obtain ⟨j, hj, rfl⟩ := List.getElem_of_mem hx
    have := hf j (by rw [ht.n] at hj; exact hj)
    have hw : bndF h.f = h.f - 1 := IntWalk.i64_in _ (by omega)
    rw [hw] at this
    simp only [btwn, decide_eq_true_eq, List.getD, hj, getElem?_pos, Option.getD_some] at this
    omega
set_option maxRecDepth 8000 in
set_option maxHeartbeats 1000000 in
theorem hright_any (h : Hdr) (ht : HdT h) (w : World) : Calls Tryz.prog 26 #[.agg (hv h)] w fun e w' => e = .returned (.bool (hdOk h)) ∧ Below w.heap.size w w' := by
  obtain ⟨w0, hw0⟩ : ∃ q, w.alloc (.cells (hv h) 30) = q := ⟨_, rfl⟩
  have HK := Lib.hid (show HB w0 w.heap.size h from by rw [← hw0]; exact HB.new w h ht.n)
  have HW := Lib.hid (show Below w.heap.size w w0 from by rw [← hw0]; exact balloc w _)
  have HTY := Lib.hid ht
  obtain ⟨z0, z1, z2⟩ := HK.out.cells
  have he : 0 ≤ h.e ∧ h.e ≤ 18446744073709551615 := ht.e
  obtain ⟨m, hm⟩ : ∃ m, bndF h.f = m := ⟨_, rfl⟩
  have hm2 : IntKind.i64.wrap (h.f - 1) = m := hm
  obtain ⟨y, hy⟩ : ∃ y, hdOk h = y := ⟨_, rfl⟩
  have HY := Lib.hid hy
  have HM := Lib.hid hm
  rw [hy]
  obtain ⟨e, s, f, l⟩ := h
  dsimp only at *
  clear ht hy hm
  go_enter Tryz.func26, Tryz.ntmps26
  go_wp2_with (first
    | (refine wpl_load_l4 rfl (.tmp 5) rfl rfl HK.out ?_))
  go_loopw [7] (fun v wr => ∃ i : Nat, v = .int .i64 i ∧ i ≤ 4 ∧ Hid (okF f l i) ∧ wr = w0) (fun v _ => 4 - (intOf v).toNat)
  case atStart => exact ⟨0, rfl, by omega, Lib.hid (fun j hj => absurd hj (by omega)), rfl⟩
  case round =>
    obtain ⟨i, rfl, hi, HO, rfl⟩ := hrel
    by_cases hlt : i < 4
    · have hix := index_l4 l HTY.out.n i hlt wr
      obtain ⟨x, hx⟩ : ∃ x, l.getD i 0 = x := ⟨_, rfl⟩
      rw [hx] at hix
      obtain ⟨b, hb⟩ : ∃ b, btwn x 0 m = b := ⟨_, rfl⟩
      have HX := Lib.hid hx
      have HBT := Lib.hid hb
      have HC := Lib.hid (within_any x 0 m wr)
      rw [hb] at HC
      have hlt2 : (i : Int) < 4 := by omega
      clear hx hb
      cases b with
      | false =>
        go_wp2_with (first
          | (go_at_call 51; (with_reducible refine (HC.out).mono ?_); rintro r w' ⟨rfl, rfl⟩))
        go_ret
        exact ⟨ret_bool (by rw [← HY.out]; exact (right_false HTY.out hlt (by dsimp only; rw [HX.out, HM.out]; exact HBT.out)).symm), HW.out⟩
      | true =>
        go_wp2_with (first
          | (go_at_call 51; (with_reducible refine (HC.out).mono ?_); rintro r w' ⟨rfl, rfl⟩))
        go_roundw
        case rel =>
          refine ⟨i + 1, by go_num, by omega, Lib.hid fun j hj => ?_, trivial⟩
          by_cases hji : j = i
          · subst hji; rw [HX.out, HM.out]; exact HBT.out
          · exact HO.out j (by omega)
        case measure => simp [intOf]; omega
    · obtain rfl : i = 4 := by omega
      have HA := Lib.hid (right_all HTY.out HO.out)
      rw [HY.out] at HA
      dsimp only at HA
      obtain ⟨b1, hb1⟩ : ∃ b, btwn s 1 2147483647 = b := ⟨_, rfl⟩
      obtain ⟨b2, hb2⟩ : ∃ b, btwn f 1 2147483647 = b := ⟨_, rfl⟩
      have HC1 := Lib.hid (within_any s 1 2147483647 wr)
      have HC2 := Lib.hid (within_any f 1 2147483647 wr)
      rw [hb1] at HC1
      rw [hb2] at HC2
      rw [hb1, hb2] at HA
      clear hb1 hb2
      have hi4 : ¬ ((4 : Nat) : Int) < 4 := by omega
      by_cases h0 : e = 0
      · subst h0
        go_wp2
        go_ret
        exact ⟨ret_bool (by rw [HA.out]; simp), HW.out⟩
      · cases b1 with
        | false =>
          go_wp2_with (first
            | (go_at_call 51; (with_reducible refine (HC1.out).mono ?_); rintro r w' ⟨rfl, rfl⟩))
          go_ret
          exact ⟨ret_bool (by rw [HA.out]; simp), HW.out⟩
        | true =>
          go_wp2_with (first
            | (go_at_call 51; first | ((with_reducible refine (HC1.out).mono ?_); rintro r w' ⟨rfl, rfl⟩) | ((with_reducible refine (HC2.out).mono ?_); rintro r w' ⟨rfl, rfl⟩)))
          go_ret
          exact ⟨ret_bool (by rw [HA.out]; simp [h0]), HW.out⟩
end Go.Proofs.YtgegbpnmfpjdmaaGreatDoor
namespace Go.Proofs.YtgegbpnmfpjdmaaGreatDoor
open Go.RowKit
set_option maxRecDepth 8000 in
set_option maxHeartbeats 2000000 in
theorem henc_ok (h : Hdr) (ht : HdT h) (hk : hdOk h = true) (w : World) (hT : Tab w) :
    Calls Tryz.prog 86 #[.agg (hv h)] w fun r w' => r = .returned (.tuple #[.agg (sv (secH h)), .int .i64 0]) ∧ Below w.heap.size w w' := by
  obtain ⟨w0, hw0⟩ : ∃ q, (w.alloc (.cells (hv h) 30)).alloc (.cells (sv z64) 60) = q := ⟨_, rfl⟩
  have hs1 : (w.alloc (.cells (hv h) 30)).heap.size = w.heap.size + 1 := alloc_size w _
  have HK := Lib.hid (show HB w0 w.heap.size h from by rw [← hw0]; exact (HB.new w h ht.n).keep (balloc _ _))
  have HO := Lib.hid (show Blk w0 (w.heap.size + 1) z64 from by rw [← hw0, ← hs1]; exact Blk.new _ z64 z64_length)
  have HW := Lib.hid (show Below w.heap.size w w0 from by rw [← hw0]; exact bch (balloc w _) (balloc _ _))
  have HR : Hid (∀ w, Calls Tryz.prog 26 #[.agg (hv h)] w fun r w' => r = .returned (.bool true) ∧ Below w.heap.size w w') := Lib.hid fun w => by rw [← hk]; exact hright_any h ht w
  have HY := Lib.hid (fun w => hlay_any h ht hk w)
  have HN := Lib.hid (secH_length ht.n)
  have HT := Lib.hid hT
  rw [z64_cells] at hw0
  clear ht hk hT hs1
  go_enter Tryz.func86, Tryz.ntmps86
  go_wp2_with (first
    | (refine wpl_load_hd (by rfl) (.tmp 1) rfl rfl (show HB w0 w.heap.size h from HK.out) ?_)
    | (refine wpl_load_hd (by rfl) (.tmp 1) rfl rfl HK1.out ?_)
    | (go_at_call 26; (with_reducible refine (HR.out _).mono ?_); rintro r w1 ⟨rfl, hb1⟩; have HK1 := Lib.hid (HK.out.keep hb1); have HO1 := Lib.hid (HO.out.keep hb1); have HB1 := Lib.hid (bch HW.out hb1); clear hb1)
    | (go_at_call 107; (with_reducible refine (HY.out _ (HT.out.keep HB1.out)).mono ?_); rintro r w2 ⟨rfl, hb2⟩; have HO2 := Lib.hid (HO1.out.keep hb2); have HB2 := Lib.hid (bch HB1.out hb2); clear hb2)
    | (refine wpl_put_sec rfl (.tmp 2) (.tmp 9) rfl (w.heap.size + 1) z64 (secH h) HO2.out HN.out rfl rfl ?_; intro w3 HO3 HG3))
  refine bodyPost_ret_by (results_row_tmp rfl _ _ (w.heap.size + 1) _ rfl (run_loadVar_row w3 (w.heap.size + 1) _ 60 (sv (secH h)) (0, 0) _ HO3.out.1 Tryz.underlying60 rfl (sv_info _ HN.out))) rfl ⟨rfl, hbelow_grown HB2.out HG3.out (by omega) HB2.out.size⟩
set_option maxRecDepth 8000 in
set_option maxHeartbeats 2000000 in
theorem henc_no (h : Hdr) (ht : HdT h) (hk : hdOk h = false) (w : World) :
    Calls Tryz.prog 86 #[.agg (hv h)] w fun r w' => r = .returned (.tuple #[.agg (sv z64), .int .i64 13]) ∧ Below w.heap.size w w' := by
  obtain ⟨w0, hw0⟩ : ∃ q, (w.alloc (.cells (hv h) 30)).alloc (.cells (sv z64) 60) = q := ⟨_, rfl⟩
  have hs1 : (w.alloc (.cells (hv h) 30)).heap.size = w.heap.size + 1 := alloc_size w _
  have HK := Lib.hid (show HB w0 w.heap.size h from by rw [← hw0]; exact (HB.new w h ht.n).keep (balloc _ _))
  have HO := Lib.hid (show Blk w0 (w.heap.size + 1) z64 from by rw [← hw0, ← hs1]; exact Blk.new _ z64 z64_length)
  have HW := Lib.hid (show Below w.heap.size w w0 from by rw [← hw0]; exact bch (balloc w _) (balloc _ _))
  have HR : Hid (∀ w, Calls Tryz.prog 26 #[.agg (hv h)] w fun r w' => r = .returned (.bool false) ∧ Below w.heap.size w w') := Lib.hid fun w => by rw [← hk]; exact hright_any h ht w
  rw [z64_cells] at hw0
  clear ht hk hs1
  go_enter Tryz.func86, Tryz.ntmps86
  go_wp2_with (first
    | (refine wpl_load_hd (by rfl) (.tmp 1) rfl rfl (show HB w0 w.heap.size h from HK.out) ?_)
    | (go_at_call 26; (with_reducible refine (HR.out _).mono ?_); rintro r w1 ⟨rfl, hb1⟩; have HK1 := Lib.hid (HK.out.keep hb1); have HO1 := Lib.hid (HO.out.keep hb1); have HB1 := Lib.hid (bch HW.out hb1); clear hb1)
    | (refine wpl_build_z rfl (by rfl) ?_)
    | (refine wpl_put_sec rfl (.tmp 2) (.tmp 7) rfl (w.heap.size + 1) z64 z64 HO1.out z64_length rfl rfl ?_; intro w3 HO3 HG3))
  refine bodyPost_ret_by (results_row_tmp rfl _ _ (w.heap.size + 1) _ rfl (run_loadVar_row w3 (w.heap.size + 1) _ 60 (sv z64) (0, 0) _ HO3.out.1 Tryz.underlying60 rfl (sv_info _ z64_length))) rfl ⟨rfl, hbelow_grown HB1.out HG3.out (by omega) HB1.out.size⟩
end Go.Proofs.YtgegbpnmfpjdmaaGreatDoor
namespace Go.Proofs.YtgegbpnmfpjdmaaGreatDoor
open Go.RowKit
def rdl (zs : List Int) (i : Nat) : List Int := (List.range 4).map fun j => if j < i then num zs (21 + 4 * j) 4 else 0
theorem rdl_set (zs : List Int) (i : Nat) (h : i < 4) : (rdl zs i).set i (num zs (21 + 4 * i) 4) = rdl zs (i + 1) := by
  match i, h with
  | 0, _ => rfl
  | 1, _ => rfl
  | 2, _ => rfl
  | 3, _ => rfl
theorem rdl_all (zs : List Int) : rdl zs 4 = [num zs 21 4, num zs 25 4, num zs 29 4, num zs 33 4] := rfl
set_option maxRecDepth 8000 in
set_option maxHeartbeats 4000000 in
theorem hread_any (zs : List Int) (hl : zs.length = 64) (hb : isB zs) (w : World) :
    Calls Tryz.prog 102 #[.agg (sv zs)] w fun e w' => e = .returned (.agg (hv (readH zs))) ∧ Below w.heap.size w w' := by
  have HT := readH_typed hb
  obtain ⟨w0, hw0⟩ : ∃ q, (w.alloc (.cells (sv zs) 60)).alloc (.cells #[.int .u64 0, .int .i64 0, .int .i64 0, .int .i64 0, .int .i64 0, .int .i64 0, .int .i64 0] 30) = q := ⟨_, rfl⟩
  have hs1 : (w.alloc (.cells (sv zs) 60)).heap.size = w.heap.size + 1 := alloc_size w _
  have HK := Lib.hid (show Blk w0 w.heap.size zs from by rw [← hw0]; exact (Blk.new w zs hl).keep (balloc _ _))
  have HRB := Lib.hid (show HB w0 (w.heap.size + 1) noH from by rw [← hw0, ← hs1]; exact HB.new _ noH rfl)
  have HW := Lib.hid (show Below w.heap.size w w0 from by rw [← hw0]; exact bch (balloc w _) (balloc _ _))
  have HSZ := Lib.hid (show w0.heap.size = w.heap.size + 2 from by rw [← hw0, alloc_size, hs1])
  obtain ⟨e0, he0⟩ : ∃ x, num zs 5 8 = x := ⟨_, rfl⟩
  obtain ⟨s0, hs0⟩ : ∃ x, num zs 13 4 = x := ⟨_, rfl⟩
  obtain ⟨f0, hf0⟩ : ∃ x, num zs 17 4 = x := ⟨_, rfl⟩
  have HE := Lib.hid (show (⟨e0, s0, f0, [num zs 21 4, num zs 25 4, num zs 29 4, num zs 33 4]⟩ : Hdr) = readH zs from by rw [← he0, ← hs0, ← hf0]; rfl)
  have HG5 : Hid (∀ w', Blk w' w.heap.size zs → Calls Tryz.prog 120 #[.slice (some ⟨w.heap.size, 5, none⟩) 8 59] w' fun e w'' => e = .returned (.int .u64 e0) ∧ w' = w'') := Lib.hid fun w' h => sec_get w.heap.size 5 8 zs w' h hb (by omega) (by omega) (by omega) he0
  have HG13 : Hid (∀ w', Calls Tryz.prog 121 #[.agg (sv zs), .int .i64 13] w' fun e w'' => e = .returned (.int .i64 s0) ∧ Below w'.heap.size w' w'') := Lib.hid fun w' => hget_any zs hl hb 13 (by omega) w' hs0
  have HG17 : Hid (∀ w', Calls Tryz.prog 121 #[.agg (sv zs), .int .i64 17] w' fun e w'' => e = .returned (.int .i64 f0) ∧ Below w'.heap.size w' w'') := Lib.hid fun w' => hget_any zs hl hb 17 (by omega) w' hf0
  have HL := Lib.hid hl
  have HZ := Lib.hid hb
  clear hl hb he0 hs0 hf0 HT hs1
  go_enter Tryz.func102, Tryz.ntmps102
  go_wp2_with fail
  refine wp_region_held_drew (S := (fun w' => Blk w' w.heap.size zs ∧ Below w0.heap.size w0 w')) (by kernel_rfl) ⟨HK.out, (Below.refl _ _).drew⟩ (fun hS => ?_)
  refine rgw 0 ⟨some 5, .slice 60 (.tmp 1) (some (.const (.int .i64 5))) (some (.const (.int .i64 13))) none, 43, _, _, none⟩ hS ?_
  refine rgw 2 ⟨some 7, .load 60 (.tmp 1), 60, _, _, none⟩ hS ?_ (hy := by intro w hSw; (try dsimp only at hSw); refine exec_load_sec (.tmp 1) ?_ ?_ hSw.1 <;> rfl)
  refine rgw 4 ⟨some 9, .load 60 (.tmp 1), 60, _, _, none⟩ hS ?_ (hy := by intro w hSw; (try dsimp only at hSw); refine exec_load_sec (.tmp 1) ?_ ?_ hSw.1 <;> rfl)
  refine rg_both 1 7 ⟨some 6, .call { callee := .value (.func 120), args := #[.tmp 5], argTypes := #[43] }, 22, _, _, none⟩ ⟨some 3, .alloc 30, 0, _, _, none⟩ (by kernel_rfl) rfl rfl (fun K hK => ?_) (fun K hK => ?_)
  focus
    go_simp
    (go_at_call 120; (refine (HG5.out _ hS.1).mono ?_); rintro e w2 ⟨rfl, rfl⟩)
    refine hK.out _ _ ?_ (fun hS1 => ?_)
    · (first | exact hS | exact hN | exact ⟨hS.1.keep hb, bch hS.2 hb⟩)
    clear hK K hS; have hS := hS1; clear hS1
    (try simp only [rgp])
    refine rg_both 3 7 ⟨some 8, .call { callee := .value (.func 121), args := #[.tmp 7, .const (.int .i64 13)], argTypes := #[60, 3] }, 3, _, _, none⟩ ⟨some 3, .alloc 30, 0, _, _, none⟩ (by kernel_rfl) rfl rfl (fun K hK => ?_) (fun K hK => ?_)
    focus
      go_simp
      (go_at_call 121; (refine (HG13.out _).mono ?_); rintro e w3 ⟨rfl, hb⟩; (try (have HA2 := Lib.hid (HA.out.keep hb); clear HA; have HA := HA2; clear HA2)))
      refine hK.out _ _ ?_ (fun hS1 => ?_)
      · (first | exact hS | exact hN | exact ⟨hS.1.keep hb, bch hS.2 hb⟩)
      clear hK K hS; have hS := hS1; clear hS1
      (try simp only [rgp])
      refine rg_both 5 7 ⟨some 10, .call { callee := .value (.func 121), args := #[.tmp 9, .const (.int .i64 17)], argTypes := #[60, 3] }, 3, _, _, none⟩ ⟨some 3, .alloc 30, 0, _, _, none⟩ (by kernel_rfl) rfl rfl (fun K hK => ?_) (fun K hK => ?_)
      focus
        go_simp
        (go_at_call 121; (refine (HG17.out _).mono ?_); rintro e w4 ⟨rfl, hb⟩; (try (have HA2 := Lib.hid (HA.out.keep hb); clear HA; have HA := HA2; clear HA2)))
        refine hK.out _ _ ?_ (fun hS1 => ?_)
        · (first | exact hS | exact hN | exact ⟨hS.1.keep hb, bch hS.2 hb⟩)
        clear hK K hS; have hS := hS1; clear hS1
        (try simp only [rgp])
        refine rgw 6 ⟨some 11, .build 30 #[(0, .tmp 6), (1, .tmp 8), (2, .tmp 10)], 30, _, _, none⟩ hS ?_ (v := .agg (hv ⟨e0, s0, f0, [0, 0, 0, 0]⟩)) (hy := by intro w hSw; (try dsimp only at hSw); go_simp; rfl)
        refine rg_one 7 ⟨some 3, .alloc 30, 0, _, _, none⟩ (by kernel_rfl) rfl (fun K hK => ?_)
        rw [if_pos (by rfl)]; refine wp_new_hd rfl ?_; intro g w5 HA hg hb0; have hb := hb0.out; have HGE := Lib.hid (Nat.le_trans hS.2.size hg.out); clear hg hb0
        refine hK.out _ _ ?_ (fun hS1 => ?_)
        · (first | exact hS | exact hN | exact ⟨hS.1.keep hb, bch hS.2 hb⟩)
        clear hK K hS; have hS := hS1; clear hS1
        (try simp only [rgp])
      rotate_left
      focus
        rw [if_pos (by rfl)]; refine wp_new_hd rfl ?_; intro g w5 HA hg hb0; have hb := hb0.out; have HGE := Lib.hid (Nat.le_trans hS.2.size hg.out); clear hg hb0
        refine hK.out _ _ ?_ (fun hS1 => ?_)
        · (first | exact hS | exact hN | exact ⟨hS.1.keep hb, bch hS.2 hb⟩)
        clear hK K hS; have hS := hS1; clear hS1
        (try simp only [rgp])
        refine rg_one 5 ⟨some 10, .call { callee := .value (.func 121), args := #[.tmp 9, .const (.int .i64 17)], argTypes := #[60, 3] }, 3, _, _, none⟩ (by kernel_rfl) rfl (fun K hK => ?_)
        go_simp
        (go_at_call 121; (refine (HG17.out _).mono ?_); rintro e w4 ⟨rfl, hb⟩; (try (have HA2 := Lib.hid (HA.out.keep hb); clear HA; have HA := HA2; clear HA2)))
        refine hK.out _ _ ?_ (fun hS1 => ?_)
        · (first | exact hS | exact hN | exact ⟨hS.1.keep hb, bch hS.2 hb⟩)
        clear hK K hS; have hS := hS1; clear hS1
        (try simp only [rgp])
        refine rgw 6 ⟨some 11, .build 30 #[(0, .tmp 6), (1, .tmp 8), (2, .tmp 10)], 30, _, _, none⟩ hS ?_ (v := .agg (hv ⟨e0, s0, f0, [0, 0, 0, 0]⟩)) (hy := by intro w hSw; (try dsimp only at hSw); go_simp; rfl)
      rotate_left
    rotate_left 2
    focus
      rw [if_pos (by rfl)]; refine wp_new_hd rfl ?_; intro g w5 HA hg hb0; have hb := hb0.out; have HGE := Lib.hid (Nat.le_trans hS.2.size hg.out); clear hg hb0
      refine hK.out _ _ ?_ (fun hS1 => ?_)
      · (first | exact hS | exact hN | exact ⟨hS.1.keep hb, bch hS.2 hb⟩)
      clear hK K hS; have hS := hS1; clear hS1
      (try simp only [rgp])
      refine rg_one 3 ⟨some 8, .call { callee := .value (.func 121), args := #[.tmp 7, .const (.int .i64 13)], argTypes := #[60, 3] }, 3, _, _, none⟩ (by kernel_rfl) rfl (fun K hK => ?_)
      go_simp
      (go_at_call 121; (refine (HG13.out _).mono ?_); rintro e w3 ⟨rfl, hb⟩; (try (have HA2 := Lib.hid (HA.out.keep hb); clear HA; have HA := HA2; clear HA2)))
      refine hK.out _ _ ?_ (fun hS1 => ?_)
      · (first | exact hS | exact hN | exact ⟨hS.1.keep hb, bch hS.2 hb⟩)
      clear hK K hS; have hS := hS1; clear hS1
      (try simp only [rgp])
      refine rg_one 5 ⟨some 10, .call { callee := .value (.func 121), args := #[.tmp 9, .const (.int .i64 17)], argTypes := #[60, 3] }, 3, _, _, none⟩ (by kernel_rfl) rfl (fun K hK => ?_)
      go_simp
      (go_at_call 121; (refine (HG17.out _).mono ?_); rintro e w4 ⟨rfl, hb⟩; (try (have HA2 := Lib.hid (HA.out.keep hb); clear HA; have HA := HA2; clear HA2)))
      refine hK.out _ _ ?_ (fun hS1 => ?_)
      · (first | exact hS | exact hN | exact ⟨hS.1.keep hb, bch hS.2 hb⟩)
      clear hK K hS; have hS := hS1; clear hS1
      (try simp only [rgp])
      refine rgw 6 ⟨some 11, .build 30 #[(0, .tmp 6), (1, .tmp 8), (2, .tmp 10)], 30, _, _, none⟩ hS ?_ (v := .agg (hv ⟨e0, s0, f0, [0, 0, 0, 0]⟩)) (hy := by intro w hSw; (try dsimp only at hSw); go_simp; rfl)
    rotate_left
  rotate_left 3
  focus
    rw [if_pos (by rfl)]; refine wp_new_hd rfl ?_; intro g w5 HA hg hb0; have hb := hb0.out; have HGE := Lib.hid (Nat.le_trans hS.2.size hg.out); clear hg hb0
    refine hK.out _ _ ?_ (fun hS1 => ?_)
    · (first | exact hS | exact hN | exact ⟨hS.1.keep hb, bch hS.2 hb⟩)
    clear hK K hS; have hS := hS1; clear hS1
    (try simp only [rgp])
    refine rg_one 1 ⟨some 6, .call { callee := .value (.func 120), args := #[.tmp 5], argTypes := #[43] }, 22, _, _, none⟩ (by kernel_rfl) rfl (fun K hK => ?_)
    go_simp
    (go_at_call 120; (refine (HG5.out _ hS.1).mono ?_); rintro e w2 ⟨rfl, rfl⟩)
    refine hK.out _ _ ?_ (fun hS1 => ?_)
    · (first | exact hS | exact hN | exact ⟨hS.1.keep hb, bch hS.2 hb⟩)
    clear hK K hS; have hS := hS1; clear hS1
    (try simp only [rgp])
    refine rg_one 3 ⟨some 8, .call { callee := .value (.func 121), args := #[.tmp 7, .const (.int .i64 13)], argTypes := #[60, 3] }, 3, _, _, none⟩ (by kernel_rfl) rfl (fun K hK => ?_)
    go_simp
    (go_at_call 121; (refine (HG13.out _).mono ?_); rintro e w3 ⟨rfl, hb⟩; (try (have HA2 := Lib.hid (HA.out.keep hb); clear HA; have HA := HA2; clear HA2)))
    refine hK.out _ _ ?_ (fun hS1 => ?_)
    · (first | exact hS | exact hN | exact ⟨hS.1.keep hb, bch hS.2 hb⟩)
    clear hK K hS; have hS := hS1; clear hS1
    (try simp only [rgp])
    refine rg_one 5 ⟨some 10, .call { callee := .value (.func 121), args := #[.tmp 9, .const (.int .i64 17)], argTypes := #[60, 3] }, 3, _, _, none⟩ (by kernel_rfl) rfl (fun K hK => ?_)
    go_simp
    (go_at_call 121; (refine (HG17.out _).mono ?_); rintro e w4 ⟨rfl, hb⟩; (try (have HA2 := Lib.hid (HA.out.keep hb); clear HA; have HA := HA2; clear HA2)))
    refine hK.out _ _ ?_ (fun hS1 => ?_)
    · (first | exact hS | exact hN | exact ⟨hS.1.keep hb, bch hS.2 hb⟩)
    clear hK K hS; have hS := hS1; clear hS1
    (try simp only [rgp])
    refine rgw 6 ⟨some 11, .build 30 #[(0, .tmp 6), (1, .tmp 8), (2, .tmp 10)], 30, _, _, none⟩ hS ?_ (v := .agg (hv ⟨e0, s0, f0, [0, 0, 0, 0]⟩)) (hy := by intro w hSw; (try dsimp only at hSw); go_simp; rfl)
  rotate_left
  all_goals
    refine rg_one 8 ⟨none, .store 30 (.tmp 3) (.tmp 11), 0, _, _, none⟩ (by kernel_rfl) rfl (fun K hK => ?_)
    rw [if_pos (by rfl)]; refine wp_put_hd (.tmp 3) (.tmp 11) rfl g noH ⟨e0, s0, f0, [0, 0, 0, 0]⟩ HA.out rfl rfl rfl ?_; intro w6 HA6 HG6; have HN1 := Lib.hid (show w.heap.size ≠ g by have := HGE.out; have := HSZ.out; omega); have HN2 := HGE; have hN := And.intro (hS.1.over HG6.out HN1.out) (hbelow_grown hS.2 HG6.out HGE.out hS.2.size); clear HA
    refine hK.out _ _ ?_ (fun hS1 => ?_)
    · (first | exact hS | exact hN | exact ⟨hS.1.keep hb, bch hS.2 hb⟩)
    clear hK K hS; have hS := hS1; clear hS1
    (try simp only [Act.put])
    refine wpAnyH_done (by kernel_rfl) ?_ _
    have HB6 := Lib.hid hS.2
    have HK6 := Lib.hid hS.1
    have HA := Lib.hid HA6.out
    clear hS HA6 HG6
    (try clear hN hb)
    go_wp2
    go_loopw [12] (fun v wr => ∃ i : Nat, v = .int .i64 i ∧ i ≤ 4 ∧ Hid (HB wr g ⟨e0, s0, f0, rdl zs i⟩) ∧ Hid (Blk wr w.heap.size zs) ∧ Hid (Below w0.heap.size w0 wr)) (fun v _ => 4 - (intOf v).toNat)
    case atStart => exact ⟨0, rfl, by omega, HA, HK6, HB6⟩
    case round =>
      obtain ⟨i, rfl, hi, HAR, HKR, HBR⟩ := hrel
      by_cases hlt : i < 4
      · obtain ⟨x, hx⟩ : ∃ x, num zs (21 + 4 * i) 4 = x := ⟨_, rfl⟩
        have HXS := Lib.hid (rdl_set zs i hlt)
        rw [hx] at HXS
        have HGX := Lib.hid (fun w => hget_any zs HL.out HZ.out (21 + 4 * i) (by omega) w hx)
        obtain ⟨p, hp⟩ : ∃ p : Nat, 21 + 4 * i = p := ⟨_, rfl⟩
        rw [hp] at HGX
        have hp2 : (21 : Int) + 4 * (i : Int) = (p : Int) := by omega
        have hlt2 : (i : Int) < 4 := by omega
        have hpb : (p : Int) ≤ 33 := by omega
        clear hx hp
        go_wp2_with (first
          | (refine wpl_load_sec (by rfl) (.tmp 1) rfl w.heap.size rfl zs HKR.out ?_)
          | (go_at_call 121; (with_reducible refine (HGX.out _).mono ?_); rintro r w7 ⟨rfl, hb7⟩; have HA7 := Lib.hid (HAR.out.keep hb7); have HK7 := Lib.hid (HKR.out.keep hb7); have HB7 := Lib.hid (bch HBR.out hb7); have hc7 := HA7.out.head i hlt; have hf7 := HA7.out.frozen (3 + i); dsimp only at hc7; clear hb7))
        go_roundw
        case rel =>
          refine ⟨i + 1, by go_num, by omega, Lib.hid ?_, Lib.hid (HK7.out.apart HN1.out _ _), Lib.hid (HB7.out.setCell HN2.out _)⟩
          have h1 := HA7.out.stored i x
          dsimp only at h1
          rw [HXS.out] at h1
          exact h1
        case measure => simp [intOf]; omega
      · obtain rfl : i = 4 := by omega
        have HRD := Lib.hid (rdl_all zs)
        have HAF := Lib.hid (show HB wr g (readH zs) from by have h1 := HAR.out; rw [HRD.out, HE.out] at h1; exact h1)
        have HO := Lib.hid (HRB.out.keep HBR.out)
        go_wp2_with (first
          | (refine wpl_load_hd (by rfl) (.tmp 3) rfl rfl HAF.out ?_)
          | (refine wpl_put_hd rfl (.tmp 2) (.tmp 24) rfl (w.heap.size + 1) noH (readH zs) HO.out rfl rfl rfl ?_; intro w9 HO9 HG9))
        refine bodyPost_ret_by (v := .agg (hv (readH zs))) (results_cell_row rfl _ _ (w.heap.size + 1) _ (hv (readH zs)) (0, 0) _ rfl HO9.out.1 Tryz.underlying30 rfl (hv_info rfl)) rfl ⟨rfl, ?_⟩
        exact hbelow_grown (bch HW.out HBR.out) HG9.out (by omega) (Nat.le_trans HW.out.size HBR.out.size)
end Go.Proofs.YtgegbpnmfpjdmaaGreatDoor
namespace Go.Proofs.YtgegbpnmfpjdmaaGreatDoor
open Go.RowKit
theorem bequal_any (v v' : Value) (n n' : Nat) (d d' : List Int) (w : World) (h1 : RI .u8 w v n d) (h2 : RI .u8 w v' n' d') (hb1 : isB d) (hb2 : isB d') :
    Calls Tryz.prog 100 #[v, v'] w fun e w' => e = .returned (.bool (decide (d = d'))) ∧ w = w' := by
  have q1 := conv_ri h1
  have q2 := conv_ri h2
  by_cases hd : d = d'
  · subst hd
    rw [show decide (d = d) = true from by simp]
    clear h1 h2 hb1 hb2
    go_enter Tryz.func100, Tryz.ntmps100
    go_wp2
    go_ret
    exact ⟨rfl, rfl⟩
  · rw [show decide (d = d') = false from by simp [hd]]
    have hs2 := str_ne (fun e => hd (strOfNums_inj hb1 hb2 e))
    clear h1 h2 hb1 hb2
    go_enter Tryz.func100, Tryz.ntmps100
    go_wp2
    go_ret
    exact ⟨rfl, rfl⟩
end Go.Proofs.YtgegbpnmfpjdmaaGreatDoor
namespace Go.Proofs.YtgegbpnmfpjdmaaGreatDoor
open Go.RowKit
set_option maxRecDepth 8000 in
set_option maxHeartbeats 4000000 in
theorem hdec_none (zs : List Int) (hl : zs.length = 64) (hb : isB zs) (w : World) (hT : Tab w) (h1 : zs = z64) :
    Calls Tryz.prog 75 #[.agg (sv zs)] w fun r w' => r = .returned (.tuple #[.agg (hv noH), .int .i64 7]) ∧ Below w.heap.size w w' := by
  obtain ⟨w0, hw0⟩ : ∃ q, (w.alloc (.cells (sv zs) 60)).alloc (.cells #[.int .u64 0, .int .i64 0, .int .i64 0, .int .i64 0, .int .i64 0, .int .i64 0, .int .i64 0] 30) = q := ⟨_, rfl⟩
  have hs1 : (w.alloc (.cells (sv zs) 60)).heap.size = w.heap.size + 1 := alloc_size w _
  have HK := Lib.hid (show Blk w0 w.heap.size zs from by rw [← hw0]; exact (Blk.new w zs hl).keep (balloc _ _))
  have HRB := Lib.hid (show HB w0 (w.heap.size + 1) noH from by rw [← hw0, ← hs1]; exact HB.new _ noH rfl)
  have HW := Lib.hid (show Below w.heap.size w w0 from by rw [← hw0]; exact bch (balloc w _) (balloc _ _))
  have HSZ := Lib.hid (show w0.heap.size = w.heap.size + 2 from by rw [← hw0, alloc_size, hs1])
  have HT := Lib.hid hT
  have HL := Lib.hid hl
  have HZB := Lib.hid hb
  have HEQ := Lib.hid (show decide (zs = z64) = true from by simpa using h1)
  clear hl hb hT hs1 h1
  go_enter Tryz.func75, Tryz.ntmps75
  go_wp2_with (first
    | (refine wpl_load_sec (by rfl) (.tmp 1) rfl w.heap.size rfl zs HK.out ?_)
    | (refine wpl_build_z rfl (by rfl) ?_)
    | (refine wpl_eq_sec (.tmp 6) (.tmp 7) _ rfl zs z64 HL.out z64_length rfl rfl (by rfl) ?_; rw [HEQ.out])
    | (refine wpl_put_hd rfl (.tmp 2) (.tmp 9) rfl (w.heap.size + 1) noH noH HRB.out rfl rfl rfl ?_; intro wf HOF HGF))
  refine bodyPost_ret_by (results_row_tmp rfl _ _ (w.heap.size + 1) _ rfl HOF.out.load) rfl ⟨rfl, hbelow_grown HW.out HGF.out (by omega) HW.out.size⟩
set_option maxRecDepth 8000 in
set_option maxHeartbeats 4000000 in
theorem hdec_mark (zs : List Int) (hl : zs.length = 64) (hb : isB zs) (w : World) (hT : Tab w) (h1 : ¬ zs = z64) (h2 : ¬ zs.take 5 = mark) :
    Calls Tryz.prog 75 #[.agg (sv zs)] w fun r w' => r = .returned (.tuple #[.agg (hv noH), .int .i64 2]) ∧ Below w.heap.size w w' := by
  obtain ⟨w0, hw0⟩ : ∃ q, (w.alloc (.cells (sv zs) 60)).alloc (.cells #[.int .u64 0, .int .i64 0, .int .i64 0, .int .i64 0, .int .i64 0, .int .i64 0, .int .i64 0] 30) = q := ⟨_, rfl⟩
  have hs1 : (w.alloc (.cells (sv zs) 60)).heap.size = w.heap.size + 1 := alloc_size w _
  have HK := Lib.hid (show Blk w0 w.heap.size zs from by rw [← hw0]; exact (Blk.new w zs hl).keep (balloc _ _))
  have HRB := Lib.hid (show HB w0 (w.heap.size + 1) noH from by rw [← hw0, ← hs1]; exact HB.new _ noH rfl)
  have HW := Lib.hid (show Below w.heap.size w w0 from by rw [← hw0]; exact bch (balloc w _) (balloc _ _))
  have HSZ := Lib.hid (show w0.heap.size = w.heap.size + 2 from by rw [← hw0, alloc_size, hs1])
  have HT := Lib.hid hT
  have HL := Lib.hid hl
  have HZB := Lib.hid hb
  have HEQ := Lib.hid (show decide (zs = z64) = false from by simpa using h1)
  have hri5 := HK.out.ri 0 5 64 (by omega) (by omega) (by omega)
  rw [List.drop_zero] at hri5
  obtain ⟨s5, hs5⟩ : ∃ s, strOfNums (zs.take 5) = s := ⟨_, rfl⟩
  have hq5 := (conv_ri hri5).trans (by rw [hs5])
  have hne0 := str_ne (show ¬ s5 = ⟨#[115, 116, 114, 100, 1]⟩ from fun e => h2 (strOfNums_inj (hb.take 5) mark_bytes (by rw [hs5, e]; rfl)))
  have hne : (s5.toList == [115, 116, 114, 100, 1]) = false := by rwa [show (⟨#[115, 116, 114, 100, 1]⟩ : ByteArray).toList = [115, 116, 114, 100, 1] from by rw [ByteArray.toList_eq]] at hne0
  clear hne0
  clear hri5 hs5
  clear hl hb hT hs1 h1 h2
  go_enter Tryz.func75, Tryz.ntmps75
  go_wp2_with (first
    | (refine wpl_load_sec (by rfl) (.tmp 1) rfl w.heap.size rfl zs HK.out ?_)
    | (refine wpl_build_z rfl (by rfl) ?_)
    | (refine wpl_eq_sec (.tmp 6) (.tmp 7) _ rfl zs z64 HL.out z64_length rfl rfl (by rfl) ?_; rw [HEQ.out])
    | (refine wpl_put_hd rfl (.tmp 2) (.tmp 21) rfl (w.heap.size + 1) noH noH HRB.out rfl rfl rfl ?_; intro wf HOF HGF))
  refine bodyPost_ret_by (results_row_tmp rfl _ _ (w.heap.size + 1) _ rfl HOF.out.load) rfl ⟨rfl, hbelow_grown HW.out HGF.out (by omega) HW.out.size⟩
set_option maxRecDepth 8000 in
set_option maxHeartbeats 4000000 in
theorem hdec_rest (zs : List Int) (hl : zs.length = 64) (hb : isB zs) (w : World) (hT : Tab w) (h1 : ¬ zs = z64) (h2 : zs.take 5 = mark) (h3 : ¬ zs.drop 41 = z23) :
    Calls Tryz.prog 75 #[.agg (sv zs)] w fun r w' => r = .returned (.tuple #[.agg (hv noH), .int .i64 2]) ∧ Below w.heap.size w w' := by
  obtain ⟨w0, hw0⟩ : ∃ q, (w.alloc (.cells (sv zs) 60)).alloc (.cells #[.int .u64 0, .int .i64 0, .int .i64 0, .int .i64 0, .int .i64 0, .int .i64 0, .int .i64 0] 30) = q := ⟨_, rfl⟩
  have hs1 : (w.alloc (.cells (sv zs) 60)).heap.size = w.heap.size + 1 := alloc_size w _
  have HK := Lib.hid (show Blk w0 w.heap.size zs from by rw [← hw0]; exact (Blk.new w zs hl).keep (balloc _ _))
  have HRB := Lib.hid (show HB w0 (w.heap.size + 1) noH from by rw [← hw0, ← hs1]; exact HB.new _ noH rfl)
  have HW := Lib.hid (show Below w.heap.size w w0 from by rw [← hw0]; exact bch (balloc w _) (balloc _ _))
  have HSZ := Lib.hid (show w0.heap.size = w.heap.size + 2 from by rw [← hw0, alloc_size, hs1])
  have HT := Lib.hid hT
  have HL := Lib.hid hl
  have HZB := Lib.hid hb
  have HEQ := Lib.hid (show decide (zs = z64) = false from by simpa using h1)
  have hri5 := HK.out.ri 0 5 64 (by omega) (by omega) (by omega)
  rw [List.drop_zero] at hri5
  have hq5 := (conv_ri hri5).trans (show Result.ok (Value.string (strOfNums (zs.take 5))) w0 = .ok (.string ⟨#[115, 116, 114, 100, 1]⟩) w0 from by rw [h2]; rfl)
  have HD23 := Lib.hid (show (zs.drop 41).length = 23 from by simp [hl])
  have HRQ := Lib.hid (show (!decide (zs.drop 41 = z23)) = true from by simpa using h3)
  clear hri5
  clear hl hb hT hs1 h1 h2 h3
  go_enter Tryz.func75, Tryz.ntmps75
  go_wp2_with (first
    | (refine wpl_load_sec (by rfl) (.tmp 1) rfl w.heap.size rfl zs HK.out ?_)
    | (refine wpl_build_z rfl (by rfl) ?_)
    | (refine wpl_eq_sec (.tmp 6) (.tmp 7) _ rfl zs z64 HL.out z64_length rfl rfl (by rfl) ?_; rw [HEQ.out])
    | (refine wpl_ptr_rest (.tmp 15) rfl _ _ _ rfl (by omega) (by rfl) ?_)
    | (refine wpl_load_rest (.tmp 16) rfl rfl HK.out (by rfl) ?_)
    | (refine wpl_build_rest rfl (by rfl) ?_)
    | (refine wpl_neq_rest (.tmp 17) (.tmp 18) _ rfl (zs.drop 41) z23 HD23.out z23_length rfl rfl (by rfl) ?_; rw [HRQ.out])
    | (refine wpl_put_hd rfl (.tmp 2) (.tmp 21) rfl (w.heap.size + 1) noH noH HRB.out rfl rfl rfl ?_; intro wf HOF HGF))
  refine bodyPost_ret_by (results_row_tmp rfl _ _ (w.heap.size + 1) _ rfl HOF.out.load) rfl ⟨rfl, hbelow_grown HW.out HGF.out (by omega) HW.out.size⟩
set_option maxRecDepth 8000 in
set_option maxHeartbeats 4000000 in
theorem hdec_sum (zs : List Int) (hl : zs.length = 64) (hb : isB zs) (w : World) (hT : Tab w) (h1 : ¬ zs = z64) (h2 : zs.take 5 = mark) (h3 : zs.drop 41 = z23) (h4 : ¬ (zs.drop 37).take 4 = putL (maskS (ofS (zs.take 37))) 4) :
    Calls Tryz.prog 75 #[.agg (sv zs)] w fun r w' => r = .returned (.tuple #[.agg (hv noH), .int .i64 3]) ∧ Below w.heap.size w w' := by
  obtain ⟨w0, hw0⟩ : ∃ q, (w.alloc (.cells (sv zs) 60)).alloc (.cells #[.int .u64 0, .int .i64 0, .int .i64 0, .int .i64 0, .int .i64 0, .int .i64 0, .int .i64 0] 30) = q := ⟨_, rfl⟩
  have hs1 : (w.alloc (.cells (sv zs) 60)).heap.size = w.heap.size + 1 := alloc_size w _
  have HK := Lib.hid (show Blk w0 w.heap.size zs from by rw [← hw0]; exact (Blk.new w zs hl).keep (balloc _ _))
  have HRB := Lib.hid (show HB w0 (w.heap.size + 1) noH from by rw [← hw0, ← hs1]; exact HB.new _ noH rfl)
  have HW := Lib.hid (show Below w.heap.size w w0 from by rw [← hw0]; exact bch (balloc w _) (balloc _ _))
  have HSZ := Lib.hid (show w0.heap.size = w.heap.size + 2 from by rw [← hw0, alloc_size, hs1])
  have HT := Lib.hid hT
  have HL := Lib.hid hl
  have HZB := Lib.hid hb
  have HEQ := Lib.hid (show decide (zs = z64) = false from by simpa using h1)
  have hri5 := HK.out.ri 0 5 64 (by omega) (by omega) (by omega)
  rw [List.drop_zero] at hri5
  have hq5 := (conv_ri hri5).trans (show Result.ok (Value.string (strOfNums (zs.take 5))) w0 = .ok (.string ⟨#[115, 116, 114, 100, 1]⟩) w0 from by rw [h2]; rfl)
  have HD23 := Lib.hid (show (zs.drop 41).length = 23 from by simp [hl])
  have HRQ := Lib.hid (show (!decide (zs.drop 41 = z23)) = false from by simpa using h3)
  clear hri5
  obtain ⟨m, hm⟩ : ∃ m, maskS (ofS (zs.take 37)) = m := ⟨_, rfl⟩
  have HSU := Lib.hid (fun w ht => hsum_any (w := w) ht zs hl hb hm)
  have HBQ := Lib.hid (show decide ((zs.drop 37).take 4 = putL m 4) = false from by rw [← hm]; simpa using h4)
  have HPB := Lib.hid (show isB ((zs.drop 37).take 4) from (hb.drop 37).take 4)
  clear hm
  clear hl hb hT hs1 h1 h2 h3 h4
  go_enter Tryz.func75, Tryz.ntmps75
  go_wp2_with (first
    | (refine wpl_load_sec (by rfl) (.tmp 1) rfl w.heap.size rfl zs HK.out ?_)
    | (refine wpl_build_z rfl (by rfl) ?_)
    | (refine wpl_eq_sec (.tmp 6) (.tmp 7) _ rfl zs z64 HL.out z64_length rfl rfl (by rfl) ?_; rw [HEQ.out])
    | (refine wpl_ptr_rest (.tmp 15) rfl _ _ _ rfl (by omega) (by rfl) ?_)
    | (refine wpl_load_rest (.tmp 16) rfl rfl HK.out (by rfl) ?_)
    | (refine wpl_build_rest rfl (by rfl) ?_)
    | (refine wpl_neq_rest (.tmp 17) (.tmp 18) _ rfl (zs.drop 41) z23 HD23.out z23_length rfl rfl (by rfl) ?_; rw [HRQ.out]))
  go_wp2_with fail
  refine wp_region_held_drew (S := (fun w' => Blk w' w.heap.size zs ∧ HB w' (w.heap.size + 1) noH ∧ Below w.heap.size w w')) (by kernel_rfl) ⟨HK.out, HRB.out, HW.out.drew⟩ (fun hS => ?_)
  refine rgw 0 ⟨some 23, .slice 60 (.tmp 1) (some (.const (.int .i64 37))) (some (.const (.int .i64 41))) none, 43, _, _, none⟩ hS ?_
  refine rgw 1 ⟨some 24, .load 60 (.tmp 1), 60, _, _, none⟩ hS ?_ (hy := by intro w hSw; (try dsimp only at hSw); refine exec_load_sec (.tmp 1) ?_ ?_ hSw.1 <;> rfl)
  refine rg_one 2 ⟨some 25, .call { callee := .value (.func 101), args := #[.tmp 24], argTypes := #[60] }, 43, _, _, none⟩ (by kernel_rfl) rfl (fun K hK => ?_)
  go_simp
  (go_at_call 101; (refine (HSU.out _ (HT.out.keep hS.2.2)).mono ?_); rintro r w3 ⟨p3, rfl, ho, hb⟩; have HR3 := Lib.hid (RI.own ho); clear ho)
  refine hK.out _ _ ?_ (fun hS1 => ?_)
  · (first | exact hS | exact ⟨hS.1.keep hb, hS.2.1.keep hb, bch hS.2.2 hb⟩)
  clear hK K hS; have hS := hS1; clear hS1
  (try simp only [rgp])
  refine rg_one 3 ⟨some 26, .call { callee := .value (.func 100), args := #[.tmp 23, .tmp 25], argTypes := #[43, 43] }, 4, _, _, none⟩ (by kernel_rfl) rfl (fun K hK => ?_)
  go_simp
  (go_at_call 100; (refine (bequal_any _ _ 4 4 _ _ _ (hS.1.ri 37 4 27 (by omega) (by omega) (by omega)) HR3.out HPB.out (putL_isB _ _)).mono ?_); rintro r w4 ⟨rfl, rfl⟩; rw [HBQ.out])
  refine hK.out _ _ ?_ (fun hS1 => ?_)
  · (first | exact hS | exact ⟨hS.1.keep hb, hS.2.1.keep hb, bch hS.2.2 hb⟩)
  clear hK K hS; have hS := hS1; clear hS1
  (try simp only [rgp])
  refine rgw 4 ⟨some 27, .unOp .not 4 (.tmp 26), 4, _, _, none⟩ hS ?_
  refine rgw 5 ⟨some 22, .assign (.tmp 27), 4, _, _, none⟩ hS ?_
  refine wpAnyH_done (by kernel_rfl) ?_ _
  have HK3 := Lib.hid hS.1
  have HRB3 := Lib.hid hS.2.1
  have HW3 := Lib.hid hS.2.2
  clear hS
  go_wp2_with (first
    | (refine wpl_put_hd rfl (.tmp 2) (.tmp 28) rfl (w.heap.size + 1) noH noH HRB3.out rfl rfl rfl ?_; intro wf HOF HGF))
  refine bodyPost_ret_by (results_row_tmp rfl _ _ (w.heap.size + 1) _ rfl HOF.out.load) rfl ⟨rfl, hbelow_grown HW3.out HGF.out (by omega) HW3.out.size⟩
set_option maxRecDepth 8000 in
set_option maxHeartbeats 4000000 in
theorem hdec_wrong (zs : List Int) (hl : zs.length = 64) (hb : isB zs) (w : World) (hT : Tab w) (h1 : ¬ zs = z64) (h2 : zs.take 5 = mark) (h3 : zs.drop 41 = z23) (h4 : (zs.drop 37).take 4 = putL (maskS (ofS (zs.take 37))) 4) (h5 : hdOk (readH zs) = false) :
    Calls Tryz.prog 75 #[.agg (sv zs)] w fun r w' => r = .returned (.tuple #[.agg (hv noH), .int .i64 2]) ∧ Below w.heap.size w w' := by
  obtain ⟨w0, hw0⟩ : ∃ q, (w.alloc (.cells (sv zs) 60)).alloc (.cells #[.int .u64 0, .int .i64 0, .int .i64 0, .int .i64 0, .int .i64 0, .int .i64 0, .int .i64 0] 30) = q := ⟨_, rfl⟩
  have hs1 : (w.alloc (.cells (sv zs) 60)).heap.size = w.heap.size + 1 := alloc_size w _
  have HK := Lib.hid (show Blk w0 w.heap.size zs from by rw [← hw0]; exact (Blk.new w zs hl).keep (balloc _ _))
  have HRB := Lib.hid (show HB w0 (w.heap.size + 1) noH from by rw [← hw0, ← hs1]; exact HB.new _ noH rfl)
  have HW := Lib.hid (show Below w.heap.size w w0 from by rw [← hw0]; exact bch (balloc w _) (balloc _ _))
  have HSZ := Lib.hid (show w0.heap.size = w.heap.size + 2 from by rw [← hw0, alloc_size, hs1])
  have HT := Lib.hid hT
  have HL := Lib.hid hl
  have HZB := Lib.hid hb
  have HEQ := Lib.hid (show decide (zs = z64) = false from by simpa using h1)
  have hri5 := HK.out.ri 0 5 64 (by omega) (by omega) (by omega)
  rw [List.drop_zero] at hri5
  have hq5 := (conv_ri hri5).trans (show Result.ok (Value.string (strOfNums (zs.take 5))) w0 = .ok (.string ⟨#[115, 116, 114, 100, 1]⟩) w0 from by rw [h2]; rfl)
  have HD23 := Lib.hid (show (zs.drop 41).length = 23 from by simp [hl])
  have HRQ := Lib.hid (show (!decide (zs.drop 41 = z23)) = false from by simpa using h3)
  clear hri5
  obtain ⟨m, hm⟩ : ∃ m, maskS (ofS (zs.take 37)) = m := ⟨_, rfl⟩
  have HSU := Lib.hid (fun w ht => hsum_any (w := w) ht zs hl hb hm)
  have HBQ := Lib.hid (show decide ((zs.drop 37).take 4 = putL m 4) = true from by rw [← hm]; simpa using h4)
  have HPB := Lib.hid (show isB ((zs.drop 37).take 4) from (hb.drop 37).take 4)
  clear hm
  have HRD := Lib.hid (fun w => hread_any zs hl hb w)
  have HRT := Lib.hid (readH_typed hb)
  have HOK : Hid (∀ w, Calls Tryz.prog 26 #[.agg (hv (readH zs))] w fun r w' => r = .returned (.bool false) ∧ Below w.heap.size w w') := Lib.hid fun w => by rw [← h5]; exact hright_any _ (readH_typed hb) w
  clear hl hb hT hs1 h1 h2 h3 h4 h5
  go_enter Tryz.func75, Tryz.ntmps75
  go_wp2_with (first
    | (refine wpl_load_sec (by rfl) (.tmp 1) rfl w.heap.size rfl zs HK.out ?_)
    | (refine wpl_build_z rfl (by rfl) ?_)
    | (refine wpl_eq_sec (.tmp 6) (.tmp 7) _ rfl zs z64 HL.out z64_length rfl rfl (by rfl) ?_; rw [HEQ.out])
    | (refine wpl_ptr_rest (.tmp 15) rfl _ _ _ rfl (by omega) (by rfl) ?_)
    | (refine wpl_load_rest (.tmp 16) rfl rfl HK.out (by rfl) ?_)
    | (refine wpl_build_rest rfl (by rfl) ?_)
    | (refine wpl_neq_rest (.tmp 17) (.tmp 18) _ rfl (zs.drop 41) z23 HD23.out z23_length rfl rfl (by rfl) ?_; rw [HRQ.out]))
  go_wp2_with fail
  refine wp_region_held_drew (S := (fun w' => Blk w' w.heap.size zs ∧ HB w' (w.heap.size + 1) noH ∧ Below w.heap.size w w')) (by kernel_rfl) ⟨HK.out, HRB.out, HW.out.drew⟩ (fun hS => ?_)
  refine rgw 0 ⟨some 23, .slice 60 (.tmp 1) (some (.const (.int .i64 37))) (some (.const (.int .i64 41))) none, 43, _, _, none⟩ hS ?_
  refine rgw 1 ⟨some 24, .load 60 (.tmp 1), 60, _, _, none⟩ hS ?_ (hy := by intro w hSw; (try dsimp only at hSw); refine exec_load_sec (.tmp 1) ?_ ?_ hSw.1 <;> rfl)
  refine rg_one 2 ⟨some 25, .call { callee := .value (.func 101), args := #[.tmp 24], argTypes := #[60] }, 43, _, _, none⟩ (by kernel_rfl) rfl (fun K hK => ?_)
  go_simp
  (go_at_call 101; (refine (HSU.out _ (HT.out.keep hS.2.2)).mono ?_); rintro r w3 ⟨p3, rfl, ho, hb⟩; have HR3 := Lib.hid (RI.own ho); clear ho)
  refine hK.out _ _ ?_ (fun hS1 => ?_)
  · (first | exact hS | exact ⟨hS.1.keep hb, hS.2.1.keep hb, bch hS.2.2 hb⟩)
  clear hK K hS; have hS := hS1; clear hS1
  (try simp only [rgp])
  refine rg_one 3 ⟨some 26, .call { callee := .value (.func 100), args := #[.tmp 23, .tmp 25], argTypes := #[43, 43] }, 4, _, _, none⟩ (by kernel_rfl) rfl (fun K hK => ?_)
  go_simp
  (go_at_call 100; (refine (bequal_any _ _ 4 4 _ _ _ (hS.1.ri 37 4 27 (by omega) (by omega) (by omega)) HR3.out HPB.out (putL_isB _ _)).mono ?_); rintro r w4 ⟨rfl, rfl⟩; rw [HBQ.out])
  refine hK.out _ _ ?_ (fun hS1 => ?_)
  · (first | exact hS | exact ⟨hS.1.keep hb, hS.2.1.keep hb, bch hS.2.2 hb⟩)
  clear hK K hS; have hS := hS1; clear hS1
  (try simp only [rgp])
  refine rgw 4 ⟨some 27, .unOp .not 4 (.tmp 26), 4, _, _, none⟩ hS ?_
  refine rgw 5 ⟨some 22, .assign (.tmp 27), 4, _, _, none⟩ hS ?_
  refine wpAnyH_done (by kernel_rfl) ?_ _
  have HK3 := Lib.hid hS.1
  have HRB3 := Lib.hid hS.2.1
  have HW3 := Lib.hid hS.2.2
  clear hS
  go_wp2_with (first
    | (refine wpl_load_sec (by rfl) (.tmp 1) rfl w.heap.size rfl zs HK3.out ?_)
    | (go_at_call 102; (with_reducible refine (HRD.out _).mono ?_); rintro r w5 ⟨rfl, hb5⟩; have HRB5 := Lib.hid (HRB3.out.keep hb5); have HW5 := Lib.hid (bch HW3.out hb5); clear hb5)
    | (refine wpl_put_hd rfl (.tmp 4) (.tmp 30) rfl w5.heap.size noH (readH zs) (HB.new w5 noH rfl) rfl rfl rfl ?_; intro w7 HA7 HG7; have HL5 := Lib.hid (HRB5.out.lt); have HRB7 := Lib.hid ((HRB5.out.keep (balloc w5 _)).over HG7.out (by have := HL5.out; omega)); have HW7 := Lib.hid (hbelow_grown (bch HW5.out (balloc w5 _)) HG7.out HW5.out.size (Nat.le_trans HW5.out.size (balloc w5 _).size)))
    | (refine wpl_load_hd (by rfl) (.tmp 4) rfl rfl HA8.out ?_)
    | (refine wpl_load_hd (by rfl) (.tmp 4) rfl rfl HA7.out ?_)
    | (go_at_call 26; (with_reducible refine (HOK.out _).mono ?_); rintro r w8 ⟨rfl, hb8⟩; have HA8 := Lib.hid (HA7.out.keep hb8); have HRB8 := Lib.hid (HRB7.out.keep hb8); have HW8 := Lib.hid (bch HW7.out hb8); clear hb8)
    | (refine wpl_put_hd rfl (.tmp 2) (.tmp 34) rfl (w.heap.size + 1) noH noH HRB8.out rfl rfl rfl ?_; intro wf HOF HGF))
  refine bodyPost_ret_by (results_row_tmp rfl _ _ (w.heap.size + 1) _ rfl HOF.out.load) rfl ⟨rfl, hbelow_grown HW8.out HGF.out (by omega) HW8.out.size⟩
set_option maxRecDepth 8000 in
set_option maxHeartbeats 4000000 in
theorem hdec_ok (zs : List Int) (hl : zs.length = 64) (hb : isB zs) (w : World) (hT : Tab w) (h1 : ¬ zs = z64) (h2 : zs.take 5 = mark) (h3 : zs.drop 41 = z23) (h4 : (zs.drop 37).take 4 = putL (maskS (ofS (zs.take 37))) 4) (h5 : hdOk (readH zs) = true) :
    Calls Tryz.prog 75 #[.agg (sv zs)] w fun r w' => r = .returned (.tuple #[.agg (hv (readH zs)), .int .i64 0]) ∧ Below w.heap.size w w' := by
  obtain ⟨w0, hw0⟩ : ∃ q, (w.alloc (.cells (sv zs) 60)).alloc (.cells #[.int .u64 0, .int .i64 0, .int .i64 0, .int .i64 0, .int .i64 0, .int .i64 0, .int .i64 0] 30) = q := ⟨_, rfl⟩
  have hs1 : (w.alloc (.cells (sv zs) 60)).heap.size = w.heap.size + 1 := alloc_size w _
  have HK := Lib.hid (show Blk w0 w.heap.size zs from by rw [← hw0]; exact (Blk.new w zs hl).keep (balloc _ _))
  have HRB := Lib.hid (show HB w0 (w.heap.size + 1) noH from by rw [← hw0, ← hs1]; exact HB.new _ noH rfl)
  have HW := Lib.hid (show Below w.heap.size w w0 from by rw [← hw0]; exact bch (balloc w _) (balloc _ _))
  have HSZ := Lib.hid (show w0.heap.size = w.heap.size + 2 from by rw [← hw0, alloc_size, hs1])
  have HT := Lib.hid hT
  have HL := Lib.hid hl
  have HZB := Lib.hid hb
  have HEQ := Lib.hid (show decide (zs = z64) = false from by simpa using h1)
  have hri5 := HK.out.ri 0 5 64 (by omega) (by omega) (by omega)
  rw [List.drop_zero] at hri5
  have hq5 := (conv_ri hri5).trans (show Result.ok (Value.string (strOfNums (zs.take 5))) w0 = .ok (.string ⟨#[115, 116, 114, 100, 1]⟩) w0 from by rw [h2]; rfl)
  have HD23 := Lib.hid (show (zs.drop 41).length = 23 from by simp [hl])
  have HRQ := Lib.hid (show (!decide (zs.drop 41 = z23)) = false from by simpa using h3)
  clear hri5
  obtain ⟨m, hm⟩ : ∃ m, maskS (ofS (zs.take 37)) = m := ⟨_, rfl⟩
  have HSU := Lib.hid (fun w ht => hsum_any (w := w) ht zs hl hb hm)
  have HBQ := Lib.hid (show decide ((zs.drop 37).take 4 = putL m 4) = true from by rw [← hm]; simpa using h4)
  have HPB := Lib.hid (show isB ((zs.drop 37).take 4) from (hb.drop 37).take 4)
  clear hm
  have HRD := Lib.hid (fun w => hread_any zs hl hb w)
  have HRT := Lib.hid (readH_typed hb)
  have HOK : Hid (∀ w, Calls Tryz.prog 26 #[.agg (hv (readH zs))] w fun r w' => r = .returned (.bool true) ∧ Below w.heap.size w w') := Lib.hid fun w => by rw [← h5]; exact hright_any _ (readH_typed hb) w
  clear hl hb hT hs1 h1 h2 h3 h4 h5
  go_enter Tryz.func75, Tryz.ntmps75
  go_wp2_with (first
    | (refine wpl_load_sec (by rfl) (.tmp 1) rfl w.heap.size rfl zs HK.out ?_)
    | (refine wpl_build_z rfl (by rfl) ?_)
    | (refine wpl_eq_sec (.tmp 6) (.tmp 7) _ rfl zs z64 HL.out z64_length rfl rfl (by rfl) ?_; rw [HEQ.out])
    | (refine wpl_ptr_rest (.tmp 15) rfl _ _ _ rfl (by omega) (by rfl) ?_)
    | (refine wpl_load_rest (.tmp 16) rfl rfl HK.out (by rfl) ?_)
    | (refine wpl_build_rest rfl (by rfl) ?_)
    | (refine wpl_neq_rest (.tmp 17) (.tmp 18) _ rfl (zs.drop 41) z23 HD23.out z23_length rfl rfl (by rfl) ?_; rw [HRQ.out]))
  go_wp2_with fail
  refine wp_region_held_drew (S := (fun w' => Blk w' w.heap.size zs ∧ HB w' (w.heap.size + 1) noH ∧ Below w.heap.size w w')) (by kernel_rfl) ⟨HK.out, HRB.out, HW.out.drew⟩ (fun hS => ?_)
  refine rgw 0 ⟨some 23, .slice 60 (.tmp 1) (some (.const (.int .i64 37))) (some (.const (.int .i64 41))) none, 43, _, _, none⟩ hS ?_
  refine rgw 1 ⟨some 24, .load 60 (.tmp 1), 60, _, _, none⟩ hS ?_ (hy := by intro w hSw; (try dsimp only at hSw); refine exec_load_sec (.tmp 1) ?_ ?_ hSw.1 <;> rfl)
  refine rg_one 2 ⟨some 25, .call { callee := .value (.func 101), args := #[.tmp 24], argTypes := #[60] }, 43, _, _, none⟩ (by kernel_rfl) rfl (fun K hK => ?_)
  go_simp
  (go_at_call 101; (refine (HSU.out _ (HT.out.keep hS.2.2)).mono ?_); rintro r w3 ⟨p3, rfl, ho, hb⟩; have HR3 := Lib.hid (RI.own ho); clear ho)
  refine hK.out _ _ ?_ (fun hS1 => ?_)
  · (first | exact hS | exact ⟨hS.1.keep hb, hS.2.1.keep hb, bch hS.2.2 hb⟩)
  clear hK K hS; have hS := hS1; clear hS1
  (try simp only [rgp])
  refine rg_one 3 ⟨some 26, .call { callee := .value (.func 100), args := #[.tmp 23, .tmp 25], argTypes := #[43, 43] }, 4, _, _, none⟩ (by kernel_rfl) rfl (fun K hK => ?_)
  go_simp
  (go_at_call 100; (refine (bequal_any _ _ 4 4 _ _ _ (hS.1.ri 37 4 27 (by omega) (by omega) (by omega)) HR3.out HPB.out (putL_isB _ _)).mono ?_); rintro r w4 ⟨rfl, rfl⟩; rw [HBQ.out])
  refine hK.out _ _ ?_ (fun hS1 => ?_)
  · (first | exact hS | exact ⟨hS.1.keep hb, hS.2.1.keep hb, bch hS.2.2 hb⟩)
  clear hK K hS; have hS := hS1; clear hS1
  (try simp only [rgp])
  refine rgw 4 ⟨some 27, .unOp .not 4 (.tmp 26), 4, _, _, none⟩ hS ?_
  refine rgw 5 ⟨some 22, .assign (.tmp 27), 4, _, _, none⟩ hS ?_
  refine wpAnyH_done (by kernel_rfl) ?_ _
  have HK3 := Lib.hid hS.1
  have HRB3 := Lib.hid hS.2.1
  have HW3 := Lib.hid hS.2.2
  clear hS
  go_wp2_with (first
    | (refine wpl_load_sec (by rfl) (.tmp 1) rfl w.heap.size rfl zs HK3.out ?_)
    | (go_at_call 102; (with_reducible refine (HRD.out _).mono ?_); rintro r w5 ⟨rfl, hb5⟩; have HRB5 := Lib.hid (HRB3.out.keep hb5); have HW5 := Lib.hid (bch HW3.out hb5); clear hb5)
    | (refine wpl_put_hd rfl (.tmp 4) (.tmp 30) rfl w5.heap.size noH (readH zs) (HB.new w5 noH rfl) rfl rfl rfl ?_; intro w7 HA7 HG7; have HL5 := Lib.hid (HRB5.out.lt); have HRB7 := Lib.hid ((HRB5.out.keep (balloc w5 _)).over HG7.out (by have := HL5.out; omega)); have HW7 := Lib.hid (hbelow_grown (bch HW5.out (balloc w5 _)) HG7.out HW5.out.size (Nat.le_trans HW5.out.size (balloc w5 _).size)))
    | (refine wpl_load_hd (by rfl) (.tmp 4) rfl rfl HA8.out ?_)
    | (refine wpl_load_hd (by rfl) (.tmp 4) rfl rfl HA7.out ?_)
    | (go_at_call 26; (with_reducible refine (HOK.out _).mono ?_); rintro r w8 ⟨rfl, hb8⟩; have HA8 := Lib.hid (HA7.out.keep hb8); have HRB8 := Lib.hid (HRB7.out.keep hb8); have HW8 := Lib.hid (bch HW7.out hb8); clear hb8)
    | (refine wpl_put_hd rfl (.tmp 2) (.tmp 35) rfl (w.heap.size + 1) noH (readH zs) HRB8.out rfl rfl rfl ?_; intro wf HOF HGF))
  refine bodyPost_ret_by (results_row_tmp rfl _ _ (w.heap.size + 1) _ rfl HOF.out.load) rfl ⟨rfl, hbelow_grown HW8.out HGF.out (by omega) HW8.out.size⟩
theorem hdec_any (zs : List Int) (hl : zs.length = 64) (hb : isB zs) (w : World) (hT : Tab w) {h : Hdr} {x : Int} (hd : headD zs = (h, x)) :
    Calls Tryz.prog 75 #[.agg (sv zs)] w fun r w' => r = .returned (.tuple #[.agg (hv h), .int .i64 x]) ∧ Below w.heap.size w w' := by
  rcases headD_cases (zs := zs) with ⟨h1, e⟩ | ⟨h1, h2, e⟩ | ⟨h1, h2, h3, h4, e⟩ | ⟨h1, h2, h3, h4, h5, e⟩ | ⟨h1, h2, h3, h4, h5, e⟩ <;> (rw [hd] at e; obtain ⟨rfl, rfl⟩ := Prod.mk.inj e)
  · exact hdec_none zs hl hb w hT h1
  · by_cases hm : zs.take 5 = mark
    · exact hdec_rest zs hl hb w hT h1 hm (fun q => (h2.elim (fun k => k hm) (fun k => k q)))
    · exact hdec_mark zs hl hb w hT h1 hm
  · exact hdec_sum zs hl hb w hT h1 h2 h3 h4
  · exact hdec_wrong zs hl hb w hT h1 h2 h3 h4 h5
  · exact hdec_ok zs hl hb w hT h1 h2 h3 h4 h5
end Go.Proofs.YtgegbpnmfpjdmaaGreatDoor
