/-
  TEXTS JOINED: SegPrep, WrCode, WrNew, WrCrashM, WrRef, SegBegin, SegLits. Each one's own words stand at its head.
-/
import Derived.Test.YtgegbpnmfpjdmaaGreatDoorJ19
import Derived.Defers
import Derived.Test.YtgegbpnmfpjdmaaGreatDoorJ10
import Derived.Test.YtgegbpnmfpjdmaaGreatDoorJ14
import Derived.Test.YtgegbpnmfpjdmaaGreatDoorJ17
import Derived.Test.YtgegbpnmfpjdmaaGreatDoorJ13
import Derived.Test.YtgegbpnmfpjdmaaGreatDoorJ18
import Derived.Lib.MinMax
import Derived.Test.YtgegbpnmfpjdmaaGreatDoorJ20
import Derived.Test.YtgegbpnmfpjdmaaGreatDoorJ6
import Derived.Test.YtgegbpnmfpjdmaaGreatDoorJ22
namespace Go.Proofs.YtgegbpnmfpjdmaaGreatDoor
open Go.RowKit
variable {DK : World → Addr → (Nat → Bool) → AD → Prop}
theorem mf_seg (P : Program) : ∀ (fn : Fn) (first cap : Array Value) (w : World), (Instr.makeFunc fn first cap).run P w = .ok (.func fn first cap) w := fun _ _ _ _ => rfl
theorem OB.sub {W0 : World} {F : Nat → Bool} {w : World} {p : Addr} {F1 : Nat → Bool} {d : AD} {l l' : List (Nat × Obj)} {W : World} (h : OB DK W0 F w p F1 d l W) (hs : ∀ q ∈ l', q ∈ l) : OB DK W0 F w p F1 d l' W :=
  ⟨h.op, h.bx.sub hs, fun q hq => h.lo q (hs q hq), h.h0⟩
theorem ssync_of (H : DiskSays DK) {d d2 : AD} {s : ByteArray} {e2 : Int} (hg : Good d) (hs : s.size ≤ 281474976710656) (h : d.syncR s = (d2, e2)) : Hid (∀ w p F, DK w p F d → Calls Tryz.prog 39 #[ptr p, .string s] w fun e w' => ∃ F', e = .returned (.int .i64 e2) ∧ DK w' p F' d2 ∧ Ext F w w' F') :=
  Lib.hid fun w p F hk => by
    have := H.sync w p F d s hk hg hs
    rwa [h] at this
theorem swrite_of (H : DiskSays DK) {d d2 : AD} {s : ByteArray} {e2 : Int} {l : List Int} (hg : Good d) (hs : s.size ≤ 281474976710656) (hb : Bytes l) (h : d.writeR s 0 17 l = (d2, e2)) : Hid (∀ w p F v, DK w p F d → FS (mask F w) v 17 l → Calls Tryz.prog 62 #[ptr p, .string s, .int .i64 0, v] w fun e w' => ∃ F', e = .returned (.int .i64 e2) ∧ DK w' p F' d2 ∧ Ext F w w' F') :=
  Lib.hid fun w p F v hk hf => by
    have := H.write w p F d s 0 v 17 l hk hg hs (by unfold I63; omega) hf hb (by omega)
    rwa [h] at this
theorem RW.mask {w : World} {g : Nat} {zs : List Int} {F : Nat → Bool} (h : RW w g zs) (hf : F g = false) : RW (mask F w) g zs := by
  unfold RW at *
  rw [mask_heap, h]; simp [hf]
abbrev L4 (c a b g : Nat) (p : Addr) (s : ByteArray) (x : Hdr) (v : Int) : List (Nat × Obj) := [(c, oC 32 (.int .i64 v)), (a, oC 26 (ptr p)), (b, oC 9 (.string s)), (g, oH x)]
theorem L4.cells {F : Nat → Bool} {W : World} {c a b g : Nat} {p : Addr} {s : ByteArray} {x : Hdr} {v : Int} (h : BX F W (L4 c a b g p s x v)) :
    W.cell? ⟨a, 0, none⟩ = some (ptr p) ∧ W.cell? ⟨b, 0, none⟩ = some (.string s) ∧ W.cell? ⟨c, 0, none⟩ = some (.int .i64 v) ∧ W.frozen? ⟨c, 0, none⟩ = false :=
  ⟨(h.one (g := a) (t := 26) (v := ptr p) (by simp [L4])).1, (h.one (g := b) (t := 9) (v := .string s) (by simp [L4])).1, (h.one (g := c) (t := 32) (v := .int .i64 v) (by simp [L4])).1, (h.one (g := c) (t := 32) (v := .int .i64 v) (by simp [L4])).2⟩
theorem kinfs (H : DiskSays DK) {W0 w : World} {p : Addr} {F F1 : Nat → Bool} {d : AD} {l : List (Nat × Obj)} {W w' : World} {g : Nat} {zs : List Int} (h : OB DK W0 F w p F1 d l W) (hr : RW w' g zs) (hl : zs.length = 17 * 64) (hg : W.heap.size ≤ g) : FS (mask F1 w') (.slice (some ⟨g, 0, none⟩) 17 17) 17 zs :=
  (hr.mask (foot_off (H.foot h.op.dk) hg)).fs hl (by omega)
theorem sprep1_sync (H : DiskSays DK) {d d2 : AD} {s : ByteArray} {e2 : Int} (hg : Good d) (hs : s.size ≤ 281474976710656) (hr : d.syncR s = (d2, e2)) (W0 w : World) (p : Addr) (F F1 : Nat → Bool) (c a b g : Nat) (hac : a ≠ c) (hbc : b ≠ c) (hgc : g ≠ c) (x : Hdr) (u : FrameMode) (W : World)
    (h : OB DK W0 F w p F1 d (L4 c a b g p s x 0) W) :
    CallsD Tryz.prog 61 #[.pointer (some ⟨c, 0, none⟩), .pointer (some ⟨a, 0, none⟩), .pointer (some ⟨b, 0, none⟩)] u W fun e u' w' => u' = u ∧ (e = .returned (.tuple #[]) ∧ ∃ F2, OB DK W0 F w p F2 d2 (L4 c a b g p s x e2) w') := by
  have hH := Lib.hid H
  have HO := Lib.hid h
  have HSY := ssync_of H hg hs hr
  obtain ⟨c1, c2, c0, f0⟩ := L4.cells h.bx
  clear h hg hr
  go_enter_d Tryz.func61, Tryz.ntmps61
  go_wp2_with (first
    | (go_at_call 39; (with_reducible refine (HSY.out _ _ _ HO.out.op.dk).mono ?_); rintro e w1 ⟨F2, rfl, hk, hx⟩; have HO1 := Lib.hid (HO.out.ext hk hx); obtain ⟨d1, d2, d0, g0⟩ := L4.cells HO1.out.bx; clear hk hx c0 c1 c2 f0))
  go_end0
  exact ⟨rfl, F2, HO1.out.set hH.out (by simp [hac, hbc, hgc]) _⟩
theorem sprep1_stop (s : ByteArray) (v : Int) (hv : v ≠ 0) (p : Addr) (F : Nat → Bool) (c a b g : Nat) (x : Hdr) (u : FrameMode) (W : World) (h : BX F W (L4 c a b g p s x v)) :
    CallsD Tryz.prog 61 #[.pointer (some ⟨c, 0, none⟩), .pointer (some ⟨a, 0, none⟩), .pointer (some ⟨b, 0, none⟩)] u W fun e u' w' => u' = u ∧ (e = .returned (.tuple #[]) ∧ w' = W) := by
  obtain ⟨c1, c2, c0, f0⟩ := L4.cells h
  have bv : (v == 0) = false := by simpa using hv
  clear h hv
  go_enter_d Tryz.func61, Tryz.ntmps61
  go_wp2
  go_end0
  exact ⟨rfl, rfl⟩
theorem OB.start4 (H : DiskSays DK) {W0 w : World} {p : Addr} {F : Nat → Bool} {d : AD} (h : DK w p F d) (hp : Pow W0) (hx0 : Ext (fun _ => false) W0 w F) (s : ByteArray) (x : Hdr) :
    OB DK W0 F w p F d (L4 (w.heap.size + 3) w.heap.size (w.heap.size + 1) (w.heap.size + 2) p s x 0) ((((w.alloc (oC 26 (ptr p))).alloc (oC 9 (.string s))).alloc (oH x)).alloc (oC 32 (.int .i64 0))) := by
  have h0 : OB DK W0 F w p F d [] w := ⟨⟨h, Ext.refl F w, hx0, hp⟩, BX.nil _ _, fun q hq => by simp at hq, hx0.size⟩
  have h1 := h0.alloc H (oC 26 (ptr p)) rfl
  have h2 := h1.alloc H (oC 9 (.string s)) (g := w.heap.size + 1) (by rw [alloc_size])
  have h3 := h2.alloc H (oH x) (g := w.heap.size + 2) (by rw [alloc_size, alloc_size])
  have h4 := h3.alloc H (oC 32 (.int .i64 0)) (g := w.heap.size + 3) (by rw [alloc_size, alloc_size, alloc_size])
  refine h4.sub fun q hq => ?_
  simp only [L4, List.mem_cons, List.not_mem_nil, or_false] at hq ⊢
  rcases hq with rfl | rfl | rfl | rfl <;> simp
theorem prep_found {d : AD} {s : ByteArray} {x : Hdr} {m : Nat} {fs : List Int} (hk : ¬ (hdOk x = false ∨ 16 < m)) {e : Int} (he : foundI d s = e) (h0 : e ≠ 0) : d.prepR s x m fs = (d, e) := by
  unfold AD.prepR
  rw [if_neg hk]
  unfold foundI at he
  split at he
  · rename_i h; rw [if_pos h, he]
  · rename_i h
    rw [if_neg h]
    split at he
    · rename_i h2; rw [if_pos h2, he]
    · exact absurd he.symm h0
theorem prep_there {d : AD} {s : ByteArray} {x : Hdr} {m : Nat} {fs : List Int} (hk : ¬ (hdOk x = false ∨ 16 < m)) (he : foundI d s = 0) {n : Int} (hn : szI d s = n) :
    d.prepR s x m fs = if n = 17 then d.laidR s (layL x m fs) else (d, 4) := by
  unfold AD.prepR
  rw [if_neg hk]
  unfold foundI at he
  split at he
  · simp at he
  rename_i h
  rw [if_neg h]
  split at he
  · simp at he
  rename_i h2
  rw [if_neg h2]
  unfold szI at hn
  rw [if_pos (Decidable.not_not.1 h2)] at hn
  by_cases h17 : (d.get s).n = 17
  · rw [if_neg (by simp [h17]), if_pos (by omega)]
  · rw [if_pos h17, if_neg (by omega)]
set_option maxRecDepth 8000 in
set_option maxHeartbeats 4000000 in
theorem sprep_any (H : DiskSays DK) (W0 w : World) (p : Addr) (F : Nat → Bool) (d : AD) (s : ByteArray) (x : Hdr) (v : Value) (m : Nat) (fs : List Int) (h : DK w p F d) (hg : Good d) (hv0 : VT W0) (hx0 : Ext (fun _ => false) W0 w F)
    (hs : s.size ≤ 281474976710656) (hx : HdT x) (hf : FS w v m fs) (hb : Bytes fs) (hm : m ≤ 1000000) :
    Calls Tryz.prog 32 #[ptr p, .string s, .agg (hv x), v] w fun e w' => ∃ F', e = .returned (.int .i64 (d.prepR s x m fs).2) ∧ DK w' p F' (d.prepR s x m fs).1 ∧ Ext F w w' F' := by
  have hH := Lib.hid H
  have hmf := mf_seg Tryz.prog
  have hst := OB.start4 H h hv0.vars.pow hx0 s x
  obtain ⟨w0, hw0⟩ : ∃ q, (((w.alloc (.cells #[ptr p] 26)).alloc (.cells #[.string s] 9)).alloc (.cells (hv x) 30)).alloc (.cells #[.int .i64 0] 32) = q := ⟨_, rfl⟩
  have hbw : Below w.heap.size w w0 := by rw [← hw0]; exact bch (bch (bch (balloc _ _) (balloc _ _)) (balloc _ _)) (balloc _ _)
  rw [show ((((w.alloc (oC 26 (ptr p))).alloc (oC 9 (.string s))).alloc (oH x)).alloc (oC 32 (.int .i64 0))) = w0 from hw0] at hst
  have HO := Lib.hid hst
  have HV := Lib.hid (hv0.ext hst.op.ex0)
  have HXN := Lib.hid hx.n
  have HHB := Lib.hid (hst.bx.hb hx.n (g := w.heap.size + 2) (by simp [L4]))
  have HF0 := Lib.hid (hf.keep hbw)
  obtain ⟨c1, c2, c0, f0⟩ := L4.cells hst.bx
  clear hst h hv0 hx0 hbw
  by_cases hk : hdOk x = false ∨ 16 < m
  · rw [show d.prepR s x m fs = (d, 13) from if_pos hk]
    have HLY : Hid (∀ w, Tab w → FS w v m fs → Calls Tryz.prog 59 #[.agg (hv x), v] w fun r w' => r = .returned (.tuple #[.slice none 0 0, .int .i64 13]) ∧ Below w.heap.size w w') := Lib.hid fun w hT hf => slay_no x hx v m fs w hT hf hm hk
    clear hg hx hf hb hk
    go_enter_defers Tryz.func32, Tryz.ntmps32
    go_wp2_with (first
      | (refine wpl_load_hd (by rfl) (.tmp 6) rfl rfl (show HB w0 (w.heap.size + 2) x from HHB.out) ?_)
      | (go_at_call 59; (with_reducible refine (HLY.out _ HV.out.tab HF0.out).mono ?_); rintro e w1 ⟨rfl, hb⟩; have HO1 := Lib.hid (HO.out.next hH.out hb); obtain ⟨p1, p2, p0, pf⟩ := L4.cells HO1.out.bx; clear c1 c2 c0 f0; clear hb))
    obtain ⟨z1, z2, z0, zf⟩ := L4.cells (HO1.out.set hH.out (by simp) _).bx
    exact ⟨_, results_errno rfl _ _ (w.heap.size + 3) _ rfl z0, F, rfl, (HO1.out.set hH.out (by simp) _).op.dk, (HO1.out.set hH.out (by simp) _).op.ex⟩
  have hm16 : m ≤ 16 := by omega
  have hkk : hdOk x = true := by
    cases hq : hdOk x with
    | true => rfl
    | false => exact absurd (.inl hq) hk
  obtain ⟨ly, hly⟩ : ∃ l, layL x m fs = l := ⟨_, rfl⟩
  have HLY : Hid (∀ w, Tab w → FS w v m fs → Calls Tryz.prog 59 #[.agg (hv x), v] w fun r w' => ∃ g, r = .returned (.tuple #[.slice (some ⟨g, 0, none⟩) 17 17, .int .i64 0]) ∧ RW w' g ly ∧ w.heap.size ≤ g ∧ Below w.heap.size w w') := Lib.hid fun w hT hf => by
    rw [← hly]; exact slay_ok x hx v m fs w hT hf hkk hm16
  have hlyl : ly.length = 17 * 64 := by rw [← hly]; exact layL_length hx.n hm16 hf.length
  have hlyb : Bytes ly := by rw [← hly]; exact layL_bytes x m hb
  have HLL := Lib.hid hlyl
  obtain ⟨e0, he0⟩ : ∃ e, foundI d s = e := ⟨_, rfl⟩
  have HFD := sfound_of H hg hs he0
  by_cases h00 : e0 = 0
  · subst h00
    obtain ⟨n, hn⟩ : ∃ n, szI d s = n := ⟨_, rfl⟩
    have HZ := psize_of H hg hs hn
    rw [prep_there hk he0 hn, hly]
    clear hk hkk hx hf hb hly he0 hn
    by_cases h17 : n = 17
    · rw [if_pos h17]
      subst h17
      have hgw := hg.write s 0 17 ly hlyl hlyb
      unfold AD.laidR
      obtain ⟨⟨d2, e2⟩, hr⟩ : ∃ r, d.writeR s 0 17 ly = r := ⟨_, rfl⟩
      have HWR := swrite_of H hg hs hlyb hr
      rw [hr] at hgw ⊢
      clear hr hlyb hlyl
      have hne : ∀ j, j < 3 → w.heap.size + j ≠ w.heap.size + 3 := by omega
      by_cases he : e2 = 0
      · subst he
        rw [if_pos rfl]
        obtain ⟨⟨d3, e3⟩, hr⟩ : ∃ r, d2.syncR s = r := ⟨_, rfl⟩
        have HDF := Lib.hid fun W F1 (hO : OB DK W0 F w p F1 d2 (L4 (w.heap.size + 3) w.heap.size (w.heap.size + 1) (w.heap.size + 2) p s x 0) W) => sprep1_sync H hgw hs hr W0 w p F F1 (w.heap.size + 3) w.heap.size (w.heap.size + 1) (w.heap.size + 2) (hne 0 (by omega)) (hne 1 (by omega)) (hne 2 (by omega)) x .returning W hO
        rw [show (d2, (0 : Int)).1 = d2 from rfl, hr]
        clear hr hgw hg
        go_enter_defers Tryz.func32, Tryz.ntmps32
        go_wp2_with (first
          | (refine wpl_load_hd (by rfl) (.tmp 6) rfl rfl (show HB w0 (w.heap.size + 2) x from HHB.out) ?_)
          | (go_at_call 59; (with_reducible refine (HLY.out _ HV.out.tab HF0.out).mono ?_); rintro e w1 ⟨g, rfl, hrw, hg1, hb⟩; have HFM1 := Lib.hid (kinfs hH.out HO.out hrw HLL.out hg1); have HO1 := Lib.hid (HO.out.next hH.out hb); obtain ⟨p1, p2, p0, pf⟩ := L4.cells HO1.out.bx; clear c1 c2 c0 f0; clear hb hrw)
          | (go_at_call 53; (with_reducible refine (HFD.out _ _ _ HO1.out.op.dk).mono ?_); rintro e w2 ⟨rfl, hb⟩; have HFM2 := Lib.hid (HFM1.out.kin (kin_mask hb)); have HO2 := Lib.hid (HO1.out.next hH.out hb); obtain ⟨q1, q2, q0, qf⟩ := L4.cells HO2.out.bx; clear p1 p2 p0 pf; clear hb)
          | (go_at_call 60; (with_reducible refine (HZ.out _ _ _ HO2.out.op.dk).mono ?_); rintro e w3 ⟨rfl, hb⟩; have HFM3 := Lib.hid (HFM2.out.kin (kin_mask hb)); have HO3 := Lib.hid (HO2.out.next hH.out hb); obtain ⟨r1, r2, r0, rf⟩ := L4.cells HO3.out.bx; clear q1 q2 q0 qf; clear hb)
          | (go_at_call 62; (with_reducible refine (HWR.out _ _ _ _ HO3.out.op.dk HFM3.out).mono ?_); rintro e w4 ⟨F4, rfl, hk4, hx4⟩; have HO4 := Lib.hid (HO3.out.ext hk4 hx4); obtain ⟨t1, t2, t0, tf⟩ := L4.cells HO4.out.bx; clear r1 r2 r0 rf; clear hk4 hx4))
        have HO5 := Lib.hid (HO4.out.set hH.out (by simp) (.int .i64 0))
        refine leaves_cons (f := 61) (args := #[.pointer (some ⟨w.heap.size + 3, 0, none⟩), .pointer (some ⟨w.heap.size, 0, none⟩), .pointer (some ⟨w.heap.size + 1, 0, none⟩)]) (by simp) (by simp [go_sem]) ?_
        refine (HDF.out _ _ HO5.out).mono ?_
        rintro e u' w6 ⟨rfl, rfl, F6, hO6⟩
        obtain ⟨z1, z2, z0, zf⟩ := L4.cells hO6.bx
        exact ⟨_, results_errno rfl _ _ (w.heap.size + 3) _ rfl z0, F6, rfl, hO6.op.dk, hO6.op.ex⟩
      · rw [if_neg (show ¬ (d2, e2).2 = 0 from he)]
        have hev : e2 ≠ 0 := he
        have HDF := Lib.hid fun W F1 (hO : BX F1 W (L4 (w.heap.size + 3) w.heap.size (w.heap.size + 1) (w.heap.size + 2) p s x e2)) => sprep1_stop s e2 hev p F1 (w.heap.size + 3) w.heap.size (w.heap.size + 1) (w.heap.size + 2) x .returning W hO
        clear hgw hg
        go_enter_defers Tryz.func32, Tryz.ntmps32
        go_wp2_with (first
          | (refine wpl_load_hd (by rfl) (.tmp 6) rfl rfl (show HB w0 (w.heap.size + 2) x from HHB.out) ?_)
          | (go_at_call 59; (with_reducible refine (HLY.out _ HV.out.tab HF0.out).mono ?_); rintro e w1 ⟨g, rfl, hrw, hg1, hb⟩; have HFM1 := Lib.hid (kinfs hH.out HO.out hrw HLL.out hg1); have HO1 := Lib.hid (HO.out.next hH.out hb); obtain ⟨p1, p2, p0, pf⟩ := L4.cells HO1.out.bx; clear c1 c2 c0 f0; clear hb hrw)
          | (go_at_call 53; (with_reducible refine (HFD.out _ _ _ HO1.out.op.dk).mono ?_); rintro e w2 ⟨rfl, hb⟩; have HFM2 := Lib.hid (HFM1.out.kin (kin_mask hb)); have HO2 := Lib.hid (HO1.out.next hH.out hb); obtain ⟨q1, q2, q0, qf⟩ := L4.cells HO2.out.bx; clear p1 p2 p0 pf; clear hb)
          | (go_at_call 60; (with_reducible refine (HZ.out _ _ _ HO2.out.op.dk).mono ?_); rintro e w3 ⟨rfl, hb⟩; have HFM3 := Lib.hid (HFM2.out.kin (kin_mask hb)); have HO3 := Lib.hid (HO2.out.next hH.out hb); obtain ⟨r1, r2, r0, rf⟩ := L4.cells HO3.out.bx; clear q1 q2 q0 qf; clear hb)
          | (go_at_call 62; (with_reducible refine (HWR.out _ _ _ _ HO3.out.op.dk HFM3.out).mono ?_); rintro e w4 ⟨F4, rfl, hk4, hx4⟩; have HO4 := Lib.hid (HO3.out.ext hk4 hx4); obtain ⟨t1, t2, t0, tf⟩ := L4.cells HO4.out.bx; clear r1 r2 r0 rf; clear hk4 hx4))
        have HO5 := Lib.hid (HO4.out.set hH.out (by simp) (.int .i64 e2))
        refine leaves_cons (f := 61) (args := #[.pointer (some ⟨w.heap.size + 3, 0, none⟩), .pointer (some ⟨w.heap.size, 0, none⟩), .pointer (some ⟨w.heap.size + 1, 0, none⟩)]) (by simp) (by simp [go_sem]) ?_
        refine (HDF.out _ _ HO5.out.bx).mono ?_
        rintro e u' w6 ⟨rfl, rfl, rfl⟩
        obtain ⟨z1, z2, z0, zf⟩ := L4.cells HO5.out.bx
        exact ⟨_, results_errno rfl _ _ (w.heap.size + 3) _ rfl z0, _, rfl, HO5.out.op.dk, HO5.out.op.ex⟩
    · rw [if_neg h17]
      have b17 : (n == 17) = false := by simpa using h17
      clear hg hlyb hlyl
      go_enter_defers Tryz.func32, Tryz.ntmps32
      go_wp2_with (first
        | (refine wpl_load_hd (by rfl) (.tmp 6) rfl rfl (show HB w0 (w.heap.size + 2) x from HHB.out) ?_)
        | (go_at_call 59; (with_reducible refine (HLY.out _ HV.out.tab HF0.out).mono ?_); rintro e w1 ⟨g, rfl, hrw, hg1, hb⟩; have HFM1 := Lib.hid (kinfs hH.out HO.out hrw HLL.out hg1); have HO1 := Lib.hid (HO.out.next hH.out hb); obtain ⟨p1, p2, p0, pf⟩ := L4.cells HO1.out.bx; clear c1 c2 c0 f0; clear hb hrw)
        | (go_at_call 53; (with_reducible refine (HFD.out _ _ _ HO1.out.op.dk).mono ?_); rintro e w2 ⟨rfl, hb⟩; have HFM2 := Lib.hid (HFM1.out.kin (kin_mask hb)); have HO2 := Lib.hid (HO1.out.next hH.out hb); obtain ⟨q1, q2, q0, qf⟩ := L4.cells HO2.out.bx; clear p1 p2 p0 pf; clear hb)
        | (go_at_call 60; (with_reducible refine (HZ.out _ _ _ HO2.out.op.dk).mono ?_); rintro e w3 ⟨rfl, hb⟩; have HFM3 := Lib.hid (HFM2.out.kin (kin_mask hb)); have HO3 := Lib.hid (HO2.out.next hH.out hb); obtain ⟨r1, r2, r0, rf⟩ := L4.cells HO3.out.bx; clear q1 q2 q0 qf; clear hb))
      obtain ⟨z1, z2, z0, zf⟩ := L4.cells (HO3.out.set hH.out (by simp) _).bx
      exact ⟨_, results_errno rfl _ _ (w.heap.size + 3) _ rfl z0, F, rfl, (HO3.out.set hH.out (by simp) _).op.dk, (HO3.out.set hH.out (by simp) _).op.ex⟩
  · rw [prep_found hk he0 h00]
    have be : (e0 == 0) = false := by simpa using h00
    clear hg hk hkk hx hf hb hly he0 hlyb hlyl
    go_enter_defers Tryz.func32, Tryz.ntmps32
    go_wp2_with (first
      | (refine wpl_load_hd (by rfl) (.tmp 6) rfl rfl (show HB w0 (w.heap.size + 2) x from HHB.out) ?_)
      | (go_at_call 59; (with_reducible refine (HLY.out _ HV.out.tab HF0.out).mono ?_); rintro e w1 ⟨g, rfl, hrw, hg1, hb⟩; have HFM1 := Lib.hid (kinfs hH.out HO.out hrw HLL.out hg1); have HO1 := Lib.hid (HO.out.next hH.out hb); obtain ⟨p1, p2, p0, pf⟩ := L4.cells HO1.out.bx; clear c1 c2 c0 f0; clear hb hrw)
      | (go_at_call 53; (with_reducible refine (HFD.out _ _ _ HO1.out.op.dk).mono ?_); rintro e w2 ⟨rfl, hb⟩; have HFM2 := Lib.hid (HFM1.out.kin (kin_mask hb)); have HO2 := Lib.hid (HO1.out.next hH.out hb); obtain ⟨q1, q2, q0, qf⟩ := L4.cells HO2.out.bx; clear p1 p2 p0 pf; clear hb))
    obtain ⟨z1, z2, z0, zf⟩ := L4.cells (HO2.out.set hH.out (by simp) _).bx
    exact ⟨_, results_errno rfl _ _ (w.heap.size + 3) _ rfl z0, F, rfl, (HO2.out.set hH.out (by simp) _).op.dk, (HO2.out.set hH.out (by simp) _).op.ex⟩
end Go.Proofs.YtgegbpnmfpjdmaaGreatDoor
namespace Go.Proofs.YtgegbpnmfpjdmaaGreatDoor
open Go.RowKit
variable {DK : World → Addr → (Nat → Bool) → AD → Prop}
abbrev wA (p : Addr) (s : ByteArray) (ep : Int) (bv : Value) (en : Int) : Array Value := #[ptr p, .string s, .int .u64 ep, bv, .int .i64 en]
abbrev wF3 (p : Addr) (s : ByteArray) (ep : Int) : Array Value := #[ptr p, .string s, .int .u64 ep]
abbrev wV (g : Nat) : Value := .slice (some ⟨g, 0, none⟩) 832 832
abbrev wP (b : Nat) : Value := .pointer (some ⟨b, 0, none⟩)
def WO (w : World) (b : Nat) (p : Addr) (s : ByteArray) (ep : Int) (bv : Value) (en : Int) : Prop := w.heap[b]? = some (.cells (wA p s ep bv en) 80 (0, 0))
section
variable {w w' : World} {b : Nat} {p : Addr} {s : ByteArray} {ep en : Int} {bv : Value}
theorem WO.lt (h : WO w b p s ep bv en) : b < w.heap.size := (Array.getElem?_eq_some_iff.1 h).1
theorem WO.keep (h : WO w b p s ep bv en) (hb : Below w.heap.size w w') : WO w' b p s ep bv en := (hb.block b h.lt).trans h
theorem WO.cells (h : WO w b p s ep bv en) : w.cell? ⟨b, 0, none⟩ = some (ptr p) ∧ w.cell? ⟨b, 1, none⟩ = some (.string s) ∧ w.cell? ⟨b, 2, none⟩ = some (.int .u64 ep) ∧ w.cell? ⟨b, 3, none⟩ = some bv ∧ w.cell? ⟨b, 4, none⟩ = some (.int .i64 en) :=
  ⟨cell_of_row w b 0 _ _ _ h, cell_of_row w b 1 _ _ _ h, cell_of_row w b 2 _ _ _ h, cell_of_row w b 3 _ _ _ h, cell_of_row w b 4 _ _ _ h⟩
theorem WO.frozen (h : WO w b p s ep bv en) (j : Nat) : w.frozen? ⟨b, j, none⟩ = false := Joins.unfrozen_of_block h j
theorem WO.set3 (h : WO w b p s ep bv en) (x : Value) : WO (w.setCell ⟨b, 3, none⟩ x) b p s ep x en := Joins.block_setCell h _
theorem WO.set4 (h : WO w b p s ep bv en) (x : Int) : WO (w.setCell ⟨b, 4, none⟩ (.int .i64 x)) b p s ep bv x := Joins.block_setCell h _
end
def orB (F : Nat → Bool) (b : Nat) : Nat → Bool := fun k => F k || decide (k = b)
theorem orB_f {F : Nat → Bool} {b k : Nat} (h : orB F b k = false) : F k = false ∧ k ≠ b := by simpa [orB] using h
theorem Ext.orB {F F' : Nat → Bool} {w w' : World} (h : Ext F w w' F') (b : Nat) : Ext (orB F b) w w' (orB F' b) :=
  ⟨h.os, h.tape, h.output, h.size, fun k hk hf => h.block k hk (orB_f hf).1, fun k hk => by unfold Go.Proofs.YtgegbpnmfpjdmaaGreatDoor.orB; rw [h.foot k hk]⟩
theorem Ext.setB {F F' : Nat → Bool} {w w' : World} {b : Nat} (h : Ext (Go.Proofs.YtgegbpnmfpjdmaaGreatDoor.orB F b) w w' (Go.Proofs.YtgegbpnmfpjdmaaGreatDoor.orB F' b)) (j : Nat) (v : Value) : Ext (Go.Proofs.YtgegbpnmfpjdmaaGreatDoor.orB F b) w (w'.setCell ⟨b, j, none⟩ v) (Go.Proofs.YtgegbpnmfpjdmaaGreatDoor.orB F' b) :=
  ⟨h.os, h.tape, h.output, by simpa using h.size, fun k hk hf => (heap_setCell_other w' ⟨b, j, none⟩ k v (orB_f hf).2).trans (h.block k hk hf), h.foot⟩
structure WS (DK : World → Addr → (Nat → Bool) → AD → Prop) (W0 : World) (p : Addr) (b : Nat) (s : ByteArray) (ep : Int) (B : List Int) (en : Nat) (d : AD) (F : Nat → Bool) (w : World) : Prop where
  dk : DK w p F d
  ex : Ext noF W0 w F
  lo : W0.heap.size ≤ b
  fb : F b = false
  wr : ∃ g, WO w b p s ep (wV g) en ∧ YB w g B ∧ F g = false ∧ g ≠ b
section
variable {W0 w w' : World} {p : Addr} {b : Nat} {s : ByteArray} {ep : Int} {B : List Int} {en : Nat} {d d' : AD} {F F' : Nat → Bool}
theorem WS.next (H : DiskSays DK) (h : WS DK W0 p b s ep B en d F w) (hb : Below w.heap.size w w') : WS DK W0 p b s ep B en d F w' :=
  ⟨H.below h.dk hb, h.ex.trans (Ext.below hb), h.lo, h.fb, by obtain ⟨g, h1, h2, h3⟩ := h.wr; exact ⟨g, h1.keep hb, h2.keep hb, h3⟩⟩
theorem WS.op (h : WS DK W0 p b s ep B en d F w) (hk : DK w' p F' d') (hx : Ext F w w' F') : WS DK W0 p b s ep B en d' F' w' := by
  obtain ⟨g, h1, h2, h3, h4⟩ := h.wr
  exact ⟨hk, h.ex.trans hx, h.lo, (hx.foot b h1.lt).trans h.fb, g, (hx.block b h1.lt h.fb).trans h1, (hx.block g h2.lt h3).trans h2, (hx.foot g h2.lt).trans h3, h4⟩
end
theorem swrite_to (H : DiskSays DK) {d d2 : AD} {s : ByteArray} {a : Int} {m : Nat} {l : List Int} (hg : Good d) (hs : s.size ≤ 281474976710656) (ha : I63 a) (hb : Bytes l) (hm : m ≤ 16) (h : d.writeR s a m l = (d2, 0)) :
    Hid (∀ w p F v, DK w p F d → FS (mask F w) v m l → Calls Tryz.prog 62 #[ptr p, .string s, .int .i64 a, v] w fun e w' => ∃ F', e = .returned (.int .i64 0) ∧ DK w' p F' d2 ∧ Ext F w w' F') :=
  Lib.hid fun w p F v hk hf => by
    have := H.write w p F d s a v m l hk hg hs ha hf hb (by omega)
    rwa [h] at this
theorem writeB_bytes (x : Int) {body : List Int} (h : Bytes body) (a : Nat) : ∀ k, Bytes (writeB x body a k)
  | 0 => fun j => by simp [writeB]
  | k + 1 => by
    rw [writeB]
    exact (writeB_bytes x h a k).app (sealed_bytes _ _ _ (by
      unfold partB
      exact isB_bytes (((bytes_isB h).drop _).take _)))
set_option maxRecDepth 8000 in
set_option maxHeartbeats 2000000 in
theorem fwrite_any (H : DiskSays DK) (p : Addr) (s : ByteArray) (hs : s.size ≤ 281474976710656) (ep : Int) (hep : U64 ep) (B : List Int) (hB : B.length = 832) (hbb : Bytes B) (en e2 : Nat) (hlt : en < e2) (h8 : e2 ≤ 832) (d d2 : AD) (hg : Good d)
    (hr : d.writeR s ((1 + en / 52 : Nat) : Int) ((e2 - 1) / 52 + 1 - en / 52) (writeB ep B (en / 52) ((e2 - 1) / 52 + 1 - en / 52)) = (d2, 0))
    (g : Nat) (F : Nat → Bool) (w : World) (hk : DK w p F d) (hy : YB w g B) :
    Calls Tryz.prog 37 #[.agg (wF3 p s ep), wV g, .int .i64 (en : Nat), .int .i64 (e2 : Nat)] w fun e w' => ∃ F', e = .returned (.int .i64 0) ∧ DK w' p F' d2 ∧ Ext F w w' F' := by
  have hH := Lib.hid H
  have HW := swrite_to H hg hs (by unfold I63; omega) (writeB_bytes ep hbb (en / 52) ((e2 - 1) / 52 + 1 - en / 52)) (by omega) hr
  have htc : touchN (nr (en : Nat)) (nr (e2 : Nat)) = (en / 52, (e2 - 1) / 52 + 1) := by rw [nr_nat en (by omega), nr_nat e2 h8]; exact if_pos hlt
  have HP : Hid (∀ w v, RI .u8 w v 832 B → Calls Tryz.prog 68 #[.int .u64 ep, v, .int .i64 (en : Nat), .int .i64 (e2 : Nat)] w fun e w' => ∃ q, e = .returned (.tuple #[.int .i64 ((en / 52 : Nat) : Int), .slice (some ⟨q, 0, none⟩) ((e2 - 1) / 52 + 1 - en / 52 : Nat) ((e2 - 1) / 52 + 1 - en / 52 : Nat)]) ∧ RW w' q (writeB ep B (en / 52) ((e2 - 1) / 52 + 1 - en / 52)) ∧ w.heap.size ≤ q ∧ Below w.heap.size w w') := Lib.hid fun w v h =>
    write_new ep hep v 832 B (by omega) (en : Nat) (e2 : Nat) (by unfold I63; omega) (by unfold I63; omega) w h (en / 52) ((e2 - 1) / 52 + 1 - en / 52) (by rw [htc]) (by rw [htc])
  have HL := Lib.hid (writeB_length ep B (en / 52) ((e2 - 1) / 52 + 1 - en / 52))
  obtain ⟨a, ha⟩ : ∃ a, en / 52 = a := ⟨_, rfl⟩
  obtain ⟨m, hm⟩ : ∃ m, (e2 - 1) / 52 + 1 - a = m := ⟨_, rfl⟩
  rw [ha, hm] at HP HL HW
  have hm16 : m ≤ 16 := by omega
  have ha16 : (a : Int) ≤ 16 := by omega
  obtain ⟨a1, ha1⟩ : ∃ a1 : Nat, (1 : Int) + (a : Int) = (a1 : Int) := ⟨1 + a, by omega⟩
  rw [show ((1 + a : Nat) : Int) = (a1 : Int) from by omega] at HW
  generalize writeB ep B a m = l at *
  obtain ⟨w0, hw0⟩ : ∃ q, w.alloc (.cells (wF3 p s ep) 78) = q := ⟨_, rfl⟩
  have HB0 := Lib.hid (show Below w.heap.size w w0 from by rw [← hw0]; exact balloc _ _)
  have hc : w0.heap[w.heap.size]? = some (.cells (wF3 p s ep) 78 (0, 0)) := by rw [← hw0]; exact heap_alloc_last w _
  have HK0 := Lib.hid (H.below hk HB0.out)
  have HY0 := Lib.hid ((hy.keep HB0.out).ri hB (by omega))
  have HF := Lib.hid (H.foot hk)
  have HC0 := Lib.hid hc
  have c0 := cell_of_row w0 w.heap.size 0 _ _ _ hc
  have c1 := cell_of_row w0 w.heap.size 1 _ _ _ hc
  have c2 := cell_of_row w0 w.heap.size 2 _ _ _ hc
  simp at c0 c1 c2
  clear hr htc hep hk hy hg hs hbb hc ha hm
  go_enter Tryz.func37, Tryz.ntmps37
  go_wp2_with (first
    | (go_at_call 68; (with_reducible refine (HP.out _ _ HY0.out).mono ?_); rintro e w1 ⟨q, rfl, hrw, hq, hb⟩; have HB1 := Lib.hid (bch HB0.out hb); have HK1 := Lib.hid (hH.out.below HK0.out hb); have HF1 := Lib.hid ((hrw.mask (foot_off HF.out (Nat.le_trans HB0.out.size hq))).fs HL.out (by omega)); have hc1 := (hb.block _ (Array.getElem?_eq_some_iff.1 HC0.out).1).trans HC0.out; have d0 := cell_of_row w1 w.heap.size 0 _ _ _ hc1; have d1 := cell_of_row w1 w.heap.size 1 _ _ _ hc1; simp at d0 d1; clear hrw hq hb hc1)
    | (go_at_call 62; (with_reducible refine (HW.out _ _ _ _ HK1.out HF1.out).mono ?_); rintro e w2 ⟨F2, rfl, hk, hx⟩; have HK2 := Lib.hid hk; have HX2 := Lib.hid ((Ext.below HB1.out).trans hx); clear hk hx))
  go_ret
  exact ⟨F2, rfl, HK2.out, HX2.out⟩
theorem WS.put (H : DiskSays DK) {W0 w : World} {p : Addr} {b : Nat} {s : ByteArray} {ep : Int} {B B2 : List Int} {en e2 g : Nat} {d : AD} {F : Nat → Bool} (h : WS DK W0 p b s ep B en d F w) (hy : YB w g B2) (hf : F g = false) (hgb : g ≠ b) :
    WS DK W0 p b s ep B2 e2 d F ((w.setCell ⟨b, 3, none⟩ (wV g)).setCell ⟨b, 4, none⟩ (.int .i64 (e2 : Nat))) := by
  obtain ⟨g0, h1, h2, h3, h4⟩ := h.wr
  have hn : ∀ k, k ≠ b → ((w.setCell ⟨b, 3, none⟩ (wV g)).setCell ⟨b, 4, none⟩ (.int .i64 (e2 : Nat))).heap[k]? = w.heap[k]? := fun k hk =>
    (heap_setCell_other _ ⟨b, 4, none⟩ k _ hk).trans (heap_setCell_other _ ⟨b, 3, none⟩ k _ hk)
  refine ⟨H.keep h.dk (by simp) fun k hk => hn k (by rintro rfl; rw [h.fb] at hk; cases hk), ?_, h.lo, h.fb, g, (h1.set3 _).set4 _, (hn g hgb).trans hy, hf, hgb⟩
  exact ⟨h.ex.os, h.ex.tape, h.ex.output, by simpa using h.ex.size, fun k hk hf => (hn k (by have := h.lo; omega)).trans (h.ex.block k hk hf), h.ex.foot⟩
theorem WS.bd {W0 w : World} {p : Addr} {b : Nat} {s : ByteArray} {ep : Int} {B : List Int} {en : Nat} {d : AD} {F : Nat → Bool} (h : WS DK W0 p b s ep B en d F w) : b < w.heap.size := h.wr.choose_spec.1.lt
theorem below_ext {F : Nat → Bool} {w w1 w2 : World} {F2 : Nat → Bool} (hb : Below w.heap.size w w1) (hx : Ext F w1 w2 F2) : Ext F w w2 F2 := (Ext.below hb).trans hx
set_option maxRecDepth 8000 in
set_option maxHeartbeats 2000000 in
theorem wappend_yes (H : DiskSays DK) (W0 : World) (p : Addr) (b : Nat) (s : ByteArray) (hs : s.size ≤ 281474976710656) (ep : Int) (hep : U64 ep) (B : List Int) (hB : B.length = 832) (hbb : Bytes B) (en : Nat) (hen : en ≤ 832) (d d2 : AD) (hg : Good d) (dv : Value) (n : Nat) (zs : List Int) (hzb : isB zs)
    (hfit : fitI (en : Nat) n = true) (e2 : Nat) (he2 : endI (en : Nat) n = e2) (B2 : List Int) (hB2 : layR (ep % 4294967296) B (en : Nat) zs = B2)
    (hr : d.writeR s ((1 + en / 52 : Nat) : Int) ((e2 - 1) / 52 + 1 - en / 52) (writeB ep B2 (en / 52) ((e2 - 1) / 52 + 1 - en / 52)) = (d2, 0)) (F : Nat → Bool) (w : World) (h : WS DK W0 p b s ep B en d F w) (ht : Tab w) (hri : RI .u8 w dv n zs) :
    Calls Tryz.prog 15 #[wP b, dv] w fun e w' => ∃ F', e = .returned (.tuple #[.int .i64 (beginN en : Nat), .int .i64 0]) ∧ WS DK W0 p b s ep B2 e2 d2 F' w' ∧ Ext (orB F b) w w' (orB F' b) := by
  have hH := Lib.hid H
  have hen63 : I63 (en : Nat) := by unfold I63; omega
  have hgt := end_gt hfit
  rw [nr_nat _ hen, he2] at hgt
  have hB2l : B2.length = 832 := by rw [← hB2]; exact layR_len hB
  have hB2b : Bytes B2 := by rw [← hB2]; exact isB_bytes (layR_bytes (bytes_isB hbb) hzb)
  obtain ⟨da, dc, rfl, _⟩ := id hri
  have HADD : Hid (∀ w v, Tab w → RI .u8 w v 832 B → RI .u8 w (.slice da n dc) n zs → Calls Tryz.prog 36 #[.int .u64 ep, v, .int .i64 (en : Nat), .slice da n dc] w fun e w' => ∃ g, e = .returned (.tuple #[wV g, .int .i64 (e2 : Nat), .bool true]) ∧ YB w' g B2 ∧ w.heap.size ≤ g ∧ Below w.heap.size w w') := Lib.hid fun w v q1 q2 q3 => by
    have := add_fit ep (en : Nat) hen63 v 832 B (.slice da n dc) n zs hzb w q1 q2 q3 hfit
    rwa [pad8_full hB, hB2, he2] at this
  have HWR : Hid (∀ g F w, DK w p F d → YB w g B2 → Calls Tryz.prog 37 #[.agg (wF3 p s ep), wV g, .int .i64 (en : Nat), .int .i64 (e2 : Nat)] w fun e w' => ∃ F', e = .returned (.int .i64 0) ∧ DK w' p F' d2 ∧ Ext F w w' F') := Lib.hid fun g F w q1 q2 =>
    fwrite_any H p s hs ep hep B2 hB2l hB2b en e2 hgt.1 hgt.2 d d2 hg hr g F w q1 q2
  have HBG : Hid (∀ w, Calls Tryz.prog 38 #[.int .i64 (en : Nat)] w fun e w' => e = .returned (.int .i64 (beginN en : Int)) ∧ Below w.heap.size w w') := Lib.hid fun w => by
    have := begin_any (en : Nat) hen63 w
    rwa [nr_nat _ hen] at this
  generalize beginN en = bg at *
  have HS := Lib.hid h
  have HT := Lib.hid ht
  have HRI := Lib.hid hri
  obtain ⟨g0, ho, hy, hf0, hg0⟩ := id h.wr
  have HO := Lib.hid ho
  have HY := Lib.hid ((hy.keep (Below.refl _ _).drew).ri hB (by omega))
  have hcw := (ho.keep (Below.refl _ _).drew).cells
  clear hfit he2 hB2 hr hg hs hep hB hbb hzb hen63 hen hgt hB2l hB2b h ht hri ho hy hf0
  go_enter Tryz.func15, Tryz.ntmps15
  go_wp2_with fail
  refine wp_region_held_drew (S := (fun w' => w'.cell? ⟨b, 2, none⟩ = some (.int .u64 ep) ∧ w'.cell? ⟨b, 3, none⟩ = some (wV g0) ∧ w'.cell? ⟨b, 4, none⟩ = some (.int .i64 (en : Nat)))) (by kernel_rfl) ⟨hcw.2.2.1, hcw.2.2.2.1, hcw.2.2.2.2⟩ (fun hS => ?_)
  refine rgw 0 ⟨some 14, .move (.tmp 0), 34, _, _, none⟩ hS ?_
  refine rgw 1 ⟨some 15, .nilCheck (.tmp 14), 0, _, _, none⟩ hS ?_
  refine rgw 2 ⟨some 16, .fieldAddr 80 (.tmp 15) 0, 0, _, _, none⟩ hS ?_
  refine rgw 3 ⟨some 17, .fieldAddr 78 (.tmp 16) 2, 0, _, _, none⟩ hS ?_
  refine rgw 4 ⟨some 18, .load 22 (.tmp 17), 22, _, _, none⟩ hS ?_
  refine rgw 5 ⟨some 19, .move (.tmp 0), 34, _, _, none⟩ hS ?_
  refine rgw 6 ⟨some 20, .nilCheck (.tmp 19), 0, _, _, none⟩ hS ?_
  refine rgw 7 ⟨some 21, .fieldAddr 80 (.tmp 20) 1, 0, _, _, none⟩ hS ?_
  refine rgw 8 ⟨some 22, .load 43 (.tmp 21), 43, _, _, none⟩ hS ?_
  refine rgw 9 ⟨some 23, .move (.tmp 0), 34, _, _, none⟩ hS ?_
  refine rgw 10 ⟨some 24, .nilCheck (.tmp 23), 0, _, _, none⟩ hS ?_
  refine rgw 11 ⟨some 25, .fieldAddr 80 (.tmp 24) 2, 0, _, _, none⟩ hS ?_
  refine rgw 12 ⟨some 26, .load 3 (.tmp 25), 3, _, _, none⟩ hS ?_
  refine rgw 13 ⟨some 27, .move (.tmp 1), 43, _, _, none⟩ hS ?_
  refine rg_one 14 ⟨some 28, .call { callee := .value (.func 36), args := #[.tmp 18, .tmp 22, .tmp 26, .tmp 27], argTypes := #[22, 43, 3, 43] }, 85, _, _, none⟩ (by kernel_rfl) rfl (fun K hK => ?_)
  go_simp
  (go_at_call 36; (with_reducible refine (HADD.out _ _ (HT.out.keep (Below.refl _ _).drew) HY.out (HRI.out.keep (Below.refl _ _).drew)).mono ?_); rintro e w1 ⟨g1, rfl, hy, hg1, hb⟩; have HB1 := Lib.hid (bch (Below.refl _ _).drew hb); have HS1 := Lib.hid (HS.out.next hH.out HB1.out); have HY1 := Lib.hid hy; have HG1 := Lib.hid hg1; have hN := (HO.out.keep HB1.out).cells.2.2; clear hy hg1 hb)
  refine hK.out _ _ ?_ (fun hS1 => ?_)
  · (exact hN)
  clear hK K hS; have hS := hS1; clear hS1
  (try simp only [rgp])
  refine rgw 15 ⟨some 13, .move (.tmp 28), 85, _, _, none⟩ hS ?_
  refine rgw 16 ⟨some 29, .extract (.tmp 13) 0, 43, _, _, none⟩ hS ?_
  refine rgw 17 ⟨some 30, .extract (.tmp 13) 1, 3, _, _, none⟩ hS ?_
  refine rgw 18 ⟨some 31, .extract (.tmp 13) 2, 4, _, _, none⟩ hS ?_
  refine rgw 19 ⟨some 6, .assign (.tmp 29), 43, _, _, none⟩ hS ?_
  refine rgw 20 ⟨some 7, .assign (.tmp 30), 3, _, _, none⟩ hS ?_
  refine rgw 21 ⟨some 8, .assign (.tmp 31), 4, _, _, none⟩ hS ?_
  refine wpAnyH_done (by kernel_rfl) ?_ _
  have hc1 := (HO.out.keep (HB1.out.trans (Below.refl _ _).drew)).cells
  go_wp2_with fail
  refine wp_region_held_drew (S := (fun w' => w'.cell? ⟨b, 0, none⟩ = some (ptr p) ∧ w'.cell? ⟨b, 1, none⟩ = some (.string s) ∧ w'.cell? ⟨b, 2, none⟩ = some (.int .u64 ep) ∧ w'.cell? ⟨b, 4, none⟩ = some (.int .i64 (en : Nat)))) (by kernel_rfl) ⟨hc1.1, hc1.2.1, hc1.2.2.1, hc1.2.2.2.2⟩ (fun hS => ?_)
  refine rgw 0 ⟨some 34, .move (.tmp 0), 34, _, _, none⟩ hS ?_
  refine rgw 1 ⟨some 35, .nilCheck (.tmp 34), 0, _, _, none⟩ hS ?_
  refine rgw 2 ⟨some 36, .fieldAddr 80 (.tmp 35) 0, 0, _, _, none⟩ hS ?_
  refine rgw 3 ⟨some 37, .load 78 (.tmp 36), 78, _, _, none⟩ hS ?_
  refine rgw 4 ⟨some 38, .move (.tmp 6), 43, _, _, none⟩ hS ?_
  refine rgw 5 ⟨some 39, .move (.tmp 0), 34, _, _, none⟩ hS ?_
  refine rgw 6 ⟨some 40, .nilCheck (.tmp 39), 0, _, _, none⟩ hS ?_
  refine rgw 7 ⟨some 41, .fieldAddr 80 (.tmp 40) 2, 0, _, _, none⟩ hS ?_
  refine rgw 8 ⟨some 42, .load 3 (.tmp 41), 3, _, _, none⟩ hS ?_
  refine rgw 9 ⟨some 43, .move (.tmp 7), 3, _, _, none⟩ hS ?_
  refine rg_one 10 ⟨some 44, .call { callee := .value (.func 37), args := #[.tmp 37, .tmp 38, .tmp 42, .tmp 43], argTypes := #[78, 43, 3, 3] }, 32, _, _, none⟩ (by kernel_rfl) rfl (fun K hK => ?_)
  go_simp
  (go_at_call 37; (with_reducible refine (HWR.out _ _ _ (hH.out.below HS1.out.dk (Below.refl _ _).drew) (HY1.out.keep (Below.refl _ _).drew)).mono ?_); rintro e w2 ⟨F2, rfl, hk, hx⟩; have HX2 := Lib.hid (below_ext (Below.refl _ _).drew hx); have HS2 := Lib.hid ((HS1.out.next hH.out (Below.refl _ _).drew).op hk hx); have HY2 : Hid (YB w2 g1 B2) := Lib.hid ((HX2.out.block g1 HY1.out.lt (foot_off (hH.out.foot HS.out.dk) HG1.out)).trans HY1.out); have HFG2 := Lib.hid ((HX2.out.foot g1 HY1.out.lt).trans (foot_off (hH.out.foot HS.out.dk) HG1.out)); obtain ⟨r0, ro2, _⟩ := HS2.out.wr; have hN := (⟨ro2.cells.1, ro2.cells.2.1, ro2.cells.2.2.1, ro2.cells.2.2.2.2⟩ : w2.cell? ⟨b, 0, none⟩ = some (ptr p) ∧ w2.cell? ⟨b, 1, none⟩ = some (.string s) ∧ w2.cell? ⟨b, 2, none⟩ = some (.int .u64 ep) ∧ w2.cell? ⟨b, 4, none⟩ = some (.int .i64 (en : Nat))); have hc2 := ro2.cells.2.2.2.2; clear hk hx)
  refine hK.out _ _ ?_ (fun hS1 => ?_)
  · (exact hN)
  clear hK K hS; have hS := hS1; clear hS1
  (try simp only [rgp])
  refine rgw 11 ⟨some 9, .assign (.tmp 44), 32, _, _, none⟩ hS ?_
  refine wpAnyH_done (by kernel_rfl) ?_ _
  have HGB := Lib.hid (show g1 ≠ b from by have h1 : w.heap.size ≤ g1 := HG1.out; have := HS.out.bd; omega)
  go_wp2_with (first
    | (go_at_call 38; ((with_reducible refine (HBG.out _).mono ?_); rintro e w3 ⟨rfl, hb⟩; have HS3 := Lib.hid (HS2.out.next hH.out hb); have HY3 := Lib.hid (HY2.out.keep hb); have HX3 := Lib.hid (HX2.out.trans (Ext.below hb)); have hf3 := (ro2.keep hb).frozen 3; have hf4 := ((ro2.keep hb).set3 (wV g1)).frozen 4; have hc3 := (ro2.keep hb).cells.2.2.2.1; have hc4 := ((ro2.keep hb).set3 (wV g1)).cells.2.2.2.2; clear hb hc2)))
  go_ret2
  exact ⟨F2, rfl, HS3.out.put hH.out HY3.out HFG2.out HGB.out, (((Ext.below HB1.out).trans HX3.out).orB b).setB 3 _ |>.setB 4 _⟩
set_option maxRecDepth 8000 in
theorem wend_any {W0 : World} {p : Addr} {b : Nat} {s : ByteArray} {ep : Int} {B : List Int} {en : Nat} {d : AD} {F : Nat → Bool} {w : World} (h : WS DK W0 p b s ep B en d F w) :
    Calls Tryz.prog 13 #[wP b] w fun e w' => e = .returned (.int .i64 (en : Nat)) ∧ w = w' := by
  obtain ⟨g0, ho, _, _, _⟩ := h.wr
  have hc := ho.cells.2.2.2.2
  clear ho h
  go_enter Tryz.func13, Tryz.ntmps13
  go_wp2
  go_ret
  exact ⟨rfl, rfl⟩
set_option maxRecDepth 8000 in
theorem wsync_any (H : DiskSays DK) {W0 : World} {p : Addr} {b : Nat} {s : ByteArray} (hs : s.size ≤ 281474976710656) {ep : Int} {B : List Int} {en : Nat} {d d2 : AD} (hg : Good d) (hr : d.syncR s = (d2, 0)) {F : Nat → Bool} {w : World} (h : WS DK W0 p b s ep B en d F w) :
    Calls Tryz.prog 16 #[wP b] w fun e w' => ∃ F', e = .returned (.int .i64 0) ∧ WS DK W0 p b s ep B en d2 F' w' ∧ Ext (orB F b) w w' (orB F' b) := by
  have hH := Lib.hid H
  have HSY := ssync_of H hg hs hr
  have HS := Lib.hid h
  obtain ⟨g0, ho, _, _, _⟩ := h.wr
  have hcw := (ho.keep (Below.refl _ _).drew).cells
  clear ho h hr hg hs
  go_enter Tryz.func16, Tryz.ntmps16
  go_wp2_with fail
  refine wp_region_held_drew (S := (fun w' => w'.cell? ⟨b, 0, none⟩ = some (ptr p) ∧ w'.cell? ⟨b, 1, none⟩ = some (.string s))) (by kernel_rfl) ⟨hcw.1, hcw.2.1⟩ (fun hS => ?_)
  refine rgw 0 ⟨some 5, .move (.tmp 0), 34, _, _, none⟩ hS ?_
  refine rgw 1 ⟨some 6, .nilCheck (.tmp 5), 0, _, _, none⟩ hS ?_
  refine rgw 2 ⟨some 7, .fieldAddr 80 (.tmp 6) 0, 0, _, _, none⟩ hS ?_
  refine rgw 3 ⟨some 8, .fieldAddr 78 (.tmp 7) 0, 0, _, _, none⟩ hS ?_
  refine rgw 4 ⟨some 9, .load 26 (.tmp 8), 26, _, _, none⟩ hS ?_
  refine rgw 5 ⟨some 10, .move (.tmp 0), 34, _, _, none⟩ hS ?_
  refine rgw 6 ⟨some 11, .nilCheck (.tmp 10), 0, _, _, none⟩ hS ?_
  refine rgw 7 ⟨some 12, .fieldAddr 80 (.tmp 11) 0, 0, _, _, none⟩ hS ?_
  refine rgw 8 ⟨some 13, .fieldAddr 78 (.tmp 12) 1, 0, _, _, none⟩ hS ?_
  refine rgw 9 ⟨some 14, .load 9 (.tmp 13), 9, _, _, none⟩ hS ?_
  refine rg_one 10 ⟨some 15, .call { callee := .value (.func 39), args := #[.tmp 9, .tmp 14], argTypes := #[26, 9] }, 32, _, _, none⟩ (by kernel_rfl) rfl (fun K hK => ?_)
  go_simp
  (go_at_call 39; (with_reducible refine (HSY.out _ _ _ (hH.out.below HS.out.dk (Below.refl _ _).drew)).mono ?_); rintro e w2 ⟨F2, rfl, hk, hx⟩; have HX2 := Lib.hid (below_ext (Below.refl _ _).drew hx); have HS2 := Lib.hid ((HS.out.next hH.out (Below.refl _ _).drew).op hk hx); obtain ⟨r0, ro2, _⟩ := HS2.out.wr; have hN := (⟨ro2.cells.1, ro2.cells.2.1⟩ : w2.cell? ⟨b, 0, none⟩ = some (ptr p) ∧ w2.cell? ⟨b, 1, none⟩ = some (.string s)); clear hk hx)
  refine hK.out _ _ ?_ (fun hS1 => ?_)
  · (exact hN)
  clear hK K hS; have hS := hS1; clear hS1
  (try simp only [rgp])
  refine rgw 11 ⟨some 2, .assign (.tmp 15), 32, _, _, none⟩ hS ?_
  refine wpAnyH_done (by kernel_rfl) ?_ _
  go_wp2
  go_ret
  exact ⟨F2, rfl, HS2.out, HX2.out.orB b⟩
end Go.Proofs.YtgegbpnmfpjdmaaGreatDoor
namespace Go.Proofs.YtgegbpnmfpjdmaaGreatDoor
open Go.RowKit
variable {DK : World → Addr → (Nat → Bool) → AD → Prop}
section
variable {w : World} {o : Oper} {a : Act} {K : Act → World → Prop} {Q : Exit → Act → World → Prop}
theorem wp_box_wr (x : Operand) (ho : o.op = .box 80 x) (cs : Array Value) (hx : a.eval x = .agg cs)
    (h : ∀ w', Hid (w'.heap[w.heap.size]? = some (.cells cs 80 (0, 0))) → Hid (Below w.heap.size w w') → K (a.put o.dst (.pointer (some ⟨w.heap.size, 0, none⟩))) w') : Oper.wp Tryz.prog o a w K Q := by
  have h1 := h (w.alloc (.cells cs 80)) (heap_alloc_last w _) (balloc w _)
  unfold Oper.wp execOp
  simp only [ho, hx]
  simp [go_sem]
  exact h1
theorem wp_make_body (x y : Operand) (ho : o.op = Op.makeSlice 43 x y) (n : Nat) (hx : a.eval x = .int .i64 (n : Int)) (hy : a.eval y = .int .i64 (n : Int)) (hn : n ≤ 1000000)
    (h : ∀ g w', Hid (YB w' g (List.replicate n 0)) → Hid (w.heap.size ≤ g) → Hid (Below w.heap.size w w') → K (a.put o.dst (.slice (some ⟨g, 0, none⟩) n n)) w') : o.wp Tryz.prog a w K Q := by
  have hrun := make_bytes_run n (by omega) w
  unfold Oper.wp
  simp [execOp, ho, hx, hy, hrun, Result.andThen]
  exact h _ _ (heap_alloc_last w _) (Nat.le_refl _) (below_alloc w _)
end
theorem nr_min (n : Int) : min (max n 0) 832 = ((nr n : Nat) : Int) := by unfold nr; omega
set_option maxRecDepth 8000 in
set_option maxHeartbeats 2000000 in
theorem wnew_yes (H : DiskSays DK) (W0 w : World) (p : Addr) (F : Nat → Bool) (d : AD) (x : Hdr) (hx : HdT x) (s : ByteArray) (hw : walB x.s = s) (hs : s ≠ noS) (bv : Value) (bn : Nat) (bs : List Int) (hri : RI .u8 w bv bn bs) (en : Int) (hvv : Vars w) (hk : DK w p F d) (hx0 : Ext noF W0 w F) :
    Calls Tryz.prog 10 #[ptr p, .agg (hv x), bv, .int .i64 en] w fun e w' => ∃ b, e = .returned (wP b) ∧ WS DK W0 p b s x.e (pad8 bs) (nr en) d F w' ∧ w.heap.size ≤ b ∧ Below w.heap.size w w' := by
  have hH := Lib.hid H
  obtain ⟨w0, hw0⟩ : ∃ q, w.alloc (.cells (hv x) 30) = q := ⟨_, rfl⟩
  have HB0 := Lib.hid (show Below w.heap.size w w0 from by rw [← hw0]; exact balloc _ _)
  have hhb : w0.heap[w.heap.size]? = some (.cells (hv x) 30 (0, 0)) := by rw [← hw0]; exact heap_alloc_last w _
  have HHB := Lib.hid hhb
  have c1 : w0.cell? ⟨w.heap.size, 1, none⟩ = some (.int .i64 x.s) := by rw [cell_of_row w0 w.heap.size 1 _ _ _ hhb]; rfl
  have HWL := swal_of hx.s hw
  have HV0 := Lib.hid (hvv.on HB0.out)
  have HRI := Lib.hid hri
  have HK := Lib.hid hk
  have HX0 := Lib.hid hx0
  have HF := Lib.hid (H.foot hk)
  have HNR := Lib.hid (nr_min en)
  have b0 : (s.toList == ([] : List UInt8)) = false := str_empty hs
  obtain ⟨ba, bc, rfl, _⟩ := id hri
  clear hx hw hri hvv hk hx0 hs hhb
  go_enter Tryz.func10, Tryz.ntmps10
  go_wp2_with (first
    | (go_at_call 27; (with_reducible refine (HWL.out _ HV0.out).mono ?_); rintro e w1 ⟨rfl, hb⟩; have HB1 := Lib.hid (bch HB0.out hb); have HH1 := Lib.hid ((hb.block _ (Array.getElem?_eq_some_iff.1 HHB.out).1).trans HHB.out); clear hb c1))
  have HC1 := Lib.hid (show (World.drew w1).cell? ⟨w.heap.size, 0, none⟩ = some (.int .u64 x.e) from by rw [cell_of_row (World.drew w1) w.heap.size 0 _ _ _ HH1.out]; rfl)
  refine wp_region_held_drew (S := (fun w' => Below w1.heap.size w1 w' ∧ w'.cell? ⟨w.heap.size, 0, none⟩ = some (.int .u64 x.e))) (by kernel_rfl) ⟨(Below.refl _ _).drew, HC1.out⟩ (fun hS => ?_)
  refine rgw 0 ⟨some 20, .move (.tmp 0), 26, _, _, none⟩ hS ?_
  refine rgw 1 ⟨some 21, .move (.tmp 9), 9, _, _, none⟩ hS ?_
  refine rgw 2 ⟨some 22, .fieldAddr 30 (.tmp 5) 0, 0, _, _, none⟩ hS ?_
  refine rgw 3 ⟨some 23, .load 22 (.tmp 22), 22, _, _, none⟩ hS ?_
  refine rgw 4 ⟨some 24, .build 78 #[(0, .tmp 20), (1, .tmp 21), (2, .tmp 23)], 78, _, _, none⟩ hS ?_
  refine rg_one 5 ⟨some 25, .makeSlice 43 (.const (.int .i64 832)) (.const (.int .i64 832)), 43, _, _, none⟩ (by kernel_rfl) rfl (fun K hK => ?_)
  rw [if_pos (by rfl)]; refine wp_make_body _ _ rfl 832 rfl rfl (by omega) ?_; intro g2 w2 HY2 HG2 hb; have hN := (⟨bch hS.1 hb.out, cell_keep hb.out hS.2⟩ : Below w1.heap.size w1 w2 ∧ w2.cell? ⟨w.heap.size, 0, none⟩ = some (.int .u64 x.e)); have HB2 := Lib.hid (bch HB1.out hN.1); have HG2 := Lib.hid (Nat.le_trans hS.1.size HG2.out)
  refine hK.out _ _ ?_ (fun hS1 => ?_)
  · (exact hN)
  clear hK K hS; have hS := hS1; clear hS1
  (try simp only [rgp])
  refine rgw 6 ⟨some 26, .build 80 #[(0, .tmp 24), (1, .tmp 25)], 80, _, _, none⟩ hS ?_
  refine rg_one 7 ⟨some 27, .box 80 (.tmp 26), 34, _, _, none⟩ (by kernel_rfl) rfl (fun K hK => ?_)
  rw [if_pos (by rfl)]; refine wp_box_wr _ rfl (wA p s x.e (wV g2) 0) rfl ?_; intro w3 HW3 hb; have hN := (⟨bch hS.1 hb.out, cell_keep hb.out hS.2⟩ : Below w1.heap.size w1 w3 ∧ w3.cell? ⟨w.heap.size, 0, none⟩ = some (.int .u64 x.e)); have HB3 := Lib.hid (bch HB1.out hN.1); have HY3 := Lib.hid (HY2.out.keep hb.out)
  refine hK.out _ _ ?_ (fun hS1 => ?_)
  · (exact hN)
  clear hK K hS; have hS := hS1; clear hS1
  (try simp only [rgp])
  refine rgw 8 ⟨some 10, .assign (.tmp 27), 34, _, _, none⟩ hS ?_
  refine wpAnyH_done (by kernel_rfl) ?_ _
  have d3 := cell_of_row w3 w2.heap.size 3 _ _ _ HW3.out
  simp at d3
  go_wp2_with (first
    | (refine wpl_copy_ybm rfl _ _ rfl g2 0 832 832 _ HY3.out rfl _ bn bs rfl (HRI.out.keep HB3.out) (by rw [List.length_replicate]; omega) ?_; intro w4 k HY4 HG4; have HY4 : Hid (YB w4 g2 (pad8 bs)) := HY4; have HNE := Lib.hid (Nat.ne_of_lt HY2.out.lt : g2 ≠ w2.heap.size); have HO4 : Hid (WO w4 w2.heap.size p s x.e (wV g2) 0) := Lib.hid ((HG4.out.block _ (Array.getElem?_eq_some_iff.1 HW3.out).1 (fun e => HNE.out (Option.some.inj e).symm)).trans HW3.out); have HGW := Lib.hid (Nat.le_trans HB1.out.size HG2.out); have HB4 := Lib.hid (below_grown HB3.out HG4.out HGW.out HB3.out.size); have hc4 := HO4.out.cells.2.2.2.2; have hf4 := HO4.out.frozen 4; clear d3))
  go_ret
  rw [HNR.out]
  have hlo := HB2.out.size
  have HB5 := bset HB4.out hlo (Nat.le_refl _) 4 (.int .i64 (nr en : Nat))
  exact ⟨w2.heap.size, rfl, ⟨hH.out.below HK.out HB5, HX0.out.trans (Ext.below HB5), Nat.le_trans HX0.out.size hlo, foot_off HF.out hlo, g2, HO4.out.set4 _, (heap_setCell_other _ ⟨w2.heap.size, 4, none⟩ g2 _ HNE.out).trans HY4.out, foot_off HF.out HGW.out, HNE.out⟩, hlo, HB5⟩
end Go.Proofs.YtgegbpnmfpjdmaaGreatDoor
namespace Go.Proofs.YtgegbpnmfpjdmaaGreatDoor
open Go.RowKit
def wsW (a d : Nat) : List Bool := (List.range 17).map fun i => decide (1 + a ≤ i ∧ i < 1 + a + d)
theorem wsW_len (a d : Nat) : (wsW a d).length = 17 := by simp [wsW]
theorem wsW_get (a d i : Nat) (h : i < 17) : (wsW a d).getD i false = decide (1 + a ≤ i ∧ i < 1 + a + d) := by simp [wsW, List.getD, h]
theorem ws_ext {x y : List Bool} (hx : x.length = 17) (hy : y.length = 17) (h : ∀ i, i < 17 → x.getD i false = y.getD i false) : x = y := by
  refine List.ext_getElem (by omega) fun i h1 h2 => ?_
  have := h i (by omega)
  simpa [List.getD, h1, h2] using this
theorem fs17_get (i : Nat) : fs17.getD i false = false := by
  unfold fs17
  simp only [List.getD, List.getElem?_replicate]
  split <;> rfl
theorem fs17_len : fs17.length = 17 := List.length_replicate
theorem wsW_none (a : Nat) : wsW a 0 = fs17 := ws_ext (wsW_len _ _) fs17_len fun i hi => by
  rw [wsW_get a 0 i hi, fs17_get, decide_eq_false (by omega)]
theorem ws_put {ws : List Bool} (hw : ws.length = 17) (k d i : Nat) (hk : k + d ≤ 17) :
    (ws.take k ++ List.replicate d true ++ ws.drop (k + d)).getD i false = if k ≤ i ∧ i < k + d then true else ws.getD i false := by
  have h1 : (ws.take k).length = k := by simp; omega
  have h2 : (ws.take k ++ List.replicate d true).length = k + d := by simp; omega
  simp only [List.getD]
  by_cases c1 : i < k
  · rw [if_neg (by omega), List.getElem?_append_left (by omega), List.getElem?_append_left (by omega), List.getElem?_take, if_pos c1]
  by_cases c2 : i < k + d
  · rw [if_pos (by omega), List.getElem?_append_left (by omega), List.getElem?_append_right (by omega), h1, List.getElem?_replicate, if_pos (by omega)]; rfl
  · rw [if_neg (by omega), List.getElem?_append_right (by omega), h2, List.getElem?_drop, show k + d + (i - (k + d)) = i from by omega]
theorem ws_put_len {ws : List Bool} (hw : ws.length = 17) (k d : Nat) (hk : k + d ≤ 17) : (ws.take k ++ List.replicate d true ++ ws.drop (k + d)).length = 17 := by simp; omega
theorem waits_range (a d : Nat) (p : Nat → Bool) (hp : ∀ i, p i = decide (a ≤ i ∧ i < a + d)) : ∀ n, (((List.range n).map p).filter id).length = min (n - a) d
  | 0 => by simp
  | n + 1 => by
    rw [List.range_succ, List.map_append, List.filter_append, List.length_append, waits_range a d p hp n]
    by_cases h : a ≤ n ∧ n < a + d
    · simp [hp, h]; omega
    · simp [hp, h]; omega
theorem wsW_waits (a d : Nat) (h : a + d ≤ 16) : waitsN (wsW a d) = d := by
  unfold waitsN wsW
  rw [waits_range (1 + a) d (fun i => decide (1 + a ≤ i ∧ i < 1 + a + d)) (fun i => rfl) 17]
  omega
noncomputable def wsC (ls : List (List Int)) (m i : Nat) : List Bool :=
  if m < i then wsW (endF (ls.take m) / 52) ((endF (ls.take i) - 1) / 52 + 1 - endF (ls.take m) / 52) else fs17
theorem wsC_none (ls : List (List Int)) (m : Nat) : wsC ls m m = fs17 := if_neg (by omega)
theorem wsC_len (ls : List (List Int)) (m i : Nat) : (wsC ls m i).length = 17 := by
  unfold wsC; split
  · exact wsW_len _ _
  · exact fs17_len
theorem wsC_next {ls : List (List Int)} {m i : Nat} (hm : m ≤ i) (he : endF (ls.take m) ≤ endF (ls.take i)) (hi : endF (ls.take i) < endF (ls.take (i + 1))) (h8 : endF (ls.take (i + 1)) ≤ 832) (a d : Nat) (ha : a = endF (ls.take i) / 52) (hd : a + d = (endF (ls.take (i + 1)) - 1) / 52 + 1)
    (hpos : m < i → 0 < endF (ls.take i)) :
    (wsC ls m i).take (1 + a) ++ List.replicate d true ++ (wsC ls m i).drop (1 + a + d) = wsC ls m (i + 1) := by
  have hl := wsC_len ls m i
  refine ws_ext (ws_put_len hl (1 + a) d (by omega)) (wsC_len _ _ _) fun j hj => ?_
  rw [ws_put hl (1 + a) d j (by omega)]
  unfold wsC
  rw [if_pos (show m < i + 1 by omega), wsW_get _ _ j hj]
  by_cases hmi : m < i
  · have := hpos hmi
    rw [if_pos hmi, wsW_get _ _ j hj]
    by_cases c : 1 + a ≤ j ∧ j < 1 + a + d
    · rw [if_pos c]; symm; rw [decide_eq_true_iff]; omega
    · rw [if_neg c]
      refine decide_eq_decide.2 ?_
      omega
  · rw [if_neg hmi]
    obtain rfl : m = i := by omega
    by_cases c : 1 + a ≤ j ∧ j < 1 + a + d
    · rw [if_pos c]; symm; rw [decide_eq_true_iff]; omega
    · rw [if_neg c]
      rw [fs17_get]; symm; rw [decide_eq_false_iff_not]; omega
theorem apply_at (kb : List Int) (torn cut : Int) (os ns : List Int) (n : Nat) (ho : os.length = n * 64) (hn : ns.length = n * 64) (i : Nat) : ∀ k, i < k → k ≤ n → secOf (applyN kb torn cut os ns k) i = leaves kb torn cut (secOf os i) (secOf ns i) i
  | 0, h, _ => absurd h (by omega)
  | k + 1, h, hk => by
    have hl := applyN_length kb torn cut os ns n n ho hn k (by omega) (by omega)
    rw [applyN]
    by_cases hik : i < k
    · rw [secOf_left hl hik]; exact apply_at kb torn cut os ns n ho hn i k hik (by omega)
    · obtain rfl : i = k := by omega
      have := secOf_right (Q := leaves kb torn cut (sct os i) (sct ns i) i) hl 0
      rw [Nat.add_zero] at this
      rw [this]
      unfold secOf
      rw [Nat.zero_mul, List.drop_zero]
      refine List.take_of_length_le ?_
      rw [leaves_length _ _ _ _ _ _ (sct_length _ n _ ho (by omega)) (sct_length _ n _ hn (by omega))]
      exact Nat.le_refl _
noncomputable def leftW (kb : List Int) (torn cut : Int) (O N : List Int) (a d : Nat) : List Int :=
  O.take (a * 64) ++ applyN kb torn cut ((O.drop (a * 64)).take (d * 64)) ((N.drop (a * 64)).take (d * 64)) d ++ O.drop ((a + d) * 64)
section
variable {kb : List Int} {torn cut : Int} {O N : List Int} {a d : Nat} (hO : O.length = 16 * 64) (hN : N.length = 16 * 64) (had : a + d ≤ 16)
include hO hN had
theorem left_mid : (applyN kb torn cut ((O.drop (a * 64)).take (d * 64)) ((N.drop (a * 64)).take (d * 64)) d).length = d * 64 :=
  applyN_length kb torn cut _ _ d d (by simp; omega) (by simp; omega) d (Nat.le_refl _) (Nat.le_refl _)
theorem left_len : (leftW kb torn cut O N a d).length = 16 * 64 := by
  unfold leftW
  rw [List.length_append, List.length_append, left_mid hO hN had, List.length_take, List.length_drop]
  omega
theorem left_sec (i : Nat) (hi : i < 16) : secOf (leftW kb torn cut O N a d) i = if a ≤ i ∧ i < a + d then leaves kb torn cut (secOf O i) (secOf N i) (i - a) else secOf O i := by
  have h1 : (O.take (a * 64)).length = a * 64 := by rw [List.length_take]; omega
  have h2 : (O.take (a * 64) ++ applyN kb torn cut ((O.drop (a * 64)).take (d * 64)) ((N.drop (a * 64)).take (d * 64)) d).length = (a + d) * 64 := by
    rw [List.length_append, h1, left_mid hO hN had]; omega
  unfold leftW
  by_cases c1 : i < a
  · rw [if_neg (by omega), secOf_left h2 (by omega), secOf_left h1 c1, secOf_take _ _ _ c1]
  by_cases c2 : i < a + d
  · obtain ⟨j, rfl⟩ : ∃ j, i = a + j := ⟨i - a, by omega⟩
    rw [if_pos ⟨by omega, c2⟩, secOf_left h2 c2, secOf_right h1, apply_at kb torn cut _ _ d (by simp; omega) (by simp; omega) j d (by omega) (Nat.le_refl _), secOf_take _ _ _ (by omega), secOf_take _ _ _ (by omega), secOf_drop, secOf_drop, show a + j - a = j from by omega]
  · obtain ⟨j, rfl⟩ : ∃ j, i = (a + d) + j := ⟨i - (a + d), by omega⟩
    rw [if_neg (by omega), secOf_right h2, secOf_drop]
end
theorem take_secs (T : List Int) (j : Nat) : T.take ((j + 1) * 64) = T.take (j * 64) ++ secOf T j := by
  unfold secOf
  rw [show (j + 1) * 64 = j * 64 + 64 from by omega, List.take_add]
theorem crash_left (nm : ByteArray) {H O N : List Int} (hH : H.length = 64) (hO : O.length = 16 * 64) (hN : N.length = 16 * 64) {a d : Nat} (had : a + d ≤ 16) (kb : List Int) (torn cut : Int) :
    (crS kb torn cut ⟨nm, 17, H ++ O, H ++ N, wsW a d⟩ 0 17).1 = H ++ leftW kb torn cut O N a d := by
  have hT := left_len (kb := kb) (torn := torn) (cut := cut) hO hN had
  have hH1 : H.length = 1 * 64 := by omega
  have h0 : ∀ X : List Int, secOf (H ++ X) 0 = H := fun X => by
    rw [secOf_left hH1 (by omega)]; unfold secOf; rw [Nat.zero_mul, List.drop_zero, List.take_of_length_le (by omega)]
  have hs : ∀ (X : List Int) (i : Nat), secOf (H ++ X) (1 + i) = secOf X i := fun X i => secOf_right hH1 i
  have key : ∀ j, j ≤ 17 → crS kb torn cut ⟨nm, 17, H ++ O, H ++ N, wsW a d⟩ 0 j = ((H ++ leftW kb torn cut O N a d).take (j * 64), min (j - (1 + a)) d) := by
    intro j
    induction j with
    | zero => intro _; simp [crS]
    | succ j ih =>
      intro hj
      have ih := ih (by omega)
      simp only [crS]
      rw [ih, wsW_get a d j (by omega), take_secs]
      have e1 : ∀ l : List Int, chunk l j = secOf l j := fun _ => rfl
      rw [e1, e1]
      have e2 : secC kb torn cut (secOf (H ++ O) j) (secOf (H ++ N) j) (decide (1 + a ≤ j ∧ j < 1 + a + d)) (min (j - (1 + a)) d) = secOf (H ++ leftW kb torn cut O N a d) j := by
        cases j with
        | zero => rw [h0, h0, h0, decide_eq_false (by omega)]; rfl
        | succ i =>
          rw [show i + 1 = 1 + i from by omega, hs, hs, hs, left_sec hO hN had i (by omega)]
          by_cases c : a ≤ i ∧ i < a + d
          · rw [decide_eq_true (by omega), if_pos c, show min (1 + i - (1 + a)) d = i - a from by omega]; rfl
          · rw [decide_eq_false (by omega), if_neg c]; rfl
      rw [e2]
      refine Prod.ext rfl ?_
      show (if decide (1 + a ≤ j ∧ j < 1 + a + d) = true then min (j - (1 + a)) d + 1 else min (j - (1 + a)) d) = min (j + 1 - (1 + a)) d
      by_cases c : 1 + a ≤ j ∧ j < 1 + a + d
      · rw [decide_eq_true c, if_pos rfl]; omega
      · rw [decide_eq_false c, if_neg (by simp)]; omega
  rw [key 17 (Nat.le_refl _)]
  exact List.take_of_length_le (by rw [List.length_append]; omega)
noncomputable def segW (x : Int) (ls : List (List Int)) : List Int := wholeK x (bodyF (x % 4294967296) ls) (touchN 0 (endF ls)).2 16
theorem segW_len (x : Int) (ls : List (List Int)) : (segW x ls).length = 16 * 64 := wholeK_length _ _ _ 16
theorem segW_nil (x : Int) : segW x [] = List.replicate (16 * 64) 0 := by
  unfold segW
  have h := wholeK_behind x (bodyF (x % 4294967296) []) 0 16
  rw [Nat.zero_add] at h
  rw [endF_nil, show (touchN 0 0).2 = 0 from rfl, h]
  rfl
theorem frag_kind (k e : Int) (d : List Int) : (fragB k e d).getD 6 0 = k := by
  have h1 := putL_length (fragS k e d) 4
  have h2 := putL_length d.length 2
  unfold fragB fragT fragK
  simp only [List.getD]
  rw [List.getElem?_append_right (by omega), List.append_assoc, List.append_assoc, List.getElem?_append_right (by omega)]
  rw [show 6 - (putL (fragS k e d) 4).length - (putL d.length 2).length = 0 from by omega]
  rfl
theorem sec_same_behind {x : Int} {ls : List (List Int)} (hg : GoodF ls ls.length) {n : Nat} (hn : n ≤ ls.length) {i : Nat} (hi : i < 16) (h : endF ls ≤ 52 * i) : secOf (segW x (ls.take n)) i = secOf (segW x ls) i := by
  have hm := end_mono hg (k := n) (t := ls.length) hn (Nat.le_refl _)
  rw [List.take_length] at hm
  unfold segW
  rw [secOf_whole _ _ _ i 16 hi, secOf_whole _ _ _ i 16 hi, if_neg (fun q => absurd ((touch_end _ _).1 q) (by omega)), if_neg (fun q => absurd ((touch_end _ _).1 q) (by omega))]
theorem seal_byte (x i : Int) (B : List Int) (k : Nat) {j : Nat} (hj : j < 52) : (sealed x i (partB B k)).getD (12 + j) 0 = B.getD (52 * k + j) 0 := by
  rw [sealed_get3 x i _ (12 + j) (by omega) (by omega), show 12 + j - 12 = j from by omega]
  unfold partB
  simp only [List.getD, List.getElem?_take, hj, if_true, List.getElem?_drop]
theorem sec_differs {x : Int} (hx : U64 x) (h0 : x ≠ 0) {ls : List (List Int)} (hg : GoodF ls ls.length) {n : Nat} (hn : n < ls.length) : secOf (segW x (ls.take n)) ((endF ls - 1) / 52) ≠ secOf (segW x ls) ((endF ls - 1) / 52) := by
  have hle := endF_le ls
  obtain ⟨k, hk⟩ : ∃ k, ls.length = k + 1 := ⟨ls.length - 1, by omega⟩
  have hkl : k < ls.length := by omega
  obtain ⟨m, hm⟩ := laid_k hg hkl
  obtain ⟨q, rfl⟩ : ∃ q, m = q + 1 := ⟨m - 1, by have := hm.cuts.1; omega⟩
  obtain ⟨r1, r2, _, r4, _⟩ := hm.room (i := q) (by omega)
  have hE : endF ls = pS (endF (ls.take k)) (ls.getD k []).length (q + 1) := by
    rw [← hm.end_, ← endF_next ls k hkl, ← hk, List.take_length]
  have hE0 := end_mono hg (k := n) (t := k) (by omega) (by omega)
  have hup := hm.mono (i := 0) (t := q) (by omega) (by omega)
  rw [pS_zero] at hup
  have hsz : 11 ≤ szF (endF (ls.take k)) (ls.getD k []) q := by unfold szF; omega
  intro he
  obtain ⟨i, hi⟩ : ∃ i, (endF ls - 1) / 52 = i := ⟨_, rfl⟩
  rw [hi] at he
  have hi16 : i < 16 := by omega
  have hin : 52 * i < endF ls := by omega
  have ok1 := okAt_whole x hx h0 (bodyF (x % 4294967296) ls) (touchN 0 (endF ls)).2 i hi16
  rw [decide_eq_true ((touch_end _ _).2 hin)] at ok1
  have ok0 := okAt_whole x hx h0 (bodyF (x % 4294967296) (ls.take n)) (touchN 0 (endF (ls.take n))).2 i hi16
  have hsame : okAt x 16 (segW x (ls.take n)) i = okAt x 16 (segW x ls) i := by unfold okAt; rw [he]
  unfold segW at hsame
  rw [ok0, ok1, decide_eq_true_iff, touch_end] at hsame
  have hb := body_at hg (x % 4294967296) hkl hm (i := q) (by omega) 6 (by omega)
  unfold frB at hb
  rw [frag_kind] at hb
  have hkd := kind_bd (decide (q = 0)) (decide (fS (endF (ls.take k)) (ls.getD k []).length (q + 1) = (ls.getD k []).length))
  have hb2 : (bodyF (x % 4294967296) ls).getD (bS (endF (ls.take k)) (ls.getD k []).length q + 6) 0 ≠ 0 := by
    rw [hb]
    show kindN _ _ ≠ 0
    omega
  have ho := body_out hg (x % 4294967296) n (by omega) (bS (endF (ls.take k)) (ls.getD k []).length q + 6) (by omega)
  obtain ⟨j, hj⟩ : ∃ j, bS (endF (ls.take k)) (ls.getD k []).length q + 6 = 52 * i + j := ⟨bS (endF (ls.take k)) (ls.getD k []).length q + 6 - 52 * i, by omega⟩
  rw [hj] at hb2 ho
  unfold segW at he
  rw [secOf_whole _ _ _ i 16 hi16, secOf_whole _ _ _ i 16 hi16, if_pos ((touch_end _ _).2 hsame), if_pos ((touch_end _ _).2 hin)] at he
  have h3 := congrArg (fun l => l.getD (12 + j) 0) he
  rw [seal_byte _ _ _ _ (by omega), seal_byte _ _ _ _ (by omega), ho] at h3
  exact hb2 h3.symm
end Go.Proofs.YtgegbpnmfpjdmaaGreatDoor
namespace Go.Proofs.YtgegbpnmfpjdmaaGreatDoor
open Go.RowKit
def hW (s ep : Int) : Hdr := ⟨ep, s, 1, [0, 0, 0, 0]⟩
theorem results_row_one {fn : Func} {p : Tmp} {ty : TypeId} {P : Program} (h : fn.results = #[.cell p ty]) (tmps : Array Value) (w : World) (g : Nat) (v : Value)
    (hp : tmps.getD p undef = .pointer (some ⟨g, 0, none⟩)) (hl : (loadVar ty ⟨g, 0, none⟩).run P w = .ok v w) : (results fn tmps).run P w = .ok v w := by
  have hp' : tmps[p]?.getD undef = .pointer (some ⟨g, 0, none⟩) := by simpa using hp
  simp [results, h, hp', asAddr, hl]
set_option maxRecDepth 8000 in
theorem rheader_any (s ep : Int) (w : World) : Calls Tryz.prog 8 #[.int .i64 s, .int .u64 ep] w fun e w' => e = .returned (.agg (hv (hW s ep))) ∧ Below w.heap.size w w' := by
  obtain ⟨w0, hw0⟩ : ∃ q, w.alloc (.cells #[.int .u64 0, .int .i64 0, .int .i64 0, .int .i64 0, .int .i64 0, .int .i64 0, .int .i64 0] 30) = q := ⟨_, rfl⟩
  have HH := Lib.hid (show HB w0 w.heap.size noH from by rw [← hw0]; exact HB.new w noH rfl)
  have HB0 := Lib.hid (show Below w.heap.size w w0 from by rw [← hw0]; exact balloc _ _)
  go_enter Tryz.func8, Tryz.ntmps8
  go_wp2_with (first
    | (refine wpl_put_hd rfl (.tmp 4) (.tmp 7) rfl w.heap.size noH (hW s ep) HH.out rfl rfl rfl ?_; intro wf HOF HGF))
  refine bodyPost_ret_by (results_row_one rfl _ _ w.heap.size _ rfl HOF.out.load) rfl ⟨rfl, hbelow_grown HB0.out HGF.out (Nat.le_refl _) HB0.out.size⟩
end Go.Proofs.YtgegbpnmfpjdmaaGreatDoor
namespace Go.Proofs.YtgegbpnmfpjdmaaGreatDoor
open Go.RowKit
variable {DK : World → Addr → (Nat → Bool) → AD → Prop}
theorem take_size (d : AD) : d.takeR.2.1.size ≤ 281474976710656 := by
  have h0 : noS.size ≤ 281474976710656 := by decide
  unfold AD.takeR
  split
  · exact h0
  split
  · exact first_size d 17
  split
  · exact h0
  split
  · exact first_size d 0
  · exact h0
theorem begin_miss {d : AD} {x : Hdr} (hk : hdOk x = true) {e : Int} (he : missI d (walB x.s) = e) (h0 : e ≠ 0) : d.beginR x = (d, e) := by
  unfold AD.beginR AD.beginT
  rw [if_neg (by rw [hk]; simp)]
  unfold missI at he
  split at he
  · rename_i h; rw [if_pos h, he]
  · rename_i h
    rw [if_neg h]
    split at he
    · rename_i h2; rw [if_pos h2, he]
    · exact absurd he.symm h0
theorem begin_goes {d : AD} {x : Hdr} (hk : hdOk x = true) (he : missI d (walB x.s) = 0) : d.beginR x =
    if d.takeR.2.2 = 0 then (if (d.takeR.1.prepR d.takeR.2.1 x 0 []).2 = 0 then (d.takeR.1.prepR d.takeR.2.1 x 0 []).1.renameR d.takeR.2.1 (walB x.s) else d.takeR.1.prepR d.takeR.2.1 x 0 []) else (d.takeR.1, d.takeR.2.2) := by
  unfold AD.beginR AD.beginT
  rw [if_neg (by rw [hk]; simp)]
  unfold missI at he
  split at he
  · simp at he
  rename_i h
  rw [if_neg h]
  split at he
  · simp at he
  rename_i h2
  rw [if_neg h2]
theorem smiss_of (H : DiskSays DK) {d : AD} {s : ByteArray} {x : Int} (hg : Good d) (hs : s.size ≤ 281474976710656) (hx : missI d s = x) :
    Hid (∀ w p F, DK w p F d → Calls Tryz.prog 28 #[ptr p, .string s] w fun e w' => e = .returned (.int .i64 x) ∧ Below w.heap.size w w') :=
  Lib.hid fun w p F h => by rw [← hx]; exact smissing_any H w p F d s h hg hs
theorem stake_of (H : DiskSays DK) {d d2 : AD} {u : ByteArray} {e2 : Int} {W0 : World} (hg : Good d) (hp : Pow W0) (h : d.takeR = (d2, u, e2)) :
    Hid (∀ w p F, DK w p F d → Ext (fun _ => false) W0 w F → Calls Tryz.prog 29 #[ptr p] w fun e w' => ∃ F', e = .returned (.tuple #[.string u, .int .i64 e2]) ∧ DK w' p F' d2 ∧ Ext F w w' F') :=
  Lib.hid fun w p F hk hx => by
    have := ptake_any H W0 w p F d hk hg hp hx
    rwa [h] at this
theorem sprep_of (H : DiskSays DK) {d d2 : AD} {s : ByteArray} {x : Hdr} {e2 : Int} {W0 : World} (hg : Good d) (hv0 : VT W0) (hs : s.size ≤ 281474976710656) (hx : HdT x) (h : d.prepR s x 0 [] = (d2, e2)) :
    Hid (∀ w p F, DK w p F d → Ext (fun _ => false) W0 w F → Calls Tryz.prog 32 #[ptr p, .string s, .agg (hv x), .slice none 0 0] w fun e w' => ∃ F', e = .returned (.int .i64 e2) ∧ DK w' p F' d2 ∧ Ext F w w' F') :=
  Lib.hid fun w p F hk hx0 => by
    have := sprep_any H W0 w p F d s x (.slice none 0 0) 0 [] hk hg hv0 hx0 hs hx (FS.nil w) bytes_nil (by omega)
    rwa [h] at this
abbrev B3 (c a g : Nat) (p : Addr) (x : Hdr) (v : Int) : List (Nat × Obj) := [(c, oC 32 (.int .i64 v)), (a, oC 26 (ptr p)), (g, oH x)]
abbrev B4 (c a g lb : Nat) (p : Addr) (x : Hdr) (v : Int) (s : ByteArray) : List (Nat × Obj) := [(c, oC 32 (.int .i64 v)), (a, oC 26 (ptr p)), (g, oH x), (lb, oC 9 (.string s))]
abbrev B5 (c a g lb fb : Nat) (p : Addr) (x : Hdr) (v : Int) (s u : ByteArray) : List (Nat × Obj) := [(c, oC 32 (.int .i64 v)), (a, oC 26 (ptr p)), (g, oH x), (lb, oC 9 (.string s)), (fb, oC 9 (.string u))]
section
variable {F : Nat → Bool} {W : World} {c a g lb fb : Nat} {p : Addr} {x : Hdr} {v : Int} {s u : ByteArray}
theorem B3.cells (h : BX F W (B3 c a g p x v)) : W.cell? ⟨a, 0, none⟩ = some (ptr p) ∧ W.cell? ⟨c, 0, none⟩ = some (.int .i64 v) ∧ W.frozen? ⟨c, 0, none⟩ = false :=
  ⟨(h.one (g := a) (t := 26) (v := ptr p) (by simp [B3])).1, (h.one (g := c) (t := 32) (v := .int .i64 v) (by simp [B3])).1, (h.one (g := c) (t := 32) (v := .int .i64 v) (by simp [B3])).2⟩
theorem B4.cells (h : BX F W (B4 c a g lb p x v s)) : W.cell? ⟨a, 0, none⟩ = some (ptr p) ∧ W.cell? ⟨c, 0, none⟩ = some (.int .i64 v) ∧ W.frozen? ⟨c, 0, none⟩ = false ∧ W.cell? ⟨lb, 0, none⟩ = some (.string s) :=
  ⟨(h.one (g := a) (t := 26) (v := ptr p) (by simp [B4])).1, (h.one (g := c) (t := 32) (v := .int .i64 v) (by simp [B4])).1, (h.one (g := c) (t := 32) (v := .int .i64 v) (by simp [B4])).2, (h.one (g := lb) (t := 9) (v := .string s) (by simp [B4])).1⟩
theorem B5.cells (h : BX F W (B5 c a g lb fb p x v s u)) : W.cell? ⟨a, 0, none⟩ = some (ptr p) ∧ W.cell? ⟨c, 0, none⟩ = some (.int .i64 v) ∧ W.frozen? ⟨c, 0, none⟩ = false ∧ W.cell? ⟨lb, 0, none⟩ = some (.string s) ∧ W.cell? ⟨fb, 0, none⟩ = some (.string u) :=
  ⟨(h.one (g := a) (t := 26) (v := ptr p) (by simp [B5])).1, (h.one (g := c) (t := 32) (v := .int .i64 v) (by simp [B5])).1, (h.one (g := c) (t := 32) (v := .int .i64 v) (by simp [B5])).2, (h.one (g := lb) (t := 9) (v := .string s) (by simp [B5])).1, (h.one (g := fb) (t := 9) (v := .string u) (by simp [B5])).1⟩
end
theorem sbegin1_ren (H : DiskSays DK) {d d2 : AD} {s t : ByteArray} {e2 : Int} (hg : Good d) (hs : s.size ≤ 281474976710656) (ht : t.size ≤ 281474976710656) (hr : d.renameR s t = (d2, e2)) (W0 w : World) (p : Addr) (F F1 : Nat → Bool) (c a g lb fb : Nat) (hac : a ≠ c) (hgc : g ≠ c) (hlc : lb ≠ c) (hfc : fb ≠ c) (x : Hdr) (u : FrameMode) (W : World)
    (h : OB DK W0 F w p F1 d (B5 c a g lb fb p x 0 t s) W) :
    CallsD Tryz.prog 30 #[.pointer (some ⟨c, 0, none⟩), .pointer (some ⟨a, 0, none⟩), .pointer (some ⟨fb, 0, none⟩), .pointer (some ⟨lb, 0, none⟩)] u W fun e u' w' => u' = u ∧ (e = .returned (.tuple #[]) ∧ ∃ F2, OB DK W0 F w p F2 d2 (B5 c a g lb fb p x e2 t s) w') := by
  have hH := Lib.hid H
  have HO := Lib.hid h
  have HRN := prename_of H hg hs ht hr
  obtain ⟨c1, c0, f0, c2, c3⟩ := B5.cells h.bx
  clear h hg hr
  go_enter_d Tryz.func30, Tryz.ntmps30
  go_wp2_with (first
    | (go_at_call 31; (with_reducible refine (HRN.out _ _ _ HO.out.op.dk).mono ?_); rintro e w1 ⟨F2, rfl, hk, hx⟩; have HO1 := Lib.hid (HO.out.ext hk hx); obtain ⟨d1, d0, g0, d2, d3⟩ := B5.cells HO1.out.bx; clear hk hx c0 c1 c2 c3 f0))
  go_end0
  exact ⟨rfl, F2, HO1.out.set hH.out (by simp [hac, hgc, hlc, hfc]) _⟩
theorem sbegin1_stop (s t : ByteArray) (v : Int) (hv : v ≠ 0) (p : Addr) (F : Nat → Bool) (c a g lb fb : Nat) (x : Hdr) (u : FrameMode) (W : World) (h : BX F W (B5 c a g lb fb p x v t s)) :
    CallsD Tryz.prog 30 #[.pointer (some ⟨c, 0, none⟩), .pointer (some ⟨a, 0, none⟩), .pointer (some ⟨fb, 0, none⟩), .pointer (some ⟨lb, 0, none⟩)] u W fun e u' w' => u' = u ∧ (e = .returned (.tuple #[]) ∧ w' = W) := by
  obtain ⟨c1, c0, f0, c2, c3⟩ := B5.cells h
  have bv : (v == 0) = false := by simpa using hv
  clear h hv
  go_enter_d Tryz.func30, Tryz.ntmps30
  go_wp2
  go_end0
  exact ⟨rfl, rfl⟩
theorem OB.start3 (H : DiskSays DK) {W0 w : World} {p : Addr} {F : Nat → Bool} {d : AD} (h : DK w p F d) (hp : Pow W0) (hx0 : Ext (fun _ => false) W0 w F) (x : Hdr) :
    OB DK W0 F w p F d (B3 (w.heap.size + 2) w.heap.size (w.heap.size + 1) p x 0) (((w.alloc (oC 26 (ptr p))).alloc (oH x)).alloc (oC 32 (.int .i64 0))) := by
  have h0 : OB DK W0 F w p F d [] w := ⟨⟨h, Ext.refl F w, hx0, hp⟩, BX.nil _ _, fun q hq => by simp at hq, hx0.size⟩
  have h1 := h0.alloc H (oC 26 (ptr p)) rfl
  have h2 := h1.alloc H (oH x) (g := w.heap.size + 1) (by rw [alloc_size])
  have h3 := h2.alloc H (oC 32 (.int .i64 0)) (g := w.heap.size + 2) (by rw [alloc_size, alloc_size])
  refine h3.sub fun q hq => ?_
  simp only [B3, List.mem_cons, List.not_mem_nil, or_false] at hq ⊢
  rcases hq with rfl | rfl | rfl <;> simp
theorem OB.live (H : DiskSays DK) {W0 w : World} {p : Addr} {F F1 : Nat → Bool} {d : AD} {c a g : Nat} {x : Hdr} {v : Int} {W : World} (h : OB DK W0 F w p F1 d (B3 c a g p x v) W) (s : ByteArray) :
    OB DK W0 F w p F1 d (B4 c a g W.heap.size p x v s) (W.alloc (.cells #[.string s] 9)) := by
  refine (h.alloc H (oC 9 (.string s)) rfl).sub fun q hq => ?_
  simp only [B3, B4, List.mem_cons, List.not_mem_nil, or_false] at hq ⊢
  rcases hq with rfl | rfl | rfl | rfl <;> simp
theorem OB.free (H : DiskSays DK) {W0 w : World} {p : Addr} {F F1 : Nat → Bool} {d : AD} {c a g lb : Nat} {x : Hdr} {v : Int} {s : ByteArray} {W : World} (h : OB DK W0 F w p F1 d (B4 c a g lb p x v s) W) (u : ByteArray) :
    OB DK W0 F w p F1 d (B5 c a g lb W.heap.size p x v s u) (W.alloc (.cells #[.string u] 9)) := by
  refine (h.alloc H (oC 9 (.string u)) rfl).sub fun q hq => ?_
  simp only [B4, B5, List.mem_cons, List.not_mem_nil, or_false] at hq ⊢
  rcases hq with rfl | rfl | rfl | rfl | rfl <;> simp
set_option maxRecDepth 8000 in
set_option maxHeartbeats 4000000 in
theorem sbegin_any (H : DiskSays DK) (W0 w : World) (p : Addr) (F : Nat → Bool) (d : AD) (x : Hdr) (h : DK w p F d) (hg : Good d) (hv0 : VT W0) (hx0 : Ext (fun _ => false) W0 w F) (hx : HdT x) :
    Calls Tryz.prog 9 #[ptr p, .agg (hv x)] w fun e w' => ∃ F', e = .returned (.int .i64 (d.beginR x).2) ∧ DK w' p F' (d.beginR x).1 ∧ Ext F w w' F' := by
  have hH := Lib.hid H
  have hmf := mf_seg Tryz.prog
  have hst := OB.start3 H h hv0.vars.pow hx0 x
  obtain ⟨w0, hw0⟩ : ∃ q, ((w.alloc (.cells #[ptr p] 26)).alloc (.cells (hv x) 30)).alloc (.cells #[.int .i64 0] 32) = q := ⟨_, rfl⟩
  rw [show (((w.alloc (oC 26 (ptr p))).alloc (oH x)).alloc (oC 32 (.int .i64 0))) = w0 from hw0] at hst
  have HO := Lib.hid hst
  have HV := Lib.hid (fun W F1 (hh : Ext (fun _ => false) W0 W F1) => (hv0.ext hh).vars)
  have HXN := Lib.hid hx.n
  have HHB := Lib.hid (hst.bx.hb hx.n (g := w.heap.size + 1) (by simp [B3]))
  have HS3 := Lib.hid (show w.heap.size + 3 ≤ w0.heap.size from by rw [← hw0, alloc_size, alloc_size, alloc_size]; omega)
  obtain ⟨c1, c0, f0⟩ := B3.cells hst.bx
  clear hst h hx0
  cases hk : hdOk x with
  | false =>
    rw [show d.beginR x = (d, 13) from by unfold AD.beginR AD.beginT; rw [if_pos hk]]
    have HRT : Hid (∀ w, Calls Tryz.prog 26 #[.agg (hv x)] w fun e w' => e = .returned (.bool false) ∧ Below w.heap.size w w') := Lib.hid fun w => by rw [← hk]; exact hright_any x hx w
    clear hg hx hk hv0
    focus
      go_enter_defers Tryz.func9, Tryz.ntmps9
      go_wp2_with (first
        | (refine wpl_load_hd (by rfl) (.tmp 3) rfl rfl (show HB w0 (w.heap.size + 1) x from HHB.out) ?_)
        | (go_at_call 26; (with_reducible refine (HRT.out _).mono ?_); rintro e w1 ⟨rfl, hb⟩; have HO1 := Lib.hid (HO.out.next hH.out hb); have HHB1 := Lib.hid (HHB.out.keep hb); have HB01 := Lib.hid hb; obtain ⟨p1, p0, pf⟩ := B3.cells HO1.out.bx; clear hb c1 c0 f0))
      have HO7 := Lib.hid (HO1.out.set hH.out (by simp) (.int .i64 13))
      obtain ⟨z1, z0, zf⟩ := B3.cells HO7.out.bx
      exact ⟨_, results_errno rfl _ _ (w.heap.size + 2) _ rfl z0, _, rfl, HO7.out.op.dk, HO7.out.op.ex⟩
  | true =>
    have HRT : Hid (∀ w, Calls Tryz.prog 26 #[.agg (hv x)] w fun e w' => e = .returned (.bool true) ∧ Below w.heap.size w w') := Lib.hid fun w => by rw [← hk]; exact hright_any x hx w
    obtain ⟨s, hs⟩ : ∃ s, walB x.s = s := ⟨_, rfl⟩
    have HWL := swal_of hx.s hs
    have hsz : s.size ≤ 281474976710656 := by rw [← hs]; exact wal_size x.s hx.s.1 hx.s.2
    obtain ⟨e0, he0⟩ : ∃ e, missI d s = e := ⟨_, rfl⟩
    have HMS := smiss_of H hg hsz he0
    by_cases h00 : e0 = 0
    · subst h00
      rw [begin_goes hk (by rw [hs]; exact he0), hs]
      obtain ⟨⟨d2, u, e2⟩, ht⟩ : ∃ r, d.takeR = r := ⟨_, rfl⟩
      have HTK := stake_of H hg hv0.vars.pow ht
      have hg2 : Good d2 := by have := hg.take; rwa [ht] at this
      have hu : u.size ≤ 281474976710656 := by have := take_size d; rwa [ht] at this
      rw [ht]
      clear ht he0 hg
      by_cases h2 : e2 = 0
      · subst h2
        rw [if_pos rfl]
        have hgp := hg2.prep u hx (m := 0) (fs := []) rfl bytes_nil
        simp only
        obtain ⟨⟨d3, e3⟩, hp⟩ : ∃ r, d2.prepR u x 0 [] = r := ⟨_, rfl⟩
        have HPR := sprep_of H hg2 hv0 hu hx hp
        rw [hp] at hgp ⊢
        clear hp hg2 hk hx hs hv0
        by_cases h3 : e3 = 0
        · subst h3
          rw [if_pos rfl]
          obtain ⟨⟨d4, e4⟩, hr⟩ : ∃ r, d3.renameR u s = r := ⟨_, rfl⟩
          have HDF := Lib.hid fun W F1 lb fb (hlc : lb ≠ w.heap.size + 2) (hfc : fb ≠ w.heap.size + 2) (hO : OB DK W0 F w p F1 d3 (B5 (w.heap.size + 2) w.heap.size (w.heap.size + 1) lb fb p x 0 s u) W) => sbegin1_ren H hgp hu hsz hr W0 w p F F1 (w.heap.size + 2) w.heap.size (w.heap.size + 1) lb fb (by omega) (by omega) hlc hfc x .returning W hO
          rw [show (d3, (0 : Int)).1 = d3 from rfl, hr]
          clear hr hgp
          focus
            go_enter_defers Tryz.func9, Tryz.ntmps9
            go_wp2_with (first
              | (refine wpl_load_hd (by rfl) (.tmp 3) rfl rfl HHB5.out ?_)
              | (refine wpl_load_hd (by rfl) (.tmp 3) rfl rfl (show HB w0 (w.heap.size + 1) x from HHB.out) ?_)
              | (go_at_call 26; (with_reducible refine (HRT.out _).mono ?_); rintro e w1 ⟨rfl, hb⟩; have HO1 := Lib.hid (HO.out.next hH.out hb); have HHB1 := Lib.hid (HHB.out.keep hb); have HB01 := Lib.hid hb; obtain ⟨p1, p0, pf⟩ := B3.cells HO1.out.bx; clear hb c1 c0 f0)
              | (refine wpl_load_hs (by rfl) (.tmp 12) rfl rfl HHB1.out ?_)
              | (go_at_call 27; (with_reducible refine (HWL.out _ (HV.out _ _ HO1.out.op.ex0)).mono ?_); rintro e w2 ⟨rfl, hb⟩; have HB02 := Lib.hid (bch HB01.out hb); have HO2 := Lib.hid ((HO1.out.next hH.out hb).live hH.out s); obtain ⟨q1, q0, qf, q2⟩ := B4.cells HO2.out.bx; clear hb p1 p0 pf)
              | (go_at_call 28; (with_reducible refine (HMS.out _ _ _ HO2.out.op.dk).mono ?_); rintro e w3 ⟨rfl, hb⟩; have HZ3 := Lib.hid (Nat.le_trans HB02.out.size (Nat.le_trans (balloc w2 (oC 9 (.string s))).size hb.size)); have HO3 := Lib.hid (HO2.out.next hH.out hb); obtain ⟨r1, r0, rf, r2⟩ := B4.cells HO3.out.bx; clear hb q1 q0 qf q2)
              | (go_at_call 29; (with_reducible refine (HTK.out _ _ _ HO3.out.op.dk HO3.out.op.ex0).mono ?_); rintro e w4 ⟨F4, rfl, hk4, hx4⟩; have HZ4 := Lib.hid (Nat.le_trans HZ3.out hx4.size); have HO5 := Lib.hid ((HO3.out.ext hk4 hx4).free hH.out u); have HHB5 := Lib.hid (HO5.out.bx.hb HXN.out (g := w.heap.size + 1) (by simp [B5])); obtain ⟨t1, t0, tf, t2, t3⟩ := B5.cells HO5.out.bx; clear hk4 hx4 r1 r0 rf r2)
              | (go_at_call 32; (with_reducible refine (HPR.out _ _ _ HO5.out.op.dk HO5.out.op.ex0).mono ?_); rintro e w5 ⟨F5, rfl, hk5, hx5⟩; have HO6 := Lib.hid (HO5.out.ext hk5 hx5); obtain ⟨v1, v0, vf, v2, v3⟩ := B5.cells HO6.out.bx; clear hk5 hx5 t1 t0 tf t2 t3))
            have HL1 := Lib.hid (show w2.heap.size ≠ w.heap.size + 2 from fun e => by have h1 := HS3.out; have h2 := HO2.out.op.ex.size; have h3 := HB02.out.size; omega)
            have HL2 := Lib.hid (show w4.heap.size ≠ w.heap.size + 2 from fun e => by have h1 := HS3.out; have h3 := HZ4.out; omega)
            have HO7 := Lib.hid (HO6.out.set hH.out (by simp; exact ⟨HL1.out, HL2.out⟩) (.int .i64 0))
            refine leaves_cons (f := 30) (args := #[.pointer (some ⟨w.heap.size + 2, 0, none⟩), .pointer (some ⟨w.heap.size, 0, none⟩), .pointer (some ⟨w4.heap.size, 0, none⟩), .pointer (some ⟨w2.heap.size, 0, none⟩)]) (by simp) (by simp [go_sem]) ?_
            refine (HDF.out _ _ _ _ HL1.out HL2.out HO7.out).mono ?_
            rintro e u' w6 ⟨rfl, rfl, F6, hO6⟩
            obtain ⟨z1, z0, zf, z2, z3⟩ := B5.cells hO6.bx
            exact ⟨_, results_errno rfl _ _ (w.heap.size + 2) _ rfl z0, F6, rfl, hO6.op.dk, hO6.op.ex⟩
        · rw [if_neg (show ¬ (d3, e3).2 = 0 from h3)]
          have HDF := Lib.hid fun W F1 lb fb (hO : BX F1 W (B5 (w.heap.size + 2) w.heap.size (w.heap.size + 1) lb fb p x e3 s u)) => sbegin1_stop u s e3 h3 p F1 (w.heap.size + 2) w.heap.size (w.heap.size + 1) lb fb x .returning W hO
          clear hgp
          focus
            go_enter_defers Tryz.func9, Tryz.ntmps9
            go_wp2_with (first
              | (refine wpl_load_hd (by rfl) (.tmp 3) rfl rfl HHB5.out ?_)
              | (refine wpl_load_hd (by rfl) (.tmp 3) rfl rfl (show HB w0 (w.heap.size + 1) x from HHB.out) ?_)
              | (go_at_call 26; (with_reducible refine (HRT.out _).mono ?_); rintro e w1 ⟨rfl, hb⟩; have HO1 := Lib.hid (HO.out.next hH.out hb); have HHB1 := Lib.hid (HHB.out.keep hb); have HB01 := Lib.hid hb; obtain ⟨p1, p0, pf⟩ := B3.cells HO1.out.bx; clear hb c1 c0 f0)
              | (refine wpl_load_hs (by rfl) (.tmp 12) rfl rfl HHB1.out ?_)
              | (go_at_call 27; (with_reducible refine (HWL.out _ (HV.out _ _ HO1.out.op.ex0)).mono ?_); rintro e w2 ⟨rfl, hb⟩; have HB02 := Lib.hid (bch HB01.out hb); have HO2 := Lib.hid ((HO1.out.next hH.out hb).live hH.out s); obtain ⟨q1, q0, qf, q2⟩ := B4.cells HO2.out.bx; clear hb p1 p0 pf)
              | (go_at_call 28; (with_reducible refine (HMS.out _ _ _ HO2.out.op.dk).mono ?_); rintro e w3 ⟨rfl, hb⟩; have HZ3 := Lib.hid (Nat.le_trans HB02.out.size (Nat.le_trans (balloc w2 (oC 9 (.string s))).size hb.size)); have HO3 := Lib.hid (HO2.out.next hH.out hb); obtain ⟨r1, r0, rf, r2⟩ := B4.cells HO3.out.bx; clear hb q1 q0 qf q2)
              | (go_at_call 29; (with_reducible refine (HTK.out _ _ _ HO3.out.op.dk HO3.out.op.ex0).mono ?_); rintro e w4 ⟨F4, rfl, hk4, hx4⟩; have HZ4 := Lib.hid (Nat.le_trans HZ3.out hx4.size); have HO5 := Lib.hid ((HO3.out.ext hk4 hx4).free hH.out u); have HHB5 := Lib.hid (HO5.out.bx.hb HXN.out (g := w.heap.size + 1) (by simp [B5])); obtain ⟨t1, t0, tf, t2, t3⟩ := B5.cells HO5.out.bx; clear hk4 hx4 r1 r0 rf r2)
              | (go_at_call 32; (with_reducible refine (HPR.out _ _ _ HO5.out.op.dk HO5.out.op.ex0).mono ?_); rintro e w5 ⟨F5, rfl, hk5, hx5⟩; have HO6 := Lib.hid (HO5.out.ext hk5 hx5); obtain ⟨v1, v0, vf, v2, v3⟩ := B5.cells HO6.out.bx; clear hk5 hx5 t1 t0 tf t2 t3))
            have HL1 := Lib.hid (show w2.heap.size ≠ w.heap.size + 2 from fun e => by have h1 := HS3.out; have h2 := HO2.out.op.ex.size; have h3 := HB02.out.size; omega)
            have HL2 := Lib.hid (show w4.heap.size ≠ w.heap.size + 2 from fun e => by have h1 := HS3.out; have h3 := HZ4.out; omega)
            have HO7 := Lib.hid (HO6.out.set hH.out (by simp; exact ⟨HL1.out, HL2.out⟩) (.int .i64 e3))
            refine leaves_cons (f := 30) (args := #[.pointer (some ⟨w.heap.size + 2, 0, none⟩), .pointer (some ⟨w.heap.size, 0, none⟩), .pointer (some ⟨w4.heap.size, 0, none⟩), .pointer (some ⟨w2.heap.size, 0, none⟩)]) (by simp) (by simp [go_sem]) ?_
            refine (HDF.out _ _ _ _ HO7.out.bx).mono ?_
            rintro e u' w6 ⟨rfl, rfl, rfl⟩
            obtain ⟨z1, z0, zf, z2, z3⟩ := B5.cells HO7.out.bx
            exact ⟨_, results_errno rfl _ _ (w.heap.size + 2) _ rfl z0, _, rfl, HO7.out.op.dk, HO7.out.op.ex⟩
      · rw [if_neg (show ¬ e2 = 0 from h2)]
        have be : (e2 == 0) = false := by simpa using h2
        clear hg2 hk hx hs hv0
        focus
          go_enter_defers Tryz.func9, Tryz.ntmps9
          go_wp2_with (first
            | (refine wpl_load_hd (by rfl) (.tmp 3) rfl rfl (show HB w0 (w.heap.size + 1) x from HHB.out) ?_)
            | (go_at_call 26; (with_reducible refine (HRT.out _).mono ?_); rintro e w1 ⟨rfl, hb⟩; have HO1 := Lib.hid (HO.out.next hH.out hb); have HHB1 := Lib.hid (HHB.out.keep hb); have HB01 := Lib.hid hb; obtain ⟨p1, p0, pf⟩ := B3.cells HO1.out.bx; clear hb c1 c0 f0)
            | (refine wpl_load_hs (by rfl) (.tmp 12) rfl rfl HHB1.out ?_)
            | (go_at_call 27; (with_reducible refine (HWL.out _ (HV.out _ _ HO1.out.op.ex0)).mono ?_); rintro e w2 ⟨rfl, hb⟩; have HB02 := Lib.hid (bch HB01.out hb); have HO2 := Lib.hid ((HO1.out.next hH.out hb).live hH.out s); obtain ⟨q1, q0, qf, q2⟩ := B4.cells HO2.out.bx; clear hb p1 p0 pf)
            | (go_at_call 28; (with_reducible refine (HMS.out _ _ _ HO2.out.op.dk).mono ?_); rintro e w3 ⟨rfl, hb⟩; have HZ3 := Lib.hid (Nat.le_trans HB02.out.size (Nat.le_trans (balloc w2 (oC 9 (.string s))).size hb.size)); have HO3 := Lib.hid (HO2.out.next hH.out hb); obtain ⟨r1, r0, rf, r2⟩ := B4.cells HO3.out.bx; clear hb q1 q0 qf q2)
            | (go_at_call 29; (with_reducible refine (HTK.out _ _ _ HO3.out.op.dk HO3.out.op.ex0).mono ?_); rintro e w4 ⟨F4, rfl, hk4, hx4⟩; have HZ4 := Lib.hid (Nat.le_trans HZ3.out hx4.size); have HO5 := Lib.hid ((HO3.out.ext hk4 hx4).free hH.out u); have HHB5 := Lib.hid (HO5.out.bx.hb HXN.out (g := w.heap.size + 1) (by simp [B5])); obtain ⟨t1, t0, tf, t2, t3⟩ := B5.cells HO5.out.bx; clear hk4 hx4 r1 r0 rf r2))
          have HL1 := Lib.hid (show w2.heap.size ≠ w.heap.size + 2 from fun e => by have h1 := HS3.out; have h2 := HO2.out.op.ex.size; have h3 := HB02.out.size; omega)
          have HL2 := Lib.hid (show w4.heap.size ≠ w.heap.size + 2 from fun e => by have h1 := HS3.out; have h3 := HZ4.out; omega)
          have HO7 := Lib.hid (HO5.out.set hH.out (by simp; exact ⟨HL1.out, HL2.out⟩) (.int .i64 e2))
          obtain ⟨z1, z0, zf, z2, z3⟩ := B5.cells HO7.out.bx
          exact ⟨_, results_errno rfl _ _ (w.heap.size + 2) _ rfl z0, _, rfl, HO7.out.op.dk, HO7.out.op.ex⟩
    · rw [begin_miss hk (by rw [hs]; exact he0) h00]
      have be : (e0 == 0) = false := by simpa using h00
      clear hg hk hx hs he0 hv0
      focus
        go_enter_defers Tryz.func9, Tryz.ntmps9
        go_wp2_with (first
          | (refine wpl_load_hd (by rfl) (.tmp 3) rfl rfl (show HB w0 (w.heap.size + 1) x from HHB.out) ?_)
          | (go_at_call 26; (with_reducible refine (HRT.out _).mono ?_); rintro e w1 ⟨rfl, hb⟩; have HO1 := Lib.hid (HO.out.next hH.out hb); have HHB1 := Lib.hid (HHB.out.keep hb); have HB01 := Lib.hid hb; obtain ⟨p1, p0, pf⟩ := B3.cells HO1.out.bx; clear hb c1 c0 f0)
          | (refine wpl_load_hs (by rfl) (.tmp 12) rfl rfl HHB1.out ?_)
          | (go_at_call 27; (with_reducible refine (HWL.out _ (HV.out _ _ HO1.out.op.ex0)).mono ?_); rintro e w2 ⟨rfl, hb⟩; have HB02 := Lib.hid (bch HB01.out hb); have HO2 := Lib.hid ((HO1.out.next hH.out hb).live hH.out s); obtain ⟨q1, q0, qf, q2⟩ := B4.cells HO2.out.bx; clear hb p1 p0 pf)
          | (go_at_call 28; (with_reducible refine (HMS.out _ _ _ HO2.out.op.dk).mono ?_); rintro e w3 ⟨rfl, hb⟩; have HZ3 := Lib.hid (Nat.le_trans HB02.out.size (Nat.le_trans (balloc w2 (oC 9 (.string s))).size hb.size)); have HO3 := Lib.hid (HO2.out.next hH.out hb); obtain ⟨r1, r0, rf, r2⟩ := B4.cells HO3.out.bx; clear hb q1 q0 qf q2))
        have HL1 := Lib.hid (show w2.heap.size ≠ w.heap.size + 2 from fun e => by have h1 := HS3.out; have h2 := HO2.out.op.ex.size; have h3 := HB02.out.size; omega)
        have HO7 := Lib.hid (HO3.out.set hH.out (by simp; exact HL1.out) (.int .i64 e0))
        obtain ⟨z1, z0, zf, z2⟩ := B4.cells HO7.out.bx
        exact ⟨_, results_errno rfl _ _ (w.heap.size + 2) _ rfl z0, _, rfl, HO7.out.op.dk, HO7.out.op.ex⟩
end Go.Proofs.YtgegbpnmfpjdmaaGreatDoor
namespace Go.Proofs.YtgegbpnmfpjdmaaGreatDoor
open Go.RowKit
theorem itoa_three : Lib.itoa 1 = [49] ∧ Lib.itoa 2 = [50] ∧ Lib.itoa 3 = [51] := by
  refine ⟨?_, ?_, ?_⟩
  · rw [show (1 : Int) = ((1 : Nat) : Int) from rfl, itoa_nat, Lib.decDigits_one (by omega)]; rfl
  · rw [show (2 : Int) = ((2 : Nat) : Int) from rfl, itoa_nat, Lib.decDigits_one (by omega)]; rfl
  · rw [show (3 : Int) = ((3 : Nat) : Int) from rfl, itoa_nat, Lib.decDigits_one (by omega)]; rfl
theorem wal_lits : walB 1 = ⟨#[119, 97, 108, 45, 49]⟩ ∧ walB 2 = ⟨#[119, 97, 108, 45, 50]⟩ ∧ walB 3 = ⟨#[119, 97, 108, 45, 51]⟩ := by
  obtain ⟨h1, h2, h3⟩ := itoa_three
  unfold walB
  rw [walN_in (n := 1) (by omega) (by omega), walN_in (n := 2) (by omega) (by omega), walN_in (n := 3) (by omega) (by omega), h1, h2, h3]
  exact ⟨rfl, rfl, rfl⟩
end Go.Proofs.YtgegbpnmfpjdmaaGreatDoor
