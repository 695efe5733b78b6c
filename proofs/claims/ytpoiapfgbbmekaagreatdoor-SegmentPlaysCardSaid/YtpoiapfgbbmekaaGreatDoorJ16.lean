/-
  TEXTS JOINED: SegBox, SegPrep, SegBegin, SegFreshM, DiskLawSecs, Same, DiskDoSt. Each one's own words stand at its head.
-/
import Derived.Test.YtpoiapfgbbmekaaGreatDoorJ15
import Derived.Test.YtpoiapfgbbmekaaGreatDoorJ11
import Derived.Defers
import Derived.Test.YtpoiapfgbbmekaaGreatDoorJ12
import Derived.Test.YtpoiapfgbbmekaaGreatDoorJ7
import Derived.Test.YtpoiapfgbbmekaaGreatDoorJ3
import Derived.Test.YtpoiapfgbbmekaaGreatDoorJ5
import Derived.Test.YtpoiapfgbbmekaaGreatDoorJ0
import Derived.Test.YtpoiapfgbbmekaaGreatDoorJ2
namespace Go.Proofs.YtpoiapfgbbmekaaGreatDoor
open Go.RowKit
variable {DK : World → Addr → (Nat → Bool) → AD → Prop}
abbrev oC (t : TypeId) (v : Value) : Obj := .cells #[v] t (0, 0)
abbrev oH (x : Hdr) : Obj := .cells (hv x) 34 (0, 0)
def BX (F : Nat → Bool) (W : World) (l : List (Nat × Obj)) : Prop := ∀ q ∈ l, W.heap[q.1]? = some q.2 ∧ F q.1 = false
theorem blk_lt {W : World} {b : Nat} {o : Obj} (h : W.heap[b]? = some o) : b < W.heap.size := (Array.getElem?_eq_some_iff.1 h).1
theorem BX.nil (F : Nat → Bool) (W : World) : BX F W [] := fun q hq => by simp at hq
theorem BX.below {F : Nat → Bool} {W W' : World} {l : List (Nat × Obj)} (h : BX F W l) (hb : Below W.heap.size W W') : BX F W' l :=
  fun q hq => ⟨(hb.block q.1 (blk_lt (h q hq).1)).trans (h q hq).1, (h q hq).2⟩
theorem BX.ext {F F' : Nat → Bool} {W W' : World} {l : List (Nat × Obj)} (h : BX F W l) (hx : Ext F W W' F') : BX F' W' l :=
  fun q hq => ⟨(hx.block q.1 (blk_lt (h q hq).1) (h q hq).2).trans (h q hq).1, (hx.foot q.1 (blk_lt (h q hq).1)).trans (h q hq).2⟩
theorem foot_off {F : Nat → Bool} {n k : Nat} (h : Foot F n) (hk : n ≤ k) : F k = false := by
  cases hq : F k with
  | false => rfl
  | true => have := h k hq; omega
theorem BX.alloc {F : Nat → Bool} {W : World} {l : List (Nat × Obj)} (h : BX F W l) (hF : Foot F W.heap.size) (o : Obj) {g : Nat} (hg : W.heap.size = g) : BX F (W.alloc o) ((g, o) :: l) := by
  subst hg
  intro q hq
  rcases List.mem_cons.1 hq with rfl | hq
  · exact ⟨heap_alloc_last W o, foot_off hF (Nat.le_refl _)⟩
  · exact h.below (below_alloc W o) q hq
theorem BX.sub {F : Nat → Bool} {W : World} {l l' : List (Nat × Obj)} (h : BX F W l) (hs : ∀ q ∈ l', q ∈ l) : BX F W l' := fun q hq => h q (hs q hq)
theorem BX.one {F : Nat → Bool} {W : World} {l : List (Nat × Obj)} (h : BX F W l) {g : Nat} {t : TypeId} {v : Value} (hm : (g, oC t v) ∈ l) : W.cell? ⟨g, 0, none⟩ = some v ∧ W.frozen? ⟨g, 0, none⟩ = false :=
  ⟨cell_of_row W g 0 _ _ _ (h _ hm).1, Joins.unfrozen_of_block (h _ hm).1 0⟩
theorem BX.hb {F : Nat → Bool} {W : World} {l : List (Nat × Obj)} (h : BX F W l) {g : Nat} {x : Hdr} (hn : x.l.length = 4) (hm : (g, oH x) ∈ l) : HB W g x := ⟨(h _ hm).1, hn⟩
theorem BX.set {F : Nat → Bool} {W : World} {l : List (Nat × Obj)} (h : BX F W l) (g : Nat) (v : Value) (hg : ∀ q ∈ l, q.1 ≠ g) : BX F (W.setCell ⟨g, 0, none⟩ v) l :=
  fun q hq => ⟨(heap_setCell_other W ⟨g, 0, none⟩ q.1 v (hg q hq)).trans (h q hq).1, (h q hq).2⟩
theorem BX.put {W : World} {g : Nat} {t : TypeId} {v : Value} (hm : W.heap[g]? = some (oC t v)) (v' : Value) : (W.setCell ⟨g, 0, none⟩ v').heap[g]? = some (oC t v') := by
  have := Joins.block_setCell (i := 0) hm v'
  simpa using this
theorem Ext.newCell {F F1 : Nat → Bool} {w W : World} (h : Ext F w W F1) {g : Nat} (hg : w.heap.size ≤ g) (v : Value) : Ext F w (W.setCell ⟨g, 0, none⟩ v) F1 :=
  ⟨h.os, h.tape, h.output, by simpa using h.size, fun k hk hf => (heap_setCell_other W ⟨g, 0, none⟩ k v (by show k ≠ g; omega)).trans (h.block k hk hf), h.foot⟩
theorem DiskSays.cell (H : DiskSays DK) {W : World} {p : Addr} {F : Nat → Bool} {d : AD} (h : DK W p F d) {g : Nat} (hg : F g = false) (v : Value) : DK (W.setCell ⟨g, 0, none⟩ v) p F d :=
  H.keep h (by simp) fun k hk => heap_setCell_other W ⟨g, 0, none⟩ k v (by show k ≠ g; rintro rfl; rw [hg] at hk; simp at hk)
theorem results_errno {fn : Func} {p : Tmp} (h : fn.results = #[.cell p 41]) (tmps : Array Value) (w : World) (g : Nat) (v : Int) (hp : tmps.getD p undef = .pointer (some ⟨g, 0, none⟩)) (hc : w.cell? ⟨g, 0, none⟩ = some (.int .i64 v)) :
    (results fn tmps).run Tryz.prog w = .ok (.int .i64 v) w := by
  have hp2 : tmps[p]?.getD undef = .pointer (some ⟨g, 0, none⟩) := by simpa using hp
  simp only [results, h]
  simp [hp2, go_sem, hc]
structure OB (DK : World → Addr → (Nat → Bool) → AD → Prop) (W0 : World) (F : Nat → Bool) (w : World) (p : Addr) (F1 : Nat → Bool) (d : AD) (l : List (Nat × Obj)) (W : World) : Prop where
  op : OPn DK W0 F w p F1 d W
  bx : BX F1 W l
  lo : ∀ q ∈ l, w.heap.size ≤ q.1
  h0 : W0.heap.size ≤ w.heap.size
theorem OB.next (H : DiskSays DK) {W0 : World} {F : Nat → Bool} {w : World} {p : Addr} {F1 : Nat → Bool} {d : AD} {l : List (Nat × Obj)} {W W' : World} (h : OB DK W0 F w p F1 d l W) (hb : Below W.heap.size W W') : OB DK W0 F w p F1 d l W' :=
  ⟨h.op.next H hb, h.bx.below hb, h.lo, h.h0⟩
theorem OB.ext {W0 : World} {F : Nat → Bool} {w : World} {p : Addr} {F1 F2 : Nat → Bool} {d d' : AD} {l : List (Nat × Obj)} {W W' : World} (h : OB DK W0 F w p F1 d l W) (hk : DK W' p F2 d') (hx : Ext F1 W W' F2) : OB DK W0 F w p F2 d' l W' :=
  ⟨h.op.op hk hx, h.bx.ext hx, h.lo, h.h0⟩
theorem OB.alloc (H : DiskSays DK) {W0 : World} {F : Nat → Bool} {w : World} {p : Addr} {F1 : Nat → Bool} {d : AD} {l : List (Nat × Obj)} {W : World} (h : OB DK W0 F w p F1 d l W) (o : Obj) {g : Nat} (hg : W.heap.size = g) : OB DK W0 F w p F1 d ((g, o) :: l) (W.alloc o) :=
  ⟨h.op.next H (below_alloc W o), h.bx.alloc (H.foot h.op.dk) o hg, fun q hq => by
    rcases List.mem_cons.1 hq with rfl | hq
    · rw [← hg]; exact h.op.ex.size
    · exact h.lo q hq, h.h0⟩
theorem OB.set (H : DiskSays DK) {W0 : World} {F : Nat → Bool} {w : World} {p : Addr} {F1 : Nat → Bool} {d : AD} {l : List (Nat × Obj)} {W : World} {g : Nat} {t : TypeId} {v : Value} (h : OB DK W0 F w p F1 d ((g, oC t v) :: l) W) (hne : ∀ q ∈ l, q.1 ≠ g) (v' : Value) :
    OB DK W0 F w p F1 d ((g, oC t v') :: l) (W.setCell ⟨g, 0, none⟩ v') := by
  have hm := h.bx (g, oC t v) (by simp)
  have hlo := h.lo (g, oC t v) (by simp)
  refine ⟨⟨H.cell h.op.dk hm.2 v', h.op.ex.newCell hlo v', h.op.ex0.newCell (Nat.le_trans h.h0 hlo) v', h.op.pow0⟩, ?_, ?_, h.h0⟩
  · intro q hq
    rcases List.mem_cons.1 hq with rfl | hq
    · exact ⟨BX.put hm.1 v', hm.2⟩
    · exact (BX.set (l := l) (fun q hq => h.bx q (List.mem_cons_of_mem _ hq)) g v' hne) q hq
  · intro q hq
    rcases List.mem_cons.1 hq with rfl | hq
    · exact hlo
    · exact h.lo q (List.mem_cons_of_mem _ hq)
end Go.Proofs.YtpoiapfgbbmekaaGreatDoor
namespace Go.Proofs.YtpoiapfgbbmekaaGreatDoor
open Go.RowKit
variable {DK : World → Addr → (Nat → Bool) → AD → Prop}
theorem mf_seg (P : Program) : ∀ (fn : Fn) (first cap : Array Value) (w : World), (Instr.makeFunc fn first cap).run P w = .ok (.func fn first cap) w := fun _ _ _ _ => rfl
theorem OB.sub {W0 : World} {F : Nat → Bool} {w : World} {p : Addr} {F1 : Nat → Bool} {d : AD} {l l' : List (Nat × Obj)} {W : World} (h : OB DK W0 F w p F1 d l W) (hs : ∀ q ∈ l', q ∈ l) : OB DK W0 F w p F1 d l' W :=
  ⟨h.op, h.bx.sub hs, fun q hq => h.lo q (hs q hq), h.h0⟩
theorem ssync_of (H : DiskSays DK) {d d2 : AD} {s : ByteArray} {e2 : Int} (hg : Good d) (hs : s.size ≤ 281474976710656) (h : d.syncR s = (d2, e2)) : Hid (∀ w p F, DK w p F d → Calls Tryz.prog 22 #[ptr p, .string s] w fun e w' => ∃ F', e = .returned (.int .i64 e2) ∧ DK w' p F' d2 ∧ Ext F w w' F') :=
  Lib.hid fun w p F hk => by
    have := H.sync w p F d s hk hg hs
    rwa [h] at this
theorem swrite_of (H : DiskSays DK) {d d2 : AD} {s : ByteArray} {e2 : Int} {l : List Int} (hg : Good d) (hs : s.size ≤ 281474976710656) (hb : Bytes l) (h : d.writeR s 0 17 l = (d2, e2)) : Hid (∀ w p F v, DK w p F d → FS (mask F w) v 17 l → Calls Tryz.prog 19 #[ptr p, .string s, .int .i64 0, v] w fun e w' => ∃ F', e = .returned (.int .i64 e2) ∧ DK w' p F' d2 ∧ Ext F w w' F') :=
  Lib.hid fun w p F v hk hf => by
    have := H.write w p F d s 0 v 17 l hk hg hs (by unfold I63; omega) hf hb (by omega)
    rwa [h] at this
theorem RW.mask {w : World} {g : Nat} {zs : List Int} {F : Nat → Bool} (h : RW w g zs) (hf : F g = false) : RW (mask F w) g zs := by
  unfold RW at *
  rw [mask_heap, h]; simp [hf]
abbrev L4 (c a b g : Nat) (p : Addr) (s : ByteArray) (x : Hdr) (v : Int) : List (Nat × Obj) := [(c, oC 41 (.int .i64 v)), (a, oC 24 (ptr p)), (b, oC 9 (.string s)), (g, oH x)]
theorem L4.cells {F : Nat → Bool} {W : World} {c a b g : Nat} {p : Addr} {s : ByteArray} {x : Hdr} {v : Int} (h : BX F W (L4 c a b g p s x v)) :
    W.cell? ⟨a, 0, none⟩ = some (ptr p) ∧ W.cell? ⟨b, 0, none⟩ = some (.string s) ∧ W.cell? ⟨c, 0, none⟩ = some (.int .i64 v) ∧ W.frozen? ⟨c, 0, none⟩ = false :=
  ⟨(h.one (g := a) (t := 24) (v := ptr p) (by simp [L4])).1, (h.one (g := b) (t := 9) (v := .string s) (by simp [L4])).1, (h.one (g := c) (t := 41) (v := .int .i64 v) (by simp [L4])).1, (h.one (g := c) (t := 41) (v := .int .i64 v) (by simp [L4])).2⟩
theorem kinfs (H : DiskSays DK) {W0 w : World} {p : Addr} {F F1 : Nat → Bool} {d : AD} {l : List (Nat × Obj)} {W w' : World} {g : Nat} {zs : List Int} (h : OB DK W0 F w p F1 d l W) (hr : RW w' g zs) (hl : zs.length = 17 * 64) (hg : W.heap.size ≤ g) : FS (mask F1 w') (.slice (some ⟨g, 0, none⟩) 17 17) 17 zs :=
  (hr.mask (foot_off (H.foot h.op.dk) hg)).fs hl (by omega)
theorem sprep1_sync (H : DiskSays DK) {d d2 : AD} {s : ByteArray} {e2 : Int} (hg : Good d) (hs : s.size ≤ 281474976710656) (hr : d.syncR s = (d2, e2)) (W0 w : World) (p : Addr) (F F1 : Nat → Bool) (c a b g : Nat) (hac : a ≠ c) (hbc : b ≠ c) (hgc : g ≠ c) (x : Hdr) (u : FrameMode) (W : World)
    (h : OB DK W0 F w p F1 d (L4 c a b g p s x 0) W) :
    CallsD Tryz.prog 42 #[.pointer (some ⟨c, 0, none⟩), .pointer (some ⟨a, 0, none⟩), .pointer (some ⟨b, 0, none⟩)] u W fun e u' w' => u' = u ∧ (e = .returned (.tuple #[]) ∧ ∃ F2, OB DK W0 F w p F2 d2 (L4 c a b g p s x e2) w') := by
  have hH := Lib.hid H
  have HO := Lib.hid h
  have HSY := ssync_of H hg hs hr
  obtain ⟨c1, c2, c0, f0⟩ := L4.cells h.bx
  clear h hg hr
  go_enter_d Tryz.func42, Tryz.ntmps42
  go_wp2_with (first
    | (go_at_call 22; (with_reducible refine (HSY.out _ _ _ HO.out.op.dk).mono ?_); rintro e w1 ⟨F2, rfl, hk, hx⟩; have HO1 := Lib.hid (HO.out.ext hk hx); obtain ⟨d1, d2, d0, g0⟩ := L4.cells HO1.out.bx; clear hk hx c0 c1 c2 f0))
  go_end0
  exact ⟨rfl, F2, HO1.out.set hH.out (by simp [hac, hbc, hgc]) _⟩
theorem sprep1_stop (s : ByteArray) (v : Int) (hv : v ≠ 0) (p : Addr) (F : Nat → Bool) (c a b g : Nat) (x : Hdr) (u : FrameMode) (W : World) (h : BX F W (L4 c a b g p s x v)) :
    CallsD Tryz.prog 42 #[.pointer (some ⟨c, 0, none⟩), .pointer (some ⟨a, 0, none⟩), .pointer (some ⟨b, 0, none⟩)] u W fun e u' w' => u' = u ∧ (e = .returned (.tuple #[]) ∧ w' = W) := by
  obtain ⟨c1, c2, c0, f0⟩ := L4.cells h
  have bv : (v == 0) = false := by simpa using hv
  clear h hv
  go_enter_d Tryz.func42, Tryz.ntmps42
  go_wp2
  go_end0
  exact ⟨rfl, rfl⟩
theorem OB.start4 (H : DiskSays DK) {W0 w : World} {p : Addr} {F : Nat → Bool} {d : AD} (h : DK w p F d) (hp : Pow W0) (hx0 : Ext (fun _ => false) W0 w F) (s : ByteArray) (x : Hdr) :
    OB DK W0 F w p F d (L4 (w.heap.size + 3) w.heap.size (w.heap.size + 1) (w.heap.size + 2) p s x 0) ((((w.alloc (oC 24 (ptr p))).alloc (oC 9 (.string s))).alloc (oH x)).alloc (oC 41 (.int .i64 0))) := by
  have h0 : OB DK W0 F w p F d [] w := ⟨⟨h, Ext.refl F w, hx0, hp⟩, BX.nil _ _, fun q hq => by simp at hq, hx0.size⟩
  have h1 := h0.alloc H (oC 24 (ptr p)) rfl
  have h2 := h1.alloc H (oC 9 (.string s)) (g := w.heap.size + 1) (by rw [alloc_size])
  have h3 := h2.alloc H (oH x) (g := w.heap.size + 2) (by rw [alloc_size, alloc_size])
  have h4 := h3.alloc H (oC 41 (.int .i64 0)) (g := w.heap.size + 3) (by rw [alloc_size, alloc_size, alloc_size])
  refine h4.sub fun q hq => ?_
  simp only [L4, List.mem_cons, List.not_mem_nil, or_false] at hq ⊢
  rcases hq with rfl | rfl | rfl | rfl <;> simp
theorem prep_found {d : AD} {s : ByteArray} {x : Hdr} {m : Nat} {fs : List Int} (hk : ¬ (hdOk x = false ∨ 16 < m)) {e : Int} (he : foundI d s = e) (h0 : e ≠ 0) : d.prepR s x m fs = (d, e) := by
  unfold AD.prepR
  rw [if_neg hk]
  unfold foundI at he
  split at he
  · rename_i h; rw [if_pos h, he]
  · rename_i h
    rw [if_neg h]
    split at he
    · rename_i h2; rw [if_pos h2, he]
    · exact absurd he.symm h0
theorem prep_there {d : AD} {s : ByteArray} {x : Hdr} {m : Nat} {fs : List Int} (hk : ¬ (hdOk x = false ∨ 16 < m)) (he : foundI d s = 0) {n : Int} (hn : szI d s = n) :
    d.prepR s x m fs = if n = 17 then d.laidR s (layL x m fs) else (d, 4) := by
  unfold AD.prepR
  rw [if_neg hk]
  unfold foundI at he
  split at he
  · simp at he
  rename_i h
  rw [if_neg h]
  split at he
  · simp at he
  rename_i h2
  rw [if_neg h2]
  unfold szI at hn
  rw [if_pos (Decidable.not_not.1 h2)] at hn
  by_cases h17 : (d.get s).n = 17
  · rw [if_neg (by simp [h17]), if_pos (by omega)]
  · rw [if_pos h17, if_neg (by omega)]
set_option maxRecDepth 8000 in
set_option maxHeartbeats 4000000 in
theorem sprep_any (H : DiskSays DK) (W0 w : World) (p : Addr) (F : Nat → Bool) (d : AD) (s : ByteArray) (x : Hdr) (v : Value) (m : Nat) (fs : List Int) (h : DK w p F d) (hg : Good d) (hv0 : VT W0) (hx0 : Ext (fun _ => false) W0 w F)
    (hs : s.size ≤ 281474976710656) (hx : HdT x) (hf : FS w v m fs) (hb : Bytes fs) (hm : m ≤ 1000000) :
    Calls Tryz.prog 11 #[ptr p, .string s, .agg (hv x), v] w fun e w' => ∃ F', e = .returned (.int .i64 (d.prepR s x m fs).2) ∧ DK w' p F' (d.prepR s x m fs).1 ∧ Ext F w w' F' := by
  have hH := Lib.hid H
  have hmf := mf_seg Tryz.prog
  have hst := OB.start4 H h hv0.vars.pow hx0 s x
  obtain ⟨w0, hw0⟩ : ∃ q, (((w.alloc (.cells #[ptr p] 24)).alloc (.cells #[.string s] 9)).alloc (.cells (hv x) 34)).alloc (.cells #[.int .i64 0] 41) = q := ⟨_, rfl⟩
  have hbw : Below w.heap.size w w0 := by rw [← hw0]; exact bch (bch (bch (balloc _ _) (balloc _ _)) (balloc _ _)) (balloc _ _)
  rw [show ((((w.alloc (oC 24 (ptr p))).alloc (oC 9 (.string s))).alloc (oH x)).alloc (oC 41 (.int .i64 0))) = w0 from hw0] at hst
  have HO := Lib.hid hst
  have HV := Lib.hid (hv0.ext hst.op.ex0)
  have HXN := Lib.hid hx.n
  have HHB := Lib.hid (hst.bx.hb hx.n (g := w.heap.size + 2) (by simp [L4]))
  have HF0 := Lib.hid (hf.keep hbw)
  obtain ⟨c1, c2, c0, f0⟩ := L4.cells hst.bx
  clear hst h hv0 hx0 hbw
  by_cases hk : hdOk x = false ∨ 16 < m
  · rw [show d.prepR s x m fs = (d, 13) from if_pos hk]
    have HLY : Hid (∀ w, Tab w → FS w v m fs → Calls Tryz.prog 39 #[.agg (hv x), v] w fun r w' => r = .returned (.tuple #[.slice none 0 0, .int .i64 13]) ∧ Below w.heap.size w w') := Lib.hid fun w hT hf => slay_no x hx v m fs w hT hf hm hk
    clear hg hx hf hb hk
    go_enter_defers Tryz.func11, Tryz.ntmps11
    go_wp2_with (first
      | (refine wpl_load_hd (by rfl) (.tmp 6) rfl rfl (show HB w0 (w.heap.size + 2) x from HHB.out) ?_)
      | (go_at_call 39; (with_reducible refine (HLY.out _ HV.out.tab HF0.out).mono ?_); rintro e w1 ⟨rfl, hb⟩; have HO1 := Lib.hid (HO.out.next hH.out hb); obtain ⟨p1, p2, p0, pf⟩ := L4.cells HO1.out.bx; clear c1 c2 c0 f0; clear hb))
    obtain ⟨z1, z2, z0, zf⟩ := L4.cells (HO1.out.set hH.out (by simp) _).bx
    exact ⟨_, results_errno rfl _ _ (w.heap.size + 3) _ rfl z0, F, rfl, (HO1.out.set hH.out (by simp) _).op.dk, (HO1.out.set hH.out (by simp) _).op.ex⟩
  have hm16 : m ≤ 16 := by omega
  have hkk : hdOk x = true := by
    cases hq : hdOk x with
    | true => rfl
    | false => exact absurd (.inl hq) hk
  obtain ⟨ly, hly⟩ : ∃ l, layL x m fs = l := ⟨_, rfl⟩
  have HLY : Hid (∀ w, Tab w → FS w v m fs → Calls Tryz.prog 39 #[.agg (hv x), v] w fun r w' => ∃ g, r = .returned (.tuple #[.slice (some ⟨g, 0, none⟩) 17 17, .int .i64 0]) ∧ RW w' g ly ∧ w.heap.size ≤ g ∧ Below w.heap.size w w') := Lib.hid fun w hT hf => by
    rw [← hly]; exact slay_ok x hx v m fs w hT hf hkk hm16
  have hlyl : ly.length = 17 * 64 := by rw [← hly]; exact layL_length hx.n hm16 hf.length
  have hlyb : Bytes ly := by rw [← hly]; exact layL_bytes x m hb
  have HLL := Lib.hid hlyl
  obtain ⟨e0, he0⟩ : ∃ e, foundI d s = e := ⟨_, rfl⟩
  have HFD := sfound_of H hg hs he0
  by_cases h00 : e0 = 0
  · subst h00
    obtain ⟨n, hn⟩ : ∃ n, szI d s = n := ⟨_, rfl⟩
    have HZ := psize_of H hg hs hn
    rw [prep_there hk he0 hn, hly]
    clear hk hkk hx hf hb hly he0 hn
    by_cases h17 : n = 17
    · rw [if_pos h17]
      subst h17
      have hgw := hg.write s 0 17 ly hlyl hlyb
      unfold AD.laidR
      obtain ⟨⟨d2, e2⟩, hr⟩ : ∃ r, d.writeR s 0 17 ly = r := ⟨_, rfl⟩
      have HWR := swrite_of H hg hs hlyb hr
      rw [hr] at hgw ⊢
      clear hr hlyb hlyl
      have hne : ∀ j, j < 3 → w.heap.size + j ≠ w.heap.size + 3 := by omega
      by_cases he : e2 = 0
      · subst he
        rw [if_pos rfl]
        obtain ⟨⟨d3, e3⟩, hr⟩ : ∃ r, d2.syncR s = r := ⟨_, rfl⟩
        have HDF := Lib.hid fun W F1 (hO : OB DK W0 F w p F1 d2 (L4 (w.heap.size + 3) w.heap.size (w.heap.size + 1) (w.heap.size + 2) p s x 0) W) => sprep1_sync H hgw hs hr W0 w p F F1 (w.heap.size + 3) w.heap.size (w.heap.size + 1) (w.heap.size + 2) (hne 0 (by omega)) (hne 1 (by omega)) (hne 2 (by omega)) x .returning W hO
        rw [show (d2, (0 : Int)).1 = d2 from rfl, hr]
        clear hr hgw hg
        go_enter_defers Tryz.func11, Tryz.ntmps11
        go_wp2_with (first
          | (refine wpl_load_hd (by rfl) (.tmp 6) rfl rfl (show HB w0 (w.heap.size + 2) x from HHB.out) ?_)
          | (go_at_call 39; (with_reducible refine (HLY.out _ HV.out.tab HF0.out).mono ?_); rintro e w1 ⟨g, rfl, hrw, hg1, hb⟩; have HFM1 := Lib.hid (kinfs hH.out HO.out hrw HLL.out hg1); have HO1 := Lib.hid (HO.out.next hH.out hb); obtain ⟨p1, p2, p0, pf⟩ := L4.cells HO1.out.bx; clear c1 c2 c0 f0; clear hb hrw)
          | (go_at_call 40; (with_reducible refine (HFD.out _ _ _ HO1.out.op.dk).mono ?_); rintro e w2 ⟨rfl, hb⟩; have HFM2 := Lib.hid (HFM1.out.kin (kin_mask hb)); have HO2 := Lib.hid (HO1.out.next hH.out hb); obtain ⟨q1, q2, q0, qf⟩ := L4.cells HO2.out.bx; clear p1 p2 p0 pf; clear hb)
          | (go_at_call 41; (with_reducible refine (HZ.out _ _ _ HO2.out.op.dk).mono ?_); rintro e w3 ⟨rfl, hb⟩; have HFM3 := Lib.hid (HFM2.out.kin (kin_mask hb)); have HO3 := Lib.hid (HO2.out.next hH.out hb); obtain ⟨r1, r2, r0, rf⟩ := L4.cells HO3.out.bx; clear q1 q2 q0 qf; clear hb)
          | (go_at_call 19; (with_reducible refine (HWR.out _ _ _ _ HO3.out.op.dk HFM3.out).mono ?_); rintro e w4 ⟨F4, rfl, hk4, hx4⟩; have HO4 := Lib.hid (HO3.out.ext hk4 hx4); obtain ⟨t1, t2, t0, tf⟩ := L4.cells HO4.out.bx; clear r1 r2 r0 rf; clear hk4 hx4))
        have HO5 := Lib.hid (HO4.out.set hH.out (by simp) (.int .i64 0))
        refine leaves_cons (f := 42) (args := #[.pointer (some ⟨w.heap.size + 3, 0, none⟩), .pointer (some ⟨w.heap.size, 0, none⟩), .pointer (some ⟨w.heap.size + 1, 0, none⟩)]) (by simp) (by simp [go_sem]) ?_
        refine (HDF.out _ _ HO5.out).mono ?_
        rintro e u' w6 ⟨rfl, rfl, F6, hO6⟩
        obtain ⟨z1, z2, z0, zf⟩ := L4.cells hO6.bx
        exact ⟨_, results_errno rfl _ _ (w.heap.size + 3) _ rfl z0, F6, rfl, hO6.op.dk, hO6.op.ex⟩
      · rw [if_neg (show ¬ (d2, e2).2 = 0 from he)]
        have hev : e2 ≠ 0 := he
        have HDF := Lib.hid fun W F1 (hO : BX F1 W (L4 (w.heap.size + 3) w.heap.size (w.heap.size + 1) (w.heap.size + 2) p s x e2)) => sprep1_stop s e2 hev p F1 (w.heap.size + 3) w.heap.size (w.heap.size + 1) (w.heap.size + 2) x .returning W hO
        clear hgw hg
        go_enter_defers Tryz.func11, Tryz.ntmps11
        go_wp2_with (first
          | (refine wpl_load_hd (by rfl) (.tmp 6) rfl rfl (show HB w0 (w.heap.size + 2) x from HHB.out) ?_)
          | (go_at_call 39; (with_reducible refine (HLY.out _ HV.out.tab HF0.out).mono ?_); rintro e w1 ⟨g, rfl, hrw, hg1, hb⟩; have HFM1 := Lib.hid (kinfs hH.out HO.out hrw HLL.out hg1); have HO1 := Lib.hid (HO.out.next hH.out hb); obtain ⟨p1, p2, p0, pf⟩ := L4.cells HO1.out.bx; clear c1 c2 c0 f0; clear hb hrw)
          | (go_at_call 40; (with_reducible refine (HFD.out _ _ _ HO1.out.op.dk).mono ?_); rintro e w2 ⟨rfl, hb⟩; have HFM2 := Lib.hid (HFM1.out.kin (kin_mask hb)); have HO2 := Lib.hid (HO1.out.next hH.out hb); obtain ⟨q1, q2, q0, qf⟩ := L4.cells HO2.out.bx; clear p1 p2 p0 pf; clear hb)
          | (go_at_call 41; (with_reducible refine (HZ.out _ _ _ HO2.out.op.dk).mono ?_); rintro e w3 ⟨rfl, hb⟩; have HFM3 := Lib.hid (HFM2.out.kin (kin_mask hb)); have HO3 := Lib.hid (HO2.out.next hH.out hb); obtain ⟨r1, r2, r0, rf⟩ := L4.cells HO3.out.bx; clear q1 q2 q0 qf; clear hb)
          | (go_at_call 19; (with_reducible refine (HWR.out _ _ _ _ HO3.out.op.dk HFM3.out).mono ?_); rintro e w4 ⟨F4, rfl, hk4, hx4⟩; have HO4 := Lib.hid (HO3.out.ext hk4 hx4); obtain ⟨t1, t2, t0, tf⟩ := L4.cells HO4.out.bx; clear r1 r2 r0 rf; clear hk4 hx4))
        have HO5 := Lib.hid (HO4.out.set hH.out (by simp) (.int .i64 e2))
        refine leaves_cons (f := 42) (args := #[.pointer (some ⟨w.heap.size + 3, 0, none⟩), .pointer (some ⟨w.heap.size, 0, none⟩), .pointer (some ⟨w.heap.size + 1, 0, none⟩)]) (by simp) (by simp [go_sem]) ?_
        refine (HDF.out _ _ HO5.out.bx).mono ?_
        rintro e u' w6 ⟨rfl, rfl, rfl⟩
        obtain ⟨z1, z2, z0, zf⟩ := L4.cells HO5.out.bx
        exact ⟨_, results_errno rfl _ _ (w.heap.size + 3) _ rfl z0, _, rfl, HO5.out.op.dk, HO5.out.op.ex⟩
    · rw [if_neg h17]
      have b17 : (n == 17) = false := by simpa using h17
      clear hg hlyb hlyl
      go_enter_defers Tryz.func11, Tryz.ntmps11
      go_wp2_with (first
        | (refine wpl_load_hd (by rfl) (.tmp 6) rfl rfl (show HB w0 (w.heap.size + 2) x from HHB.out) ?_)
        | (go_at_call 39; (with_reducible refine (HLY.out _ HV.out.tab HF0.out).mono ?_); rintro e w1 ⟨g, rfl, hrw, hg1, hb⟩; have HFM1 := Lib.hid (kinfs hH.out HO.out hrw HLL.out hg1); have HO1 := Lib.hid (HO.out.next hH.out hb); obtain ⟨p1, p2, p0, pf⟩ := L4.cells HO1.out.bx; clear c1 c2 c0 f0; clear hb hrw)
        | (go_at_call 40; (with_reducible refine (HFD.out _ _ _ HO1.out.op.dk).mono ?_); rintro e w2 ⟨rfl, hb⟩; have HFM2 := Lib.hid (HFM1.out.kin (kin_mask hb)); have HO2 := Lib.hid (HO1.out.next hH.out hb); obtain ⟨q1, q2, q0, qf⟩ := L4.cells HO2.out.bx; clear p1 p2 p0 pf; clear hb)
        | (go_at_call 41; (with_reducible refine (HZ.out _ _ _ HO2.out.op.dk).mono ?_); rintro e w3 ⟨rfl, hb⟩; have HFM3 := Lib.hid (HFM2.out.kin (kin_mask hb)); have HO3 := Lib.hid (HO2.out.next hH.out hb); obtain ⟨r1, r2, r0, rf⟩ := L4.cells HO3.out.bx; clear q1 q2 q0 qf; clear hb))
      obtain ⟨z1, z2, z0, zf⟩ := L4.cells (HO3.out.set hH.out (by simp) _).bx
      exact ⟨_, results_errno rfl _ _ (w.heap.size + 3) _ rfl z0, F, rfl, (HO3.out.set hH.out (by simp) _).op.dk, (HO3.out.set hH.out (by simp) _).op.ex⟩
  · rw [prep_found hk he0 h00]
    have be : (e0 == 0) = false := by simpa using h00
    clear hg hk hkk hx hf hb hly he0 hlyb hlyl
    go_enter_defers Tryz.func11, Tryz.ntmps11
    go_wp2_with (first
      | (refine wpl_load_hd (by rfl) (.tmp 6) rfl rfl (show HB w0 (w.heap.size + 2) x from HHB.out) ?_)
      | (go_at_call 39; (with_reducible refine (HLY.out _ HV.out.tab HF0.out).mono ?_); rintro e w1 ⟨g, rfl, hrw, hg1, hb⟩; have HFM1 := Lib.hid (kinfs hH.out HO.out hrw HLL.out hg1); have HO1 := Lib.hid (HO.out.next hH.out hb); obtain ⟨p1, p2, p0, pf⟩ := L4.cells HO1.out.bx; clear c1 c2 c0 f0; clear hb hrw)
      | (go_at_call 40; (with_reducible refine (HFD.out _ _ _ HO1.out.op.dk).mono ?_); rintro e w2 ⟨rfl, hb⟩; have HFM2 := Lib.hid (HFM1.out.kin (kin_mask hb)); have HO2 := Lib.hid (HO1.out.next hH.out hb); obtain ⟨q1, q2, q0, qf⟩ := L4.cells HO2.out.bx; clear p1 p2 p0 pf; clear hb))
    obtain ⟨z1, z2, z0, zf⟩ := L4.cells (HO2.out.set hH.out (by simp) _).bx
    exact ⟨_, results_errno rfl _ _ (w.heap.size + 3) _ rfl z0, F, rfl, (HO2.out.set hH.out (by simp) _).op.dk, (HO2.out.set hH.out (by simp) _).op.ex⟩
end Go.Proofs.YtpoiapfgbbmekaaGreatDoor
namespace Go.Proofs.YtpoiapfgbbmekaaGreatDoor
open Go.RowKit
variable {DK : World → Addr → (Nat → Bool) → AD → Prop}
theorem take_size (d : AD) : d.takeR.2.1.size ≤ 281474976710656 := by
  have h0 : noS.size ≤ 281474976710656 := by decide
  unfold AD.takeR
  split
  · exact h0
  split
  · exact first_size d 17
  split
  · exact h0
  split
  · exact first_size d 0
  · exact h0
theorem begin_miss {d : AD} {x : Hdr} (hk : hdOk x = true) {e : Int} (he : missI d (walB x.s) = e) (h0 : e ≠ 0) : d.beginR x = (d, e) := by
  unfold AD.beginR AD.beginT
  rw [if_neg (by rw [hk]; simp)]
  unfold missI at he
  split at he
  · rename_i h; rw [if_pos h, he]
  · rename_i h
    rw [if_neg h]
    split at he
    · rename_i h2; rw [if_pos h2, he]
    · exact absurd he.symm h0
theorem begin_goes {d : AD} {x : Hdr} (hk : hdOk x = true) (he : missI d (walB x.s) = 0) : d.beginR x =
    if d.takeR.2.2 = 0 then (if (d.takeR.1.prepR d.takeR.2.1 x 0 []).2 = 0 then (d.takeR.1.prepR d.takeR.2.1 x 0 []).1.renameR d.takeR.2.1 (walB x.s) else d.takeR.1.prepR d.takeR.2.1 x 0 []) else (d.takeR.1, d.takeR.2.2) := by
  unfold AD.beginR AD.beginT
  rw [if_neg (by rw [hk]; simp)]
  unfold missI at he
  split at he
  · simp at he
  rename_i h
  rw [if_neg h]
  split at he
  · simp at he
  rename_i h2
  rw [if_neg h2]
theorem smiss_of (H : DiskSays DK) {d : AD} {s : ByteArray} {x : Int} (hg : Good d) (hs : s.size ≤ 281474976710656) (hx : missI d s = x) :
    Hid (∀ w p F, DK w p F d → Calls Tryz.prog 30 #[ptr p, .string s] w fun e w' => e = .returned (.int .i64 x) ∧ Below w.heap.size w w') :=
  Lib.hid fun w p F h => by rw [← hx]; exact smissing_any H w p F d s h hg hs
theorem stake_of (H : DiskSays DK) {d d2 : AD} {u : ByteArray} {e2 : Int} {W0 : World} (hg : Good d) (hp : Pow W0) (h : d.takeR = (d2, u, e2)) :
    Hid (∀ w p F, DK w p F d → Ext (fun _ => false) W0 w F → Calls Tryz.prog 31 #[ptr p] w fun e w' => ∃ F', e = .returned (.tuple #[.string u, .int .i64 e2]) ∧ DK w' p F' d2 ∧ Ext F w w' F') :=
  Lib.hid fun w p F hk hx => by
    have := ptake_any H W0 w p F d hk hg hp hx
    rwa [h] at this
theorem sprep_of (H : DiskSays DK) {d d2 : AD} {s : ByteArray} {x : Hdr} {e2 : Int} {W0 : World} (hg : Good d) (hv0 : VT W0) (hs : s.size ≤ 281474976710656) (hx : HdT x) (h : d.prepR s x 0 [] = (d2, e2)) :
    Hid (∀ w p F, DK w p F d → Ext (fun _ => false) W0 w F → Calls Tryz.prog 11 #[ptr p, .string s, .agg (hv x), .slice none 0 0] w fun e w' => ∃ F', e = .returned (.int .i64 e2) ∧ DK w' p F' d2 ∧ Ext F w w' F') :=
  Lib.hid fun w p F hk hx0 => by
    have := sprep_any H W0 w p F d s x (.slice none 0 0) 0 [] hk hg hv0 hx0 hs hx (FS.nil w) bytes_nil (by omega)
    rwa [h] at this
abbrev B3 (c a g : Nat) (p : Addr) (x : Hdr) (v : Int) : List (Nat × Obj) := [(c, oC 41 (.int .i64 v)), (a, oC 24 (ptr p)), (g, oH x)]
abbrev B4 (c a g lb : Nat) (p : Addr) (x : Hdr) (v : Int) (s : ByteArray) : List (Nat × Obj) := [(c, oC 41 (.int .i64 v)), (a, oC 24 (ptr p)), (g, oH x), (lb, oC 9 (.string s))]
abbrev B5 (c a g lb fb : Nat) (p : Addr) (x : Hdr) (v : Int) (s u : ByteArray) : List (Nat × Obj) := [(c, oC 41 (.int .i64 v)), (a, oC 24 (ptr p)), (g, oH x), (lb, oC 9 (.string s)), (fb, oC 9 (.string u))]
section
variable {F : Nat → Bool} {W : World} {c a g lb fb : Nat} {p : Addr} {x : Hdr} {v : Int} {s u : ByteArray}
theorem B3.cells (h : BX F W (B3 c a g p x v)) : W.cell? ⟨a, 0, none⟩ = some (ptr p) ∧ W.cell? ⟨c, 0, none⟩ = some (.int .i64 v) ∧ W.frozen? ⟨c, 0, none⟩ = false :=
  ⟨(h.one (g := a) (t := 24) (v := ptr p) (by simp [B3])).1, (h.one (g := c) (t := 41) (v := .int .i64 v) (by simp [B3])).1, (h.one (g := c) (t := 41) (v := .int .i64 v) (by simp [B3])).2⟩
theorem B4.cells (h : BX F W (B4 c a g lb p x v s)) : W.cell? ⟨a, 0, none⟩ = some (ptr p) ∧ W.cell? ⟨c, 0, none⟩ = some (.int .i64 v) ∧ W.frozen? ⟨c, 0, none⟩ = false ∧ W.cell? ⟨lb, 0, none⟩ = some (.string s) :=
  ⟨(h.one (g := a) (t := 24) (v := ptr p) (by simp [B4])).1, (h.one (g := c) (t := 41) (v := .int .i64 v) (by simp [B4])).1, (h.one (g := c) (t := 41) (v := .int .i64 v) (by simp [B4])).2, (h.one (g := lb) (t := 9) (v := .string s) (by simp [B4])).1⟩
theorem B5.cells (h : BX F W (B5 c a g lb fb p x v s u)) : W.cell? ⟨a, 0, none⟩ = some (ptr p) ∧ W.cell? ⟨c, 0, none⟩ = some (.int .i64 v) ∧ W.frozen? ⟨c, 0, none⟩ = false ∧ W.cell? ⟨lb, 0, none⟩ = some (.string s) ∧ W.cell? ⟨fb, 0, none⟩ = some (.string u) :=
  ⟨(h.one (g := a) (t := 24) (v := ptr p) (by simp [B5])).1, (h.one (g := c) (t := 41) (v := .int .i64 v) (by simp [B5])).1, (h.one (g := c) (t := 41) (v := .int .i64 v) (by simp [B5])).2, (h.one (g := lb) (t := 9) (v := .string s) (by simp [B5])).1, (h.one (g := fb) (t := 9) (v := .string u) (by simp [B5])).1⟩
end
theorem sbegin1_ren (H : DiskSays DK) {d d2 : AD} {s t : ByteArray} {e2 : Int} (hg : Good d) (hs : s.size ≤ 281474976710656) (ht : t.size ≤ 281474976710656) (hr : d.renameR s t = (d2, e2)) (W0 w : World) (p : Addr) (F F1 : Nat → Bool) (c a g lb fb : Nat) (hac : a ≠ c) (hgc : g ≠ c) (hlc : lb ≠ c) (hfc : fb ≠ c) (x : Hdr) (u : FrameMode) (W : World)
    (h : OB DK W0 F w p F1 d (B5 c a g lb fb p x 0 t s) W) :
    CallsD Tryz.prog 32 #[.pointer (some ⟨c, 0, none⟩), .pointer (some ⟨a, 0, none⟩), .pointer (some ⟨fb, 0, none⟩), .pointer (some ⟨lb, 0, none⟩)] u W fun e u' w' => u' = u ∧ (e = .returned (.tuple #[]) ∧ ∃ F2, OB DK W0 F w p F2 d2 (B5 c a g lb fb p x e2 t s) w') := by
  have hH := Lib.hid H
  have HO := Lib.hid h
  have HRN := prename_of H hg hs ht hr
  obtain ⟨c1, c0, f0, c2, c3⟩ := B5.cells h.bx
  clear h hg hr
  go_enter_d Tryz.func32, Tryz.ntmps32
  go_wp2_with (first
    | (go_at_call 33; (with_reducible refine (HRN.out _ _ _ HO.out.op.dk).mono ?_); rintro e w1 ⟨F2, rfl, hk, hx⟩; have HO1 := Lib.hid (HO.out.ext hk hx); obtain ⟨d1, d0, g0, d2, d3⟩ := B5.cells HO1.out.bx; clear hk hx c0 c1 c2 c3 f0))
  go_end0
  exact ⟨rfl, F2, HO1.out.set hH.out (by simp [hac, hgc, hlc, hfc]) _⟩
theorem sbegin1_stop (s t : ByteArray) (v : Int) (hv : v ≠ 0) (p : Addr) (F : Nat → Bool) (c a g lb fb : Nat) (x : Hdr) (u : FrameMode) (W : World) (h : BX F W (B5 c a g lb fb p x v t s)) :
    CallsD Tryz.prog 32 #[.pointer (some ⟨c, 0, none⟩), .pointer (some ⟨a, 0, none⟩), .pointer (some ⟨fb, 0, none⟩), .pointer (some ⟨lb, 0, none⟩)] u W fun e u' w' => u' = u ∧ (e = .returned (.tuple #[]) ∧ w' = W) := by
  obtain ⟨c1, c0, f0, c2, c3⟩ := B5.cells h
  have bv : (v == 0) = false := by simpa using hv
  clear h hv
  go_enter_d Tryz.func32, Tryz.ntmps32
  go_wp2
  go_end0
  exact ⟨rfl, rfl⟩
theorem OB.start3 (H : DiskSays DK) {W0 w : World} {p : Addr} {F : Nat → Bool} {d : AD} (h : DK w p F d) (hp : Pow W0) (hx0 : Ext (fun _ => false) W0 w F) (x : Hdr) :
    OB DK W0 F w p F d (B3 (w.heap.size + 2) w.heap.size (w.heap.size + 1) p x 0) (((w.alloc (oC 24 (ptr p))).alloc (oH x)).alloc (oC 41 (.int .i64 0))) := by
  have h0 : OB DK W0 F w p F d [] w := ⟨⟨h, Ext.refl F w, hx0, hp⟩, BX.nil _ _, fun q hq => by simp at hq, hx0.size⟩
  have h1 := h0.alloc H (oC 24 (ptr p)) rfl
  have h2 := h1.alloc H (oH x) (g := w.heap.size + 1) (by rw [alloc_size])
  have h3 := h2.alloc H (oC 41 (.int .i64 0)) (g := w.heap.size + 2) (by rw [alloc_size, alloc_size])
  refine h3.sub fun q hq => ?_
  simp only [B3, List.mem_cons, List.not_mem_nil, or_false] at hq ⊢
  rcases hq with rfl | rfl | rfl <;> simp
theorem OB.live (H : DiskSays DK) {W0 w : World} {p : Addr} {F F1 : Nat → Bool} {d : AD} {c a g : Nat} {x : Hdr} {v : Int} {W : World} (h : OB DK W0 F w p F1 d (B3 c a g p x v) W) (s : ByteArray) :
    OB DK W0 F w p F1 d (B4 c a g W.heap.size p x v s) (W.alloc (.cells #[.string s] 9)) := by
  refine (h.alloc H (oC 9 (.string s)) rfl).sub fun q hq => ?_
  simp only [B3, B4, List.mem_cons, List.not_mem_nil, or_false] at hq ⊢
  rcases hq with rfl | rfl | rfl | rfl <;> simp
theorem OB.free (H : DiskSays DK) {W0 w : World} {p : Addr} {F F1 : Nat → Bool} {d : AD} {c a g lb : Nat} {x : Hdr} {v : Int} {s : ByteArray} {W : World} (h : OB DK W0 F w p F1 d (B4 c a g lb p x v s) W) (u : ByteArray) :
    OB DK W0 F w p F1 d (B5 c a g lb W.heap.size p x v s u) (W.alloc (.cells #[.string u] 9)) := by
  refine (h.alloc H (oC 9 (.string u)) rfl).sub fun q hq => ?_
  simp only [B4, B5, List.mem_cons, List.not_mem_nil, or_false] at hq ⊢
  rcases hq with rfl | rfl | rfl | rfl | rfl <;> simp
set_option maxRecDepth 8000 in
set_option maxHeartbeats 4000000 in
theorem sbegin_any (H : DiskSays DK) (W0 w : World) (p : Addr) (F : Nat → Bool) (d : AD) (x : Hdr) (h : DK w p F d) (hg : Good d) (hv0 : VT W0) (hx0 : Ext (fun _ => false) W0 w F) (hx : HdT x) :
    Calls Tryz.prog 9 #[ptr p, .agg (hv x)] w fun e w' => ∃ F', e = .returned (.int .i64 (d.beginR x).2) ∧ DK w' p F' (d.beginR x).1 ∧ Ext F w w' F' := by
  have hH := Lib.hid H
  have hmf := mf_seg Tryz.prog
  have hst := OB.start3 H h hv0.vars.pow hx0 x
  obtain ⟨w0, hw0⟩ : ∃ q, ((w.alloc (.cells #[ptr p] 24)).alloc (.cells (hv x) 34)).alloc (.cells #[.int .i64 0] 41) = q := ⟨_, rfl⟩
  rw [show (((w.alloc (oC 24 (ptr p))).alloc (oH x)).alloc (oC 41 (.int .i64 0))) = w0 from hw0] at hst
  have HO := Lib.hid hst
  have HV := Lib.hid (fun W F1 (hh : Ext (fun _ => false) W0 W F1) => (hv0.ext hh).vars)
  have HXN := Lib.hid hx.n
  have HHB := Lib.hid (hst.bx.hb hx.n (g := w.heap.size + 1) (by simp [B3]))
  have HS3 := Lib.hid (show w.heap.size + 3 ≤ w0.heap.size from by rw [← hw0, alloc_size, alloc_size, alloc_size]; omega)
  obtain ⟨c1, c0, f0⟩ := B3.cells hst.bx
  clear hst h hx0
  cases hk : hdOk x with
  | false =>
    rw [show d.beginR x = (d, 13) from by unfold AD.beginR AD.beginT; rw [if_pos hk]]
    have HRT : Hid (∀ w, Calls Tryz.prog 28 #[.agg (hv x)] w fun e w' => e = .returned (.bool false) ∧ Below w.heap.size w w') := Lib.hid fun w => by rw [← hk]; exact hright_any x hx w
    clear hg hx hk hv0
    focus
      go_enter_defers Tryz.func9, Tryz.ntmps9
      go_wp2_with (first
        | (refine wpl_load_hd (by rfl) (.tmp 3) rfl rfl (show HB w0 (w.heap.size + 1) x from HHB.out) ?_)
        | (go_at_call 28; (with_reducible refine (HRT.out _).mono ?_); rintro e w1 ⟨rfl, hb⟩; have HO1 := Lib.hid (HO.out.next hH.out hb); have HHB1 := Lib.hid (HHB.out.keep hb); have HB01 := Lib.hid hb; obtain ⟨p1, p0, pf⟩ := B3.cells HO1.out.bx; clear hb c1 c0 f0))
      have HO7 := Lib.hid (HO1.out.set hH.out (by simp) (.int .i64 13))
      obtain ⟨z1, z0, zf⟩ := B3.cells HO7.out.bx
      exact ⟨_, results_errno rfl _ _ (w.heap.size + 2) _ rfl z0, _, rfl, HO7.out.op.dk, HO7.out.op.ex⟩
  | true =>
    have HRT : Hid (∀ w, Calls Tryz.prog 28 #[.agg (hv x)] w fun e w' => e = .returned (.bool true) ∧ Below w.heap.size w w') := Lib.hid fun w => by rw [← hk]; exact hright_any x hx w
    obtain ⟨s, hs⟩ : ∃ s, walB x.s = s := ⟨_, rfl⟩
    have HWL := swal_of hx.s hs
    have hsz : s.size ≤ 281474976710656 := by rw [← hs]; exact wal_size x.s hx.s.1 hx.s.2
    obtain ⟨e0, he0⟩ : ∃ e, missI d s = e := ⟨_, rfl⟩
    have HMS := smiss_of H hg hsz he0
    by_cases h00 : e0 = 0
    · subst h00
      rw [begin_goes hk (by rw [hs]; exact he0), hs]
      obtain ⟨⟨d2, u, e2⟩, ht⟩ : ∃ r, d.takeR = r := ⟨_, rfl⟩
      have HTK := stake_of H hg hv0.vars.pow ht
      have hg2 : Good d2 := by have := hg.take; rwa [ht] at this
      have hu : u.size ≤ 281474976710656 := by have := take_size d; rwa [ht] at this
      rw [ht]
      clear ht he0 hg
      by_cases h2 : e2 = 0
      · subst h2
        rw [if_pos rfl]
        have hgp := hg2.prep u hx (m := 0) (fs := []) rfl bytes_nil
        simp only
        obtain ⟨⟨d3, e3⟩, hp⟩ : ∃ r, d2.prepR u x 0 [] = r := ⟨_, rfl⟩
        have HPR := sprep_of H hg2 hv0 hu hx hp
        rw [hp] at hgp ⊢
        clear hp hg2 hk hx hs hv0
        by_cases h3 : e3 = 0
        · subst h3
          rw [if_pos rfl]
          obtain ⟨⟨d4, e4⟩, hr⟩ : ∃ r, d3.renameR u s = r := ⟨_, rfl⟩
          have HDF := Lib.hid fun W F1 lb fb (hlc : lb ≠ w.heap.size + 2) (hfc : fb ≠ w.heap.size + 2) (hO : OB DK W0 F w p F1 d3 (B5 (w.heap.size + 2) w.heap.size (w.heap.size + 1) lb fb p x 0 s u) W) => sbegin1_ren H hgp hu hsz hr W0 w p F F1 (w.heap.size + 2) w.heap.size (w.heap.size + 1) lb fb (by omega) (by omega) hlc hfc x .returning W hO
          rw [show (d3, (0 : Int)).1 = d3 from rfl, hr]
          clear hr hgp
          focus
            go_enter_defers Tryz.func9, Tryz.ntmps9
            go_wp2_with (first
              | (refine wpl_load_hd (by rfl) (.tmp 3) rfl rfl HHB5.out ?_)
              | (refine wpl_load_hd (by rfl) (.tmp 3) rfl rfl (show HB w0 (w.heap.size + 1) x from HHB.out) ?_)
              | (go_at_call 28; (with_reducible refine (HRT.out _).mono ?_); rintro e w1 ⟨rfl, hb⟩; have HO1 := Lib.hid (HO.out.next hH.out hb); have HHB1 := Lib.hid (HHB.out.keep hb); have HB01 := Lib.hid hb; obtain ⟨p1, p0, pf⟩ := B3.cells HO1.out.bx; clear hb c1 c0 f0)
              | (refine wpl_load_hs (by rfl) (.tmp 12) rfl rfl HHB1.out ?_)
              | (go_at_call 29; (with_reducible refine (HWL.out _ (HV.out _ _ HO1.out.op.ex0)).mono ?_); rintro e w2 ⟨rfl, hb⟩; have HB02 := Lib.hid (bch HB01.out hb); have HO2 := Lib.hid ((HO1.out.next hH.out hb).live hH.out s); obtain ⟨q1, q0, qf, q2⟩ := B4.cells HO2.out.bx; clear hb p1 p0 pf)
              | (go_at_call 30; (with_reducible refine (HMS.out _ _ _ HO2.out.op.dk).mono ?_); rintro e w3 ⟨rfl, hb⟩; have HZ3 := Lib.hid (Nat.le_trans HB02.out.size (Nat.le_trans (balloc w2 (oC 9 (.string s))).size hb.size)); have HO3 := Lib.hid (HO2.out.next hH.out hb); obtain ⟨r1, r0, rf, r2⟩ := B4.cells HO3.out.bx; clear hb q1 q0 qf q2)
              | (go_at_call 31; (with_reducible refine (HTK.out _ _ _ HO3.out.op.dk HO3.out.op.ex0).mono ?_); rintro e w4 ⟨F4, rfl, hk4, hx4⟩; have HZ4 := Lib.hid (Nat.le_trans HZ3.out hx4.size); have HO5 := Lib.hid ((HO3.out.ext hk4 hx4).free hH.out u); have HHB5 := Lib.hid (HO5.out.bx.hb HXN.out (g := w.heap.size + 1) (by simp [B5])); obtain ⟨t1, t0, tf, t2, t3⟩ := B5.cells HO5.out.bx; clear hk4 hx4 r1 r0 rf r2)
              | (go_at_call 11; (with_reducible refine (HPR.out _ _ _ HO5.out.op.dk HO5.out.op.ex0).mono ?_); rintro e w5 ⟨F5, rfl, hk5, hx5⟩; have HO6 := Lib.hid (HO5.out.ext hk5 hx5); obtain ⟨v1, v0, vf, v2, v3⟩ := B5.cells HO6.out.bx; clear hk5 hx5 t1 t0 tf t2 t3))
            have HL1 := Lib.hid (show w2.heap.size ≠ w.heap.size + 2 from fun e => by have h1 := HS3.out; have h2 := HO2.out.op.ex.size; have h3 := HB02.out.size; omega)
            have HL2 := Lib.hid (show w4.heap.size ≠ w.heap.size + 2 from fun e => by have h1 := HS3.out; have h3 := HZ4.out; omega)
            have HO7 := Lib.hid (HO6.out.set hH.out (by simp; exact ⟨HL1.out, HL2.out⟩) (.int .i64 0))
            refine leaves_cons (f := 32) (args := #[.pointer (some ⟨w.heap.size + 2, 0, none⟩), .pointer (some ⟨w.heap.size, 0, none⟩), .pointer (some ⟨w4.heap.size, 0, none⟩), .pointer (some ⟨w2.heap.size, 0, none⟩)]) (by simp) (by simp [go_sem]) ?_
            refine (HDF.out _ _ _ _ HL1.out HL2.out HO7.out).mono ?_
            rintro e u' w6 ⟨rfl, rfl, F6, hO6⟩
            obtain ⟨z1, z0, zf, z2, z3⟩ := B5.cells hO6.bx
            exact ⟨_, results_errno rfl _ _ (w.heap.size + 2) _ rfl z0, F6, rfl, hO6.op.dk, hO6.op.ex⟩
        · rw [if_neg (show ¬ (d3, e3).2 = 0 from h3)]
          have HDF := Lib.hid fun W F1 lb fb (hO : BX F1 W (B5 (w.heap.size + 2) w.heap.size (w.heap.size + 1) lb fb p x e3 s u)) => sbegin1_stop u s e3 h3 p F1 (w.heap.size + 2) w.heap.size (w.heap.size + 1) lb fb x .returning W hO
          clear hgp
          focus
            go_enter_defers Tryz.func9, Tryz.ntmps9
            go_wp2_with (first
              | (refine wpl_load_hd (by rfl) (.tmp 3) rfl rfl HHB5.out ?_)
              | (refine wpl_load_hd (by rfl) (.tmp 3) rfl rfl (show HB w0 (w.heap.size + 1) x from HHB.out) ?_)
              | (go_at_call 28; (with_reducible refine (HRT.out _).mono ?_); rintro e w1 ⟨rfl, hb⟩; have HO1 := Lib.hid (HO.out.next hH.out hb); have HHB1 := Lib.hid (HHB.out.keep hb); have HB01 := Lib.hid hb; obtain ⟨p1, p0, pf⟩ := B3.cells HO1.out.bx; clear hb c1 c0 f0)
              | (refine wpl_load_hs (by rfl) (.tmp 12) rfl rfl HHB1.out ?_)
              | (go_at_call 29; (with_reducible refine (HWL.out _ (HV.out _ _ HO1.out.op.ex0)).mono ?_); rintro e w2 ⟨rfl, hb⟩; have HB02 := Lib.hid (bch HB01.out hb); have HO2 := Lib.hid ((HO1.out.next hH.out hb).live hH.out s); obtain ⟨q1, q0, qf, q2⟩ := B4.cells HO2.out.bx; clear hb p1 p0 pf)
              | (go_at_call 30; (with_reducible refine (HMS.out _ _ _ HO2.out.op.dk).mono ?_); rintro e w3 ⟨rfl, hb⟩; have HZ3 := Lib.hid (Nat.le_trans HB02.out.size (Nat.le_trans (balloc w2 (oC 9 (.string s))).size hb.size)); have HO3 := Lib.hid (HO2.out.next hH.out hb); obtain ⟨r1, r0, rf, r2⟩ := B4.cells HO3.out.bx; clear hb q1 q0 qf q2)
              | (go_at_call 31; (with_reducible refine (HTK.out _ _ _ HO3.out.op.dk HO3.out.op.ex0).mono ?_); rintro e w4 ⟨F4, rfl, hk4, hx4⟩; have HZ4 := Lib.hid (Nat.le_trans HZ3.out hx4.size); have HO5 := Lib.hid ((HO3.out.ext hk4 hx4).free hH.out u); have HHB5 := Lib.hid (HO5.out.bx.hb HXN.out (g := w.heap.size + 1) (by simp [B5])); obtain ⟨t1, t0, tf, t2, t3⟩ := B5.cells HO5.out.bx; clear hk4 hx4 r1 r0 rf r2)
              | (go_at_call 11; (with_reducible refine (HPR.out _ _ _ HO5.out.op.dk HO5.out.op.ex0).mono ?_); rintro e w5 ⟨F5, rfl, hk5, hx5⟩; have HO6 := Lib.hid (HO5.out.ext hk5 hx5); obtain ⟨v1, v0, vf, v2, v3⟩ := B5.cells HO6.out.bx; clear hk5 hx5 t1 t0 tf t2 t3))
            have HL1 := Lib.hid (show w2.heap.size ≠ w.heap.size + 2 from fun e => by have h1 := HS3.out; have h2 := HO2.out.op.ex.size; have h3 := HB02.out.size; omega)
            have HL2 := Lib.hid (show w4.heap.size ≠ w.heap.size + 2 from fun e => by have h1 := HS3.out; have h3 := HZ4.out; omega)
            have HO7 := Lib.hid (HO6.out.set hH.out (by simp; exact ⟨HL1.out, HL2.out⟩) (.int .i64 e3))
            refine leaves_cons (f := 32) (args := #[.pointer (some ⟨w.heap.size + 2, 0, none⟩), .pointer (some ⟨w.heap.size, 0, none⟩), .pointer (some ⟨w4.heap.size, 0, none⟩), .pointer (some ⟨w2.heap.size, 0, none⟩)]) (by simp) (by simp [go_sem]) ?_
            refine (HDF.out _ _ _ _ HO7.out.bx).mono ?_
            rintro e u' w6 ⟨rfl, rfl, rfl⟩
            obtain ⟨z1, z0, zf, z2, z3⟩ := B5.cells HO7.out.bx
            exact ⟨_, results_errno rfl _ _ (w.heap.size + 2) _ rfl z0, _, rfl, HO7.out.op.dk, HO7.out.op.ex⟩
      · rw [if_neg (show ¬ e2 = 0 from h2)]
        have be : (e2 == 0) = false := by simpa using h2
        clear hg2 hk hx hs hv0
        focus
          go_enter_defers Tryz.func9, Tryz.ntmps9
          go_wp2_with (first
            | (refine wpl_load_hd (by rfl) (.tmp 3) rfl rfl (show HB w0 (w.heap.size + 1) x from HHB.out) ?_)
            | (go_at_call 28; (with_reducible refine (HRT.out _).mono ?_); rintro e w1 ⟨rfl, hb⟩; have HO1 := Lib.hid (HO.out.next hH.out hb); have HHB1 := Lib.hid (HHB.out.keep hb); have HB01 := Lib.hid hb; obtain ⟨p1, p0, pf⟩ := B3.cells HO1.out.bx; clear hb c1 c0 f0)
            | (refine wpl_load_hs (by rfl) (.tmp 12) rfl rfl HHB1.out ?_)
            | (go_at_call 29; (with_reducible refine (HWL.out _ (HV.out _ _ HO1.out.op.ex0)).mono ?_); rintro e w2 ⟨rfl, hb⟩; have HB02 := Lib.hid (bch HB01.out hb); have HO2 := Lib.hid ((HO1.out.next hH.out hb).live hH.out s); obtain ⟨q1, q0, qf, q2⟩ := B4.cells HO2.out.bx; clear hb p1 p0 pf)
            | (go_at_call 30; (with_reducible refine (HMS.out _ _ _ HO2.out.op.dk).mono ?_); rintro e w3 ⟨rfl, hb⟩; have HZ3 := Lib.hid (Nat.le_trans HB02.out.size (Nat.le_trans (balloc w2 (oC 9 (.string s))).size hb.size)); have HO3 := Lib.hid (HO2.out.next hH.out hb); obtain ⟨r1, r0, rf, r2⟩ := B4.cells HO3.out.bx; clear hb q1 q0 qf q2)
            | (go_at_call 31; (with_reducible refine (HTK.out _ _ _ HO3.out.op.dk HO3.out.op.ex0).mono ?_); rintro e w4 ⟨F4, rfl, hk4, hx4⟩; have HZ4 := Lib.hid (Nat.le_trans HZ3.out hx4.size); have HO5 := Lib.hid ((HO3.out.ext hk4 hx4).free hH.out u); have HHB5 := Lib.hid (HO5.out.bx.hb HXN.out (g := w.heap.size + 1) (by simp [B5])); obtain ⟨t1, t0, tf, t2, t3⟩ := B5.cells HO5.out.bx; clear hk4 hx4 r1 r0 rf r2))
          have HL1 := Lib.hid (show w2.heap.size ≠ w.heap.size + 2 from fun e => by have h1 := HS3.out; have h2 := HO2.out.op.ex.size; have h3 := HB02.out.size; omega)
          have HL2 := Lib.hid (show w4.heap.size ≠ w.heap.size + 2 from fun e => by have h1 := HS3.out; have h3 := HZ4.out; omega)
          have HO7 := Lib.hid (HO5.out.set hH.out (by simp; exact ⟨HL1.out, HL2.out⟩) (.int .i64 e2))
          obtain ⟨z1, z0, zf, z2, z3⟩ := B5.cells HO7.out.bx
          exact ⟨_, results_errno rfl _ _ (w.heap.size + 2) _ rfl z0, _, rfl, HO7.out.op.dk, HO7.out.op.ex⟩
    · rw [begin_miss hk (by rw [hs]; exact he0) h00]
      have be : (e0 == 0) = false := by simpa using h00
      clear hg hk hx hs he0 hv0
      focus
        go_enter_defers Tryz.func9, Tryz.ntmps9
        go_wp2_with (first
          | (refine wpl_load_hd (by rfl) (.tmp 3) rfl rfl (show HB w0 (w.heap.size + 1) x from HHB.out) ?_)
          | (go_at_call 28; (with_reducible refine (HRT.out _).mono ?_); rintro e w1 ⟨rfl, hb⟩; have HO1 := Lib.hid (HO.out.next hH.out hb); have HHB1 := Lib.hid (HHB.out.keep hb); have HB01 := Lib.hid hb; obtain ⟨p1, p0, pf⟩ := B3.cells HO1.out.bx; clear hb c1 c0 f0)
          | (refine wpl_load_hs (by rfl) (.tmp 12) rfl rfl HHB1.out ?_)
          | (go_at_call 29; (with_reducible refine (HWL.out _ (HV.out _ _ HO1.out.op.ex0)).mono ?_); rintro e w2 ⟨rfl, hb⟩; have HB02 := Lib.hid (bch HB01.out hb); have HO2 := Lib.hid ((HO1.out.next hH.out hb).live hH.out s); obtain ⟨q1, q0, qf, q2⟩ := B4.cells HO2.out.bx; clear hb p1 p0 pf)
          | (go_at_call 30; (with_reducible refine (HMS.out _ _ _ HO2.out.op.dk).mono ?_); rintro e w3 ⟨rfl, hb⟩; have HZ3 := Lib.hid (Nat.le_trans HB02.out.size (Nat.le_trans (balloc w2 (oC 9 (.string s))).size hb.size)); have HO3 := Lib.hid (HO2.out.next hH.out hb); obtain ⟨r1, r0, rf, r2⟩ := B4.cells HO3.out.bx; clear hb q1 q0 qf q2))
        have HL1 := Lib.hid (show w2.heap.size ≠ w.heap.size + 2 from fun e => by have h1 := HS3.out; have h2 := HO2.out.op.ex.size; have h3 := HB02.out.size; omega)
        have HO7 := Lib.hid (HO3.out.set hH.out (by simp; exact HL1.out) (.int .i64 e0))
        obtain ⟨z1, z0, zf, z2⟩ := B4.cells HO7.out.bx
        exact ⟨_, results_errno rfl _ _ (w.heap.size + 2) _ rfl z0, _, rfl, HO7.out.op.dk, HO7.out.op.ex⟩
end Go.Proofs.YtpoiapfgbbmekaaGreatDoor
namespace Go.Proofs.YtpoiapfgbbmekaaGreatDoor
open Go.RowKit
theorem asc_one {L : List AF} (h : Asc L) {f g : AF} (hf : f ∈ L) (hg : g ∈ L) (hn : f.name = g.name) : f = g := by
  induction L with
  | nil => simp at hf
  | cons a L ih =>
    have h2 := List.pairwise_cons.1 h
    rcases List.mem_cons.1 hf with e | hf1
    · subst e
      rcases List.mem_cons.1 hg with e | hg1
      · exact e.symm
      · exact absurd hn.symm (gtN_ne (h2.1 g hg1))
    · rcases List.mem_cons.1 hg with e | hg1
      · subst e
        exact absurd hn (gtN_ne (h2.1 f hf1))
      · exact ih h2.2 hf1 hg1
theorem has_of_mem {d : AD} {f : AF} (hf : f ∈ d.L) : d.has f.name := by
  unfold AD.has idxN
  rw [List.findIdx_lt_length]
  exact ⟨f, hf, by simp⟩
theorem get_of_mem {d : AD} (hg : Good d) {f : AF} (hf : f ∈ d.L) : d.get f.name = f := by
  have hh := has_of_mem hf
  exact asc_one hg.asc (get_mem hh) hf (d.get_name _ hh)
theorem op_done {d : AD} {g : AD → AD} (h : (d.opR g).2 = 0) : d.ope = 0 ∧ d.opR g = (g d.opd, 0) := by
  by_cases he : d.ope = 0
  · exact ⟨he, d.opR_done g he⟩
  · rw [d.opR_not g he] at h; simp at h
theorem opd_down {d : AD} (h : d.ope = 0) (hd : d.down = false) : d.opd.down = false := by
  unfold AD.ope at h
  unfold AD.opd
  split
  · rename_i hh; rw [if_pos hh] at h; simp at h
  · exact hd
theorem mem_with {x : AD} {f : AF} : f ∈ (x.withF f).L := by unfold AD.withF; exact mem_ins.2 (.inl rfl)
theorem write_done {d : AD} (hg : Good d) {s : ByteArray} {l : List Int} (hl : l.length = 17 * 64) (hb : Bytes l) (hd : d.down = false) (hn : d.has s → (d.get s).n = 17) (he : (d.writeR s 0 17 l).2 = 0) :
    d.has s ∧ (d.writeR s 0 17 l).1.down = false ∧ (d.writeR s 0 17 l).1.has s ∧ ((d.writeR s 0 17 l).1.get s).n = 17 ∧ ((d.writeR s 0 17 l).1.get s).seen = l ∧ ((d.writeR s 0 17 l).1.get s).name = s := by
  have hgw := hg.write s 0 17 l hl hb
  revert he hgw
  unfold AD.writeR
  rw [if_neg (by rw [hd]; simp)]
  by_cases hh : d.has s
  · rw [if_neg (Decidable.not_not.2 hh), if_neg (by rw [hn hh]; omega)]
    intro he hgw
    obtain ⟨h0, e⟩ := op_done he
    rw [e] at hgw ⊢
    have hf := (hg.file _ (get_mem hh))
    obtain ⟨g, hgg⟩ : ∃ g : AF, ({ d.get s with seen := (d.get s).seen.take ((0 : Int).toNat * 64) ++ l ++ (d.get s).seen.drop ((0 : Int).toNat * 64 + 17 * 64), ws := (d.get s).ws.take (0 : Int).toNat ++ List.replicate 17 true ++ (d.get s).ws.drop ((0 : Int).toNat + 17) } : AF) = g := ⟨_, rfl⟩
    rw [hgg] at hgw ⊢
    have hm : g ∈ (d.opd.withF g).L := mem_with
    have hname : g.name = s := by rw [← hgg]; exact d.get_name s hh
    have h1 := has_of_mem hm
    have h2 := get_of_mem hgw hm
    rw [hname] at h1 h2
    refine ⟨hh, ?_, h1, ?_, ?_, ?_⟩
    · show d.opd.down = false
      exact opd_down h0 hd
    · rw [h2, ← hgg]; exact hn hh
    · rw [h2, ← hgg]
      have h17 := hn hh
      simp [hf.seen, h17]
    · rw [h2]; exact hname
  · rw [if_pos hh]
    intro he; simp at he
theorem sync_done {d : AD} (hg : Good d) {s : ByteArray} (hd : d.down = false) (he : (d.syncR s).2 = 0) :
    d.has s ∧ (d.syncR s).1.down = false ∧ (d.syncR s).1.has s ∧ (d.syncR s).1.get s = ⟨s, (d.get s).n, (d.get s).seen, (d.get s).seen, List.replicate (d.get s).n false⟩ := by
  have hgw := hg.sync s
  revert he hgw
  unfold AD.syncR
  rw [if_neg (by rw [hd]; simp)]
  by_cases hh : d.has s
  · rw [if_neg (Decidable.not_not.2 hh)]
    intro he hgw
    obtain ⟨h0, e⟩ := op_done he
    rw [e] at hgw ⊢
    obtain ⟨g, hgg⟩ : ∃ g : AF, ({ d.get s with las := (d.get s).seen, ws := List.replicate (d.get s).n false } : AF) = g := ⟨_, rfl⟩
    rw [hgg] at hgw ⊢
    have hm : g ∈ (d.opd.withF g).L := mem_with
    have hname : g.name = s := by rw [← hgg]; exact d.get_name s hh
    have h1 := has_of_mem hm
    have h2 := get_of_mem hgw hm
    rw [hname] at h1 h2
    refine ⟨hh, ?_, h1, ?_⟩
    · show d.opd.down = false
      exact opd_down h0 hd
    · rw [h2, ← hgg]
      exact (fun (f : AF) (e : f.name = s) => by subst e; rfl : ∀ f : AF, f.name = s → ({ f with las := f.seen, ws := List.replicate f.n false } : AF) = ⟨s, f.n, f.seen, f.seen, List.replicate f.n false⟩) _ (d.get_name s hh)
  · rw [if_pos hh]
    intro he; simp at he
theorem rename_done {d : AD} (hg : Good d) {s t : ByteArray} (hd : d.down = false) (hst : s ≠ t) (he : (d.renameR s t).2 = 0) :
    d.has s ∧ (d.renameR s t).1.down = false ∧ (d.renameR s t).1.has t ∧ (d.renameR s t).1.get t = { d.get s with name := t } := by
  have hgw := hg.rename s t
  revert he hgw
  unfold AD.renameR
  rw [if_neg (by rw [hd]; simp)]
  by_cases hh : d.has s
  · rw [if_neg (Decidable.not_not.2 hh)]
    split
    · intro he; simp at he
    try rw [if_neg hst]
    intro he hgw
    obtain ⟨h0, e⟩ := op_done he
    rw [e] at hgw ⊢
    obtain ⟨g, hgg⟩ : ∃ g : AF, ({ d.get s with name := t } : AF) = g := ⟨_, rfl⟩
    rw [hgg] at hgw ⊢
    have hm : g ∈ ((d.opd.without s).withF g).L := mem_with
    have hname : g.name = t := by rw [← hgg]
    have h1 := has_of_mem hm
    have h2 := get_of_mem hgw hm
    rw [hname] at h1 h2
    refine ⟨hh, ?_, h1, h2⟩
    show d.opd.down = false
    exact opd_down h0 hd
  · rw [if_pos hh]
    intro he; simp at he
theorem take_done {d : AD} (hd : d.down = false) (he : d.takeR.2.2 = 0) : (d.takeR.2.1 = fr1 ∨ d.takeR.2.1 = fr2) ∧ d.takeR.1.down = false := by
  revert he
  unfold AD.takeR
  rw [if_neg (by rw [hd]; simp)]
  split
  · rename_i h
    intro _
    exact ⟨(first_or d 17).resolve_left h, hd⟩
  split
  · intro he; simp at he
  rename_i h
  split
  · rename_i hm
    intro _
    refine ⟨(first_or d 0).resolve_left h, ?_⟩
    revert hm
    unfold AD.makeR
    rw [if_neg (by rw [hd]; simp)]
    split
    · intro hm; simp at hm
    split
    · intro hm; simp at hm
    split
    · intro hm; simp at hm
    split
    · intro hm; simp at hm
    intro hm
    obtain ⟨h0, e⟩ := op_done hm
    rw [e]
    exact opd_down h0 hd
  · rename_i hm
    intro he
    exact absurd he hm
theorem begin_done {d : AD} (hg : Good d) {h : Hdr} (hT : HdT h) (he : (d.beginR h).2 = 0) :
    hdOk h = true ∧ (d.beginR h).1.down = false ∧ (d.beginR h).1.has (walB h.s) ∧ (d.beginR h).1.get (walB h.s) = ⟨walB h.s, 17, layL h 0 [], layL h 0 [], List.replicate 17 false⟩ := by
  revert he
  unfold AD.beginR AD.beginT
  by_cases hk : hdOk h = false
  · rw [if_pos hk]; intro he; simp at he
  rw [if_neg hk]
  rw [Bool.not_eq_false] at hk
  by_cases hd : d.down = true
  · rw [if_pos hd]; intro he; simp at he
  rw [if_neg hd]
  rw [Bool.not_eq_true] at hd
  split
  · intro he; simp at he
  split
  · rename_i ht
    obtain ⟨hs, hd1⟩ := take_done hd ht
    have hg1 := hg.take
    split
    · rename_i hp
      intro he
      have hp0 := hdOk_parts hk
      have hne := wal_ne_fr hp0.2.1.1 hp0.2.1.2 hs
      have hl := layL_length hT.n (m := 0) (by omega) (fs := []) rfl
      have hb := layL_bytes h 0 bytes_nil
      have hgp := hg1.prep d.takeR.2.1 hT (m := 0) (fs := []) rfl bytes_nil
      revert hp he hgp
      unfold AD.prepR
      rw [if_neg (by rw [hk]; simp), if_neg (by rw [hd1]; simp)]
      split
      · intro hp; simp at hp
      split
      · intro hp; simp at hp
      rename_i hhas hn
      unfold AD.laidR
      split
      · rename_i hw
        intro hp he hgp
        obtain ⟨_, w1, w2, w3, w4, w5⟩ := write_done hg1 hl hb hd1 (fun _ => Decidable.not_not.1 hn) hw
        obtain ⟨_, s1, s2, s3⟩ := sync_done (hg1.write _ 0 17 _ hl hb) w1 hp
        obtain ⟨_, r1, r2, r3⟩ := rename_done hgp s1 hne he
        refine ⟨hk, r1, r2, ?_⟩
        rw [r3, s3, w3, w4]
      · rename_i hw
        intro hp; exact absurd hp hw
    · rename_i hp
      intro he; exact absurd he hp
  · rename_i ht
    intro he; exact absurd he ht
theorem done_tells {d : AD} {h : Hdr} (hT : HdT h) (hk : hdOk h = true) (h1 : d.down = false) (h2 : d.has (walB h.s)) (h3 : d.get (walB h.s) = ⟨walB h.s, 17, layL h 0 [], layL h 0 [], List.replicate 17 false⟩) :
    headI d h.s = (h, 0) ∧ dataI d h.s = List.replicate (16 * 64) 0 := by
  have hp := hdOk_parts hk
  have hf : fstI (layL h 0 []) = (h, 0) := by unfold fstI; rw [layL_take hT.n]; exact hd_got hT hk
  constructor
  · unfold headI
    rw [if_neg (wal_in hp.2.1.1 hp.2.1.2), if_neg (by rw [h1]; simp), if_neg (Decidable.not_not.2 h2), h3]
    simp only [hf]
    rw [if_neg (by simp)]
  · unfold dataI
    rw [h3]
    show (layL h 0 []).drop 64 = _
    rw [layL_drop hT.n]; rfl
end Go.Proofs.YtpoiapfgbbmekaaGreatDoor
namespace Go.Proofs.YtpoiapfgbbmekaaGreatDoor
open Go.RowKit
structure AAct where
  kind : Int
  name : ByteArray
  to : ByteArray
  at_ : Int
  n : Int
  len : Nat
  l : List Int
  klen : Nat
  keep : List Int
  torn : Int
  cut : Int
structure GA (a : AAct) : Prop where
  k0 : 0 ≤ a.kind
  k1 : a.kind ≤ 18446744073709551615
  name : a.name.size ≤ 281474976710656
  to : a.to.size ≤ 281474976710656
  at_ : I63 a.at_
  n : I63 a.n
  l : Bytes a.l
  keep : Bytes a.keep
  torn : I63 a.torn
  cut : I63 a.cut
def RA (w : World) (e : List Value) (a : AAct) : Prop :=
  ∃ vl vk, e = [.int .u64 a.kind, .string a.name, .string a.to, .int .i64 a.at_, .int .i64 a.n, vl, vk, .int .i64 a.torn, .int .i64 a.cut] ∧ RI .u8 w vl a.len a.l ∧ RI .u8 w vk a.klen a.keep
theorem RA.kin {w w' : World} (hb : Kin w w') {e : List Value} {a : AAct} (h : RA w e a) : RA w' e a := by
  obtain ⟨vl, vk, he, h1, h2⟩ := h
  exact ⟨vl, vk, he, h1.kin hb, h2.kin hb⟩
theorem RA.length {w : World} {e : List Value} {a : AAct} (h : RA w e a) : e.length = 9 := by obtain ⟨_, _, rfl, _⟩ := h; rfl
def AS (w : World) (v : Value) (l : List AAct) : Prop :=
  ∃ es : List (List Value), CS 9 w v l.length es.flatten ∧ es.length = l.length ∧ ∀ (i : Nat) (e : List Value) (a : AAct), es[i]? = some e → l[i]? = some a → RA w e a
theorem AS.kin {w w' : World} (hb : Kin w w') {v : Value} {l : List AAct} (h : AS w v l) : AS w' v l := by
  obtain ⟨es, h1, h2, h3⟩ := h
  exact ⟨es, h1.kin hb, h2, fun i e a he ha => (h3 i e a he ha).kin hb⟩
theorem AS.form {w : World} {v : Value} {l : List AAct} (h : AS w v l) : ∃ a cap, v = .slice a l.length cap ∧ l.length ≤ cap ∧ cap ≤ 9223372036854775807 ∧ (a = none → cap = 0) := by obtain ⟨_, h, _⟩ := h; exact h.form
theorem AS.at_ {w : World} {a : Option Addr} {n cap : Nat} {l : List AAct} (h : AS w (.slice a n cap) l) (i : Nat) (c : AAct) (hc : l[i]? = some c) :
    ∃ b off al cl ak ck, a = some ⟨b, off, none⟩ ∧ w.cell? ⟨b, off + i * 9, none⟩ = some (.int .u64 c.kind) ∧ w.cell? ⟨b, off + i * 9 + 1, none⟩ = some (.string c.name) ∧ w.cell? ⟨b, off + i * 9 + 2, none⟩ = some (.string c.to) ∧
      w.cell? ⟨b, off + i * 9 + 3, none⟩ = some (.int .i64 c.at_) ∧ w.cell? ⟨b, off + i * 9 + 4, none⟩ = some (.int .i64 c.n) ∧ w.cell? ⟨b, off + i * 9 + 5, none⟩ = some (.slice al c.len cl) ∧ w.cell? ⟨b, off + i * 9 + 6, none⟩ = some (.slice ak c.klen ck) ∧
      w.cell? ⟨b, off + i * 9 + 7, none⟩ = some (.int .i64 c.torn) ∧ w.cell? ⟨b, off + i * 9 + 8, none⟩ = some (.int .i64 c.cut) ∧ RI .u8 w (.slice al c.len cl) c.len c.l ∧ RI .u8 w (.slice ak c.klen ck) c.klen c.keep := by
  obtain ⟨es, h1, h2, h3⟩ := h
  obtain ⟨hi, _⟩ := List.getElem?_eq_some_iff.1 hc
  have hi2 : i < es.length := by omega
  have hl9 : ∀ e ∈ es, e.length = 9 := by
    intro e he
    obtain ⟨j, hj, rfl⟩ := List.getElem_of_mem he
    exact (h3 j _ _ (List.getElem?_eq_getElem hj) (List.getElem?_eq_getElem (by omega))).length
  obtain ⟨vl, vk, he, hf1, hf2⟩ := h3 i es[i] c (List.getElem?_eq_getElem hi2) hc
  have hn : n = l.length := by obtain ⟨_, _, hv, _⟩ := h1; simp at hv; exact hv.2.1
  subst hn
  obtain ⟨b, off, rfl, hcc⟩ := h1.at_ i hi
  have hg := fun j hj => (hcc j hj).trans (flat_get 9 es i j hl9 hj _ (List.getElem?_eq_getElem hi2))
  rw [he] at hg
  obtain ⟨al, cl, rfl, _⟩ := id hf1
  obtain ⟨ak, ck, rfl, _⟩ := id hf2
  exact ⟨b, off, al, cl, ak, ck, rfl, by simpa using hg 0 (by omega), by simpa using hg 1 (by omega), by simpa using hg 2 (by omega), by simpa using hg 3 (by omega), by simpa using hg 4 (by omega), by simpa using hg 5 (by omega), by simpa using hg 6 (by omega), by simpa using hg 7 (by omega), by simpa using hg 8 (by omega), hf1, hf2⟩
end Go.Proofs.YtpoiapfgbbmekaaGreatDoor
namespace Go.Proofs.YtpoiapfgbbmekaaGreatDoor
open Go.RowKit
def RS (w : World) (v : Value) (n : Nat) (ss : List (List Int)) : Prop :=
  ∃ a cap, v = .slice a n cap ∧ ss.length = n ∧ n ≤ cap ∧ cap ≤ 9223372036854775807 ∧ (∀ s ∈ ss, s.length = 64) ∧
    (0 < n → ∃ b off, a = some ⟨b, off, none⟩ ∧ ∀ j, j < n → ∀ k, k < 64 → w.cell? ⟨b, off + j * 64 + k, none⟩ = some (.int .u8 ((ss.getD j []).getD k 0)))
theorem RS.keep {w w' : World} (hb : Below w.heap.size w w') {v : Value} {n : Nat} {ss : List (List Int)} (h : RS w v n ss) : RS w' v n ss := by
  obtain ⟨a, cap, rfl, h1, h2, h3, h4, hc⟩ := h
  refine ⟨a, cap, rfl, h1, h2, h3, h4, fun h0 => ?_⟩
  obtain ⟨b, off, rfl, hcell⟩ := hc h0
  exact ⟨b, off, rfl, fun j hj k hk => cell_keep hb (hcell j hj k hk)⟩
theorem getD_memL {α : Type} {l : List α} {k : Nat} {d : α} (h : k < l.length) : l.getD k d ∈ l := by
  simp [List.getD, h]
set_option maxRecDepth 8000 in
set_option maxHeartbeats 1000000 in
theorem same_any (v1 v2 : Value) (n m : Nat) (ss ts : List (List Int)) (w : World) (h1 : RS w v1 n ss) (h2 : RS w v2 m ts) :
    Calls Tryz.prog 66 #[v1, v2] w fun e w' => e = .returned (.bool (decide (ss = ts))) ∧ Below w.heap.size w w' := by
  obtain ⟨a1, c1, rfl, hl1, hc1, hm1, hs1, hx1⟩ := h1
  obtain ⟨a2, c2, rfl, hl2, hc2, hm2, hs2, hx2⟩ := h2
  by_cases hnm : n = m
  · subst hnm
    have HX1 : Hid (∀ j, j < n → ∃ b off, a1 = some ⟨b, off, none⟩ ∧ At w b (off + j * 64) (ss.getD j [])) := fun j hj => by
      obtain ⟨b, off, e, h⟩ := hx1 (by omega)
      exact ⟨b, off, e, hs1 _ (getD_memL (by omega)), h j hj⟩
    have HX2 : Hid (∀ j, j < n → ∃ b off, a2 = some ⟨b, off, none⟩ ∧ At w b (off + j * 64) (ts.getD j [])) := fun j hj => by
      obtain ⟨b, off, e, h⟩ := hx2 (by omega)
      exact ⟨b, off, e, hs2 _ (getD_memL (by omega)), h j hj⟩
    have HL1 := Lib.hid hl1
    have HL2 := Lib.hid hl2
    have hn63 : (n : Int) ≤ 9223372036854775807 := by omega
    clear hx1 hx2 hs1 hs2 hl1 hl2
    go_enter Tryz.func66, Tryz.ntmps66
    go_wp2
    go_loopw [5] (fun iv wr => ∃ i : Nat, iv = .int .i64 i ∧ i ≤ n ∧ Hid (∀ j, j < i → ss.getD j [] = ts.getD j []) ∧ Hid (Below w.heap.size w wr)) (fun iv _ => n - (intOf iv).toNat)
    case atStart => exact ⟨0, rfl, by omega, fun j hj => absurd hj (by omega), Below.refl _ _⟩
    case round =>
      obtain ⟨i, rfl, hi, HE, HB⟩ := hrel
      by_cases hlt : (i : Int) < (n : Int)
      · obtain ⟨b1, off1, rfl, hat1⟩ := HX1.out i (by omega)
        obtain ⟨b2, off2, rfl, hat2⟩ := HX2.out i (by omega)
        obtain ⟨s, hs⟩ : ∃ s, ss.getD i [] = s := ⟨_, rfl⟩
        obtain ⟨t, ht⟩ : ∃ t, ts.getD i [] = t := ⟨_, rfl⟩
        rw [hs] at hat1
        rw [ht] at hat2
        have HA1 := Lib.hid hat1
        have HA2 := Lib.hid hat2
        have HQ := Lib.hid (run_eq_sec s t hat1.1 hat2.1)
        have HS := Lib.hid hs
        have HT := Lib.hid ht
        obtain ⟨y, hy⟩ : ∃ y, decide (s = t) = y := ⟨_, rfl⟩
        rw [hy] at HQ
        have HY := Lib.hid hy
        clear hat1 hat2 hs ht hy
        go_wp2_with fail
        refine wp_region_held_drew (S := (fun w' => Below w.heap.size w w')) (by kernel_rfl) HB.out.drew (fun hS => ?_)
        refine rgw 0 ⟨some 17, .move (.tmp 0), 35, _, _, none⟩ hS ?_
        refine rgw 1 ⟨some 18, .move (.tmp 5), 3, _, _, none⟩ hS ?_
        refine rgw 2 ⟨some 19, .indexAddr 35 (.tmp 17) (.tmp 18), 0, _, _, none⟩ hS ?_
        refine rgw 3 ⟨some 20, .load 63 (.tmp 19), 63, _, _, none⟩ hS ?_ (hy := by intro w hSw; (try dsimp only at hSw); refine exec_load_at (.tmp 19) ?_ ?_ (HA1.out.keep hSw) <;> rfl)
        refine rgw 4 ⟨some 21, .move (.tmp 1), 35, _, _, none⟩ hS ?_
        refine rgw 5 ⟨some 22, .move (.tmp 5), 3, _, _, none⟩ hS ?_
        refine rgw 6 ⟨some 23, .indexAddr 35 (.tmp 21) (.tmp 22), 0, _, _, none⟩ hS ?_
        refine rgw 7 ⟨some 24, .load 63 (.tmp 23), 63, _, _, none⟩ hS ?_ (hy := by intro w hSw; (try dsimp only at hSw); refine exec_load_at (.tmp 23) ?_ ?_ (HA2.out.keep hSw) <;> rfl)
        refine rgw 8 ⟨some 25, .binOp .neq 63 (.tmp 20) (.tmp 24) 63, 4, _, _, none⟩ hS ?_ (hy := by intro w hSw; (try dsimp only at hSw); have hq := HQ.out w; go_simp; try with_reducible rfl)
        refine wpAnyH_done (by kernel_rfl) ?_ _
        have HB2 := Lib.hid hS
        clear hS
        cases y with
        | false =>
          go_wp2
          go_ret
          refine ⟨ret_bool ?_, HB2.out⟩
          rw [decide_eq_false]
          intro e
          have h1 := of_decide_eq_false HY.out
          exact h1 (by rw [← HS.out, ← HT.out, e])
        | true =>
          go_wp2
          go_roundw
          case rel =>
            refine ⟨i + 1, by go_num, by omega, Lib.hid (fun j hj => ?_), HB2⟩
            by_cases hji : j = i
            · subst hji; rw [HS.out, HT.out]; exact of_decide_eq_true HY.out
            · exact HE.out j (by omega)
          case measure => simp [intOf]; omega
      · have hq : i = n := by omega
        subst hq
        have HD := Lib.hid (show decide (ss = ts) = true from decide_eq_true (by
          have h1 := HL1.out
          have h2 := HL2.out
          refine List.ext_getElem (by omega) fun j h3 h4 => ?_
          have := HE.out j (by omega)
          simpa [List.getD, h3, h4] using this))
        go_wp2
        go_ret
        exact ⟨ret_bool (by rw [HD.out]), HB.out⟩
  · have hne : ¬ (n : Int) = (m : Int) := by omega
    have HN := Lib.hid (show decide (ss = ts) = false from decide_eq_false (fun h => hnm (by rw [← hl1, ← hl2, h])))
    clear hx1 hx2 hs1 hs2
    go_enter Tryz.func66, Tryz.ntmps66
    go_wp2
    go_ret
    exact ⟨ret_bool (by rw [HN.out]), Below.refl _ _⟩
theorem FS.rs {w : World} {v : Value} {n : Nat} {fs : List Int} (h : FS w v n fs) : RS w v n (chunks n fs) := by
  obtain ⟨a, cap, rfl, hl, h2, h3, _, hc⟩ := h
  refine ⟨a, cap, rfl, by simp [chunks], h2, h3, ?_, fun h0 => ?_⟩
  · intro s hs
    simp only [chunks, List.mem_map, List.mem_range] at hs
    obtain ⟨j, hj, rfl⟩ := hs
    simp; omega
  · obtain ⟨b, off, rfl, hcell⟩ := hc h0
    refine ⟨b, off, rfl, fun j hj k hk => ?_⟩
    rw [Nat.add_assoc, hcell (j * 64 + k) (by omega), chunks_get n fs j hj]
    simp only [List.getD, List.getElem?_take, hk, if_true, List.getElem?_drop]
theorem same_true (v1 v2 : Value) (n : Nat) (fs : List Int) (w : World) (h1 : FS w v1 n fs) (h2 : FS w v2 n fs) :
    Calls Tryz.prog 66 #[v1, v2] w fun e w' => e = .returned (.bool true) ∧ Below w.heap.size w w' := by
  have := same_any v1 v2 n n _ _ w h1.rs h2.rs
  rwa [decide_eq_true rfl] at this
end Go.Proofs.YtpoiapfgbbmekaaGreatDoor
namespace Go.Proofs.YtpoiapfgbbmekaaGreatDoor
open Go.RowKit
theorem RD.cells {w : World} {v : Value} {d : AD} (h : RD w v d) : ∃ cs, v = .agg cs ∧ cs.size = 6 ∧ cs.all (·.oneCell') = true := by
  obtain ⟨a, n, c, rfl, _⟩ := h.agg
  exact ⟨_, rfl, rfl, by simp [Value.oneCell']⟩
def orF (M F : Nat → Bool) : Nat → Bool := fun k => M k || F k
theorem orF_l {M F : Nat → Bool} {k : Nat} (h : M k = true) : orF M F k = true := by simp [orF, h]
theorem orF_r {M F : Nat → Bool} {k : Nat} (h : F k = true) : orF M F k = true := by simp [orF, h]
theorem orF_foot {M F : Nat → Bool} {n : Nat} (h : Foot M n) (k : Foot F n) : Foot (orF M F) n := fun i hi => by
  simp only [orF, Bool.or_eq_true] at hi
  rcases hi with hi | hi
  · exact h i hi
  · exact k i hi
theorem Ext.sub {F F' M : Nat → Bool} {w w' : World} (h : Ext F w w' F') (hs : ∀ k, F k = true → M k = true) : Ext M w w' (orF M F') :=
  ⟨h.os, h.tape, h.output, h.size, fun k hk hm => h.block k hk (by
    cases hf : F k with
    | false => rfl
    | true => rw [hs k hf] at hm; simp at hm), fun k hk => by
    show (M k || F' k) = M k
    rw [h.foot k hk]
    cases hf : F k with
    | false => simp
    | true => rw [hs k hf]; simp⟩
theorem Ext.setRow' {F F' : Nat → Bool} {w w' : World} (h : Ext F w w' F') (b : Nat) (hb : F' b = true) (cs : Array Value) : Ext F w (w'.setRow b cs) F' :=
  h.trans ((Ext.refl F' w').setRow b hb cs)
theorem Ext.newRow {F F' : Nat → Bool} {w w' : World} (h : Ext F w w' F') (b : Nat) (hb : w.heap.size ≤ b) (cs : Array Value) : Ext F w (w'.setRow b cs) F' :=
  ⟨h.os, h.tape, h.output, by simpa using h.size, fun k hk hf => by rw [setRow_other w' b k cs (by omega)]; exact h.block k hk hf, h.foot⟩
variable {DK : World → Addr → (Nat → Bool) → AD → Prop}
structure DoS (DK : World → Addr → (Nat → Bool) → AD → Prop) (F M : Nat → Bool) (w : World) (p : Addr) (ac cs : Array Value) (dp dr : AD) (F1 M1 : Nat → Bool) (W : World) : Prop where
  dk : DK W p F1 dp
  rd : RD (mask M1 W) (.agg cs) dr
  ex : Ext F w W F1
  exm : Ext M w W M1
  sub : ∀ k, F1 k = true → M1 k = true
  foot : Foot M1 W.heap.size
  size : w.heap.size + 3 ≤ W.heap.size
  box : ∀ k, w.heap.size ≤ k → k < w.heap.size + 3 → M1 k = true ∧ F1 k = false
  d0 : DB W w.heap.size cs
  d2 : DB W (w.heap.size + 2) dz
theorem kept {W W' : World} {F1 F2 : Nat → Bool} (hx : Ext F1 W W' F2) {k : Nat} {o : Obj} (h : W.heap[k]? = some o) (hf : F1 k = false) : W'.heap[k]? = some o := by
  rw [hx.block k (Array.getElem?_eq_some_iff.1 h).1 hf]; exact h
structure DoE (DK : World → Addr → (Nat → Bool) → AD → Prop) (F M : Nat → Bool) (w : World) (p : Addr) (v' : Value) (d' : AD) (F' M' : Nat → Bool) (w' : World) : Prop where
  dk : DK w' p F' d'
  rd : RD (mask M' w') v' d'
  ex : Ext F w w' F'
  exm : Ext M w w' M'
  sub : ∀ k, F' k = true → M' k = true
  foot : Foot M' w'.heap.size
theorem DoS.done (H : DiskSays DK) {F M F1 M1 : Nat → Bool} {w W : World} {p : Addr} {ac cs : Array Value} {d : AD} (h : DoS DK F M w p ac cs d d F1 M1 W) :
    DoE DK F M w p (.agg cs) d F1 M1 (W.setRow (w.heap.size + 2) cs) ∧ DB (W.setRow (w.heap.size + 2) cs) (w.heap.size + 2) cs := by
  have hb := h.box (w.heap.size + 2) (by omega) (by omega)
  have hn : ∀ k, k ≠ w.heap.size + 2 → (W.setRow (w.heap.size + 2) cs).heap[k]? = W.heap[k]? := fun k hk => setRow_other W (w.heap.size + 2) k cs hk
  have hs : (W.setRow (w.heap.size + 2) cs).heap.size = W.heap.size := by simp
  exact ⟨⟨H.keep h.dk (Nat.le_of_eq hs.symm) fun k hk => hn k (by rintro rfl; rw [hb.2] at hk; simp at hk), h.rd.kin ((Ext.refl M1 W).setRow _ hb.1 _).kin, h.ex.newRow _ (by omega) _, h.exm.setRow' _ hb.1 _, h.sub, by rw [hs]; exact h.foot⟩, h.d2.row h.d0.2⟩
theorem DoS.kin {F M F1 M1 : Nat → Bool} {w W : World} {p : Addr} {ac cs : Array Value} {dp dr : AD} (h : DoS DK F M w p ac cs dp dr F1 M1 W) : Kin (mask M w) (mask M1 W) := h.exm.kin
end Go.Proofs.YtpoiapfgbbmekaaGreatDoor
