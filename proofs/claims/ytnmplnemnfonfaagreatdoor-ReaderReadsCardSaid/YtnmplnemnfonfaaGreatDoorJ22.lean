/-
  TEXTS JOINED: SegCode, SegLay, SegLoad, RdLoad, PoolDo, SegBox, SegPrep. Each one's own words stand at its head.
-/
import Derived.Test.YtnmplnemnfonfaaGreatDoorJ10
import Derived.Test.YtnmplnemnfonfaaGreatDoorJ21
import Derived.Test.YtnmplnemnfonfaaGreatDoorJ19
import Derived.Test.YtnmplnemnfonfaaGreatDoorJ20
import Derived.Defers
namespace Go.Proofs.YtnmplnemnfonfaaGreatDoor
open Go.RowKit
structure VT (w : World) : Prop where
  vars : Vars w
  tab : Tab w
theorem VT.on {w w' : World} (h : VT w) (hb : Below w.heap.size w w') : VT w' := ⟨h.vars.on hb, h.tab.keep hb⟩
theorem VT.ext {W w : World} {F : Nat → Bool} (h : VT W) (hx : Ext (fun _ => false) W w F) : VT w :=
  ⟨h.vars.ext hx, fun j hj => by
    have := hx.kin
    rw [mask_none] at this
    exact (this.trans (unmask F w)) _ _ (h.tab j hj)⟩
variable {DK : World → Addr → (Nat → Bool) → AD → Prop}
structure LV (DK : World → Addr → (Nat → Bool) → AD → Prop) (w : World) (p : Addr) (F : Nat → Bool) (d : AD) (W : World) : Prop where
  dk : DK W p F d
  below : Below w.heap.size w W
  vt : VT W
theorem LV.next (H : DiskSays DK) {w : World} {p : Addr} {F : Nat → Bool} {d : AD} {W W' : World} (h : LV DK w p F d W) (hb : Below W.heap.size W W') : LV DK w p F d W' :=
  ⟨H.below h.dk hb, h.below.trans (hb.mono h.below.size), h.vt.on hb⟩
def foundI (d : AD) (s : ByteArray) : Int := if d.down = true then 9 else if ¬ d.has s then 7 else 0
theorem read_none (d : AD) (s : ByteArray) : (d.readR s 0 0).2.2 = foundI d s := by
  unfold AD.readR foundI
  split
  · rfl
  split
  · rfl
  · rw [if_neg (by omega)]
theorem read_all {d : AD} (s : ByteArray) {x : Int} (hx : foundI d s = x) (h0 : x ≠ 0) : d.readR s 0 (szI d s) = ([], 0, x) := by
  unfold AD.readR
  unfold foundI at hx
  split
  · rename_i h; rw [if_pos h] at hx; rw [hx]
  · rename_i h
    rw [if_neg h] at hx
    split
    · rename_i h2; rw [if_pos h2] at hx; rw [hx]
    · rename_i h2; rw [if_neg h2] at hx; exact absurd hx.symm h0
theorem read_there {d : AD} (hg : Good d) (s : ByteArray) (hx : foundI d s = 0) : d.has s ∧ szI d s = ((d.get s).n : Int) ∧ d.readR s 0 (szI d s) = ((d.get s).seen, (d.get s).n, 0) := by
  unfold foundI at hx
  split at hx
  · simp at hx
  rename_i hd
  split at hx
  · simp at hx
  rename_i hh
  have hh2 := Decidable.not_not.1 hh
  have hf := hg.file _ (get_mem hh2)
  have hs : szI d s = ((d.get s).n : Int) := by unfold szI; rw [if_pos hh2]
  refine ⟨hh2, hs, ?_⟩
  unfold AD.readR
  rw [if_neg hd, if_neg hh, hs, if_neg (by omega)]
  have := hf.seen
  simp [List.take_of_length_le (Nat.le_of_eq this)]
theorem sfind_of (H : DiskSays DK) {d : AD} {s : ByteArray} {x : Int} (hg : Good d) (hs : s.size ≤ 281474976710656) (hx : foundI d s = x) :
    Hid (∀ w p F, DK w p F d → Calls Tryz.prog 44 #[ptr p, .string s, .int .i64 0, .int .i64 0] w fun e w' => ∃ v, e = .returned (.tuple #[v, .int .i64 x]) ∧ Below w.heap.size w w') :=
  Lib.hid fun w p F h => by
    refine (H.read w p F d s 0 0 h hg hs (by unfold I63; omega) (by unfold I63; omega)).mono ?_
    rintro e w' ⟨v, rfl, _, hb⟩
    exact ⟨v, by rw [read_none, hx], hb⟩
theorem sfound_any (H : DiskSays DK) (w : World) (p : Addr) (F : Nat → Bool) (d : AD) (s : ByteArray) (h : DK w p F d) (hg : Good d) (hs : s.size ≤ 281474976710656) :
    Calls Tryz.prog 23 #[ptr p, .string s] w fun e w' => e = .returned (.int .i64 (foundI d s)) ∧ Below w.heap.size w w' := by
  obtain ⟨x, hx⟩ : ∃ x, foundI d s = x := ⟨_, rfl⟩
  have HR := sfind_of H hg hs hx
  have HK := Lib.hid h
  rw [hx]
  clear hx hg h
  go_enter Tryz.func23, Tryz.ntmps23
  go_wp2_with (first
    | (go_at_call 44; (with_reducible refine (HR.out _ _ _ HK.out).mono ?_); rintro e w1 ⟨v, rfl, hb⟩; have HB := Lib.hid hb; clear hb))
  go_ret
  exact ⟨rfl, HB.out⟩
theorem sfound_of (H : DiskSays DK) {d : AD} {s : ByteArray} {x : Int} (hg : Good d) (hs : s.size ≤ 281474976710656) (hx : foundI d s = x) :
    Hid (∀ w p F, DK w p F d → Calls Tryz.prog 23 #[ptr p, .string s] w fun e w' => e = .returned (.int .i64 x) ∧ Below w.heap.size w w') :=
  Lib.hid fun w p F h => by rw [← hx]; exact sfound_any H w p F d s h hg hs
end Go.Proofs.YtnmplnemnfonfaaGreatDoor
namespace Go.Proofs.YtnmplnemnfonfaaGreatDoor
open Go.RowKit
theorem splice_length {α : Type} (b : List α) (q : Nat) (x : List α) (h : q + x.length ≤ b.length) : (splice b q x).length = b.length := by
  unfold splice
  simp only [List.length_append, List.length_take, List.length_drop]
  omega
theorem henc_of {h : Hdr} (ht : HdT h) (hk : hdOk h = true) : Hid (∀ w, Tab w → Calls Tryz.prog 43 #[.agg (hv h)] w fun r w' => r = .returned (.tuple #[.agg (sv (secH h)), .int .i64 0]) ∧ Below w.heap.size w w') := Lib.hid fun w hT => henc_ok h ht hk w hT
set_option maxRecDepth 8000 in
set_option maxHeartbeats 2000000 in
theorem slay_no (h : Hdr) (ht : HdT h) (v : Value) (m : Nat) (fs : List Int) (w : World) (hT : Tab w) (hf : FS w v m fs) (hm : m ≤ 1000000) (hk : hdOk h = false ∨ 16 < m) :
    Calls Tryz.prog 22 #[.agg (hv h), v] w fun r w' => r = .returned (.tuple #[.slice none 0 0, .int .i64 13]) ∧ Below w.heap.size w w' := by
  obtain ⟨a, cap, rfl, hl, _, _, _, _⟩ := id hf
  obtain ⟨w0, hw0⟩ : ∃ q, w.alloc (.cells (hv h) 41) = q := ⟨_, rfl⟩
  have HK := Lib.hid (show HB w0 w.heap.size h from by rw [← hw0]; exact HB.new w h ht.n)
  have HW := Lib.hid (show Below w.heap.size w w0 from by rw [← hw0]; exact balloc w _)
  have HZ := Lib.hid z64_cells
  by_cases he : hdOk h = true
  · have hm16 : (16 : Int) < (m : Int) := by
      rcases hk with hk | hk
      · rw [he] at hk; simp at hk
      · omega
    have HE := henc_of ht he
    have HL := Lib.hid (secH_length ht.n)
    have HTT := Lib.hid (hT.keep HW.out)
    clear he hk hf hT
    go_enter Tryz.func22, Tryz.ntmps22
    go_wp2_with (first
      | (refine wpl_load_hd (by rfl) (.tmp 2) rfl rfl (show HB w0 w.heap.size h from HK.out) ?_)
      | (go_at_call 43; (with_reducible refine (HE.out _ HTT.out).mono ?_); rintro r w1 ⟨rfl, hb1⟩; have HB1 := Lib.hid (bch HW.out hb1); clear hb1)
      | (rw [← HZ.out]; refine wpl_store_new rfl _ _ rfl rfl w1.heap.size rfl (secH h) HL.out rfl rfl w HB1 ?_; intro w2 HK2 HB2 HB12))
    go_ret2
    exact ⟨rfl, HB2.out⟩
  · rw [Bool.not_eq_true] at he
    have HE : Hid (∀ w, Calls Tryz.prog 43 #[.agg (hv h)] w fun r w' => r = .returned (.tuple #[.agg (sv z64), .int .i64 13]) ∧ Below w.heap.size w w') := Lib.hid fun w => henc_no h ht he w
    clear he hk hf hT
    go_enter Tryz.func22, Tryz.ntmps22
    go_wp2_with (first
      | (refine wpl_load_hd (by rfl) (.tmp 2) rfl rfl (show HB w0 w.heap.size h from HK.out) ?_)
      | (go_at_call 43; (with_reducible refine (HE.out _).mono ?_); rintro r w1 ⟨rfl, hb1⟩; have HB1 := Lib.hid (bch HW.out hb1); clear hb1)
      | (rw [← HZ.out]; refine wpl_store_new rfl _ _ rfl rfl w1.heap.size rfl z64 z64_length rfl rfl w HB1 ?_; intro w2 HK2 HB2 HB12))
    go_ret2
    exact ⟨rfl, HB2.out⟩
theorem lay_steps {h : Hdr} (hn : h.l.length = 4) {m : Nat} (hm : m ≤ 16) {fs : List Int} (hf : fs.length = m * 64) : splice (splice (List.replicate (17 * 64) (0 : Int)) 0 (secH h)) 64 fs = layL h m fs := by
  have h1 : splice (List.replicate (17 * 64) (0 : Int)) 0 (secH h) = secH h ++ List.replicate (16 * 64) 0 := by
    unfold splice
    rw [secH_length hn, List.take_zero, List.drop_replicate, List.nil_append]
  rw [h1]
  unfold splice layL
  have hl := secH_length hn
  rw [List.take_append_of_le_length (by omega), List.take_of_length_le (by omega), List.drop_append, hl, List.drop_of_length_le (by rw [hl]; omega), hf]
  simp only [List.nil_append, List.drop_replicate]
  rw [show 16 * 64 - (64 + m * 64 - 64) = (16 - m) * 64 by omega, List.append_assoc]
set_option maxRecDepth 8000 in
set_option maxHeartbeats 4000000 in
theorem slay_ok (h : Hdr) (ht : HdT h) (v : Value) (m : Nat) (fs : List Int) (w : World) (hT : Tab w) (hf : FS w v m fs) (hk : hdOk h = true) (hm : m ≤ 16) :
    Calls Tryz.prog 22 #[.agg (hv h), v] w fun r w' => ∃ g, r = .returned (.tuple #[.slice (some ⟨g, 0, none⟩) 17 17, .int .i64 0]) ∧ RW w' g (layL h m fs) ∧ w.heap.size ≤ g ∧ Below w.heap.size w w' := by
  obtain ⟨a, cap, rfl, hl, _, _, _, _⟩ := id hf
  obtain ⟨w0, hw0⟩ : ∃ q, w.alloc (.cells (hv h) 41) = q := ⟨_, rfl⟩
  have HK := Lib.hid (show HB w0 w.heap.size h from by rw [← hw0]; exact HB.new w h ht.n)
  have HW := Lib.hid (show Below w.heap.size w w0 from by rw [← hw0]; exact balloc w _)
  have HZ := Lib.hid z64_cells
  have HE := henc_of ht hk
  have HN := Lib.hid (secH_length ht.n)
  have HTT := Lib.hid (hT.keep HW.out)
  have HF := Lib.hid hf
  have hm16 : ¬ (16 : Int) < (m : Int) := by omega
  have hstp := lay_steps ht.n hm hl
  have hmk : ∀ w, (Instr.makeSlice 29 (.int .i64 17) (.int .i64 17)).run Tryz.prog w = .ok (.slice (some ⟨w.heap.size, 0, none⟩) 17 17) (w.alloc (.cells (il .u8 (List.replicate (17 * 64) 0)).toArray 92)) := make_row_run 17 (by omega)
  obtain ⟨zr, hzr⟩ : ∃ z, List.replicate (17 * 64) (0 : Int) = z := ⟨_, rfl⟩
  rw [hzr] at hmk hstp
  have HZL := Lib.hid (show zr.length = 17 * 64 from by rw [← hzr]; simp)
  have HST := Lib.hid hstp
  clear hzr hstp
  clear hk hf hT ht
  go_enter Tryz.func22, Tryz.ntmps22
  go_wp2_with (first
    | (refine wpl_load_hd (by rfl) (.tmp 2) rfl rfl (show HB w0 w.heap.size h from HK.out) ?_)
    | (go_at_call 43; (with_reducible refine (HE.out _ HTT.out).mono ?_); rintro r w1 ⟨rfl, hb1⟩; have HB1 := Lib.hid (bch HW.out hb1); clear hb1)
    | (rw [← HZ.out]; refine wpl_store_new rfl _ _ rfl rfl w1.heap.size rfl (secH h) HN.out rfl rfl w HB1 ?_; intro w2 HK2 HB2 HB12)
    | (refine wpl_load_sec (by rfl) (.tmp 6) rfl w1.heap.size rfl (secH h) (HK2.out.keep (balloc _ _)) ?_)
    | (refine wpl_put_row rfl _ _ rfl w2.heap.size 17 0 zr (secH h) (heap_alloc_last w2 _) HZL.out (by omega) HN.out 0 rfl rfl rfl ?_; intro w3 HR3 HG3)
    | (refine wpl_copy_rowAt rfl _ _ rfl w2.heap.size 64 16 16 _ HR3.out (by rw [splice_length _ _ _ (by rw [HN.out, HZL.out]; omega), HZL.out]) rfl _ m fs rfl (HF.out.keep (hbelow_grown (bch HB2.out (balloc _ _)) HG3.out HB2.out.size (by rw [alloc_size]; have := HB2.out.size; omega))) hm ?_; intro w4 HR4 HG4))
  go_ret2
  have hs2 := HB2.out.size
  have hs3 : w.heap.size ≤ w3.heap.size := by have := HG3.out.size; rw [alloc_size] at this; omega
  have h3 : Below w.heap.size w w3 := hbelow_grown (bch HB2.out (balloc _ _)) HG3.out hs2 (by rw [alloc_size]; omega)
  exact ⟨w2.heap.size, rfl, by rw [← HST.out]; exact HR4.out, hs2, hbelow_grown h3 HG4.out hs2 hs3⟩
end Go.Proofs.YtnmplnemnfonfaaGreatDoor
namespace Go.Proofs.YtnmplnemnfonfaaGreatDoor
open Go.RowKit
variable {DK : World → Addr → (Nat → Bool) → AD → Prop}
theorem swal_of {q : Int} (hq : I63 q) {s : ByteArray} (hs : walB q = s) : Hid (∀ w, Vars w → Calls Tryz.prog 96 #[.int .i64 q] w fun e w' => e = .returned (.string s) ∧ Below w.heap.size w w') :=
  Lib.hid fun w hv => by rw [← hs]; exact wal_any q hq.1 hq.2 w hv
theorem sdec_of {l : List Int} (hl : 64 ≤ l.length) (hb : Bytes l) {x : Hdr} {e : Int} (h : fstI l = (x, e)) :
    Hid (∀ w, Tab w → Calls Tryz.prog 97 #[.agg (sv (l.take 64))] w fun r w' => r = .returned (.tuple #[.agg (hv x), .int .i64 e]) ∧ Below w.heap.size w w') :=
  Lib.hid fun w hT => hdec_any (l.take 64) (by simp; omega) ((bytes_isB hb).take 64) w hT h
theorem sread_no (H : DiskSays DK) {d : AD} {s : ByteArray} {x m : Int} (hg : Good d) (hs : s.size ≤ 281474976710656) (hx : foundI d s = x) (h0 : x ≠ 0) (hm : szI d s = m) :
    Hid (∀ w p F, DK w p F d → Calls Tryz.prog 44 #[ptr p, .string s, .int .i64 0, .int .i64 m] w fun e w' => ∃ v, e = .returned (.tuple #[v, .int .i64 x]) ∧ Below w.heap.size w w') :=
  Lib.hid fun w p F h => by
    have hb := sz_le hg s
    refine (H.read w p F d s 0 m h hg hs (by unfold I63; omega) (by unfold I63; omega)).mono ?_
    rintro e w' ⟨v, rfl, _, hb⟩
    exact ⟨v, by rw [← hm, read_all s hx h0], hb⟩
theorem sread_yes (H : DiskSays DK) {d : AD} {s : ByteArray} {m : Int} {f : AF} (hg : Good d) (hs : s.size ≤ 281474976710656) (hx : foundI d s = 0) (hm : szI d s = m) (hf : d.get s = f) :
    Hid (∀ w p F, DK w p F d → Calls Tryz.prog 44 #[ptr p, .string s, .int .i64 0, .int .i64 m] w fun e w' => ∃ v, e = .returned (.tuple #[v, .int .i64 0]) ∧ FS w' v f.n f.seen ∧ Below w.heap.size w w') :=
  Lib.hid fun w p F h => by
    have hb := sz_le hg s
    have hr := (read_there hg s hx).2.2
    refine (H.read w p F d s 0 m h hg hs (by unfold I63; omega) (by unfold I63; omega)).mono ?_
    rintro e w' ⟨v, rfl, hv, hb⟩
    rw [hm, hf] at hr
    rw [hr] at hv
    exact ⟨v, by rw [hr], hv, hb⟩
theorem HB.ne_fs {w : World} {g b o n c : Nat} {h : Hdr} {fs : List Int} (k : HB w g h) (hf : FS w (.slice (some ⟨b, o, none⟩) n c) n fs) (h0 : 0 < n) : b ≠ g := by
  rintro rfl
  obtain ⟨a', c', e, _, _, _, _, hc⟩ := hf
  simp only [Value.slice.injEq, true_and] at e
  obtain ⟨rfl, rfl⟩ := e
  obtain ⟨b', o', e2, hcell⟩ := hc h0
  simp only [Option.some.injEq, Addr.mk.injEq] at e2
  obtain ⟨rfl, rfl, _⟩ := e2
  have h1 := hcell 0 (by omega)
  rw [cell_of_row w b (o + 0) _ _ _ k.1] at h1
  have hm := Array.mem_of_getElem? h1
  simp only [hv, List.mem_toArray, List.mem_cons] at hm
  rcases hm with hm | hm | hm | hm
  · simp at hm
  · simp at hm
  · simp at hm
  · simp [il] at hm
theorem cell_over {w w' : World} {a : Addr} {v : Value} {g : Nat} (h : w.cell? a = some v) (hg : w.grownBy w' (some g)) (hne : a.block ≠ g) : w'.cell? a = some v := by
  unfold World.cell? at h ⊢
  have hlt : a.block < w.heap.size := by
    rcases Nat.lt_or_ge a.block w.heap.size with hl | hl
    · exact hl
    · simp [Array.getElem?_eq_none hl] at h
  rw [hg.block a.block hlt (fun e => hne (Option.some.inj e))]
  exact h
theorem FS.over {w w' : World} {b o n c g : Nat} {fs : List Int} (h : FS w (.slice (some ⟨b, o, none⟩) n c) n fs) (hg : w.grownBy w' (some g)) (hne : b ≠ g) : FS w' (.slice (some ⟨b, o, none⟩) n c) n fs := by
  obtain ⟨a', c', e, h1, h2, h3, h4, hc⟩ := h
  simp only [Value.slice.injEq, true_and] at e
  obtain ⟨rfl, rfl⟩ := e
  refine ⟨_, _, rfl, h1, h2, h3, h4, fun h0 => ?_⟩
  obtain ⟨b', o', e2, hcell⟩ := hc h0
  simp only [Option.some.injEq, Addr.mk.injEq] at e2
  obtain ⟨rfl, rfl, _⟩ := e2
  exact ⟨b, o, rfl, fun j hj => cell_over (hcell j hj) hg hne⟩
structure LH (DK : World → Addr → (Nat → Bool) → AD → Prop) (w : World) (p : Addr) (F : Nat → Bool) (d : AD) (W : World) : Prop where
  lv : LV DK w p F d W
  hr : HB W w.heap.size noH
theorem LH.next (H : DiskSays DK) {w : World} {p : Addr} {F : Nat → Bool} {d : AD} {W W' : World} (h : LH DK w p F d W) (hb : Below W.heap.size W W') : LH DK w p F d W' := ⟨h.lv.next H hb, h.hr.keep hb⟩
theorem head_no {d : AD} {q : Int} {s : ByteArray} (hs : walB q = s) (h0 : s ≠ noS) {x : Int} (hx : foundI d s = x) (hn : x ≠ 0) : headI d q = (noH, x) := by
  unfold headI
  rw [hs, if_neg h0]
  unfold foundI at hx
  split at hx
  · rename_i h; rw [if_pos h, hx]
  · rename_i h
    rw [if_neg h]
    split at hx
    · rename_i h2; rw [if_pos h2, hx]
    · exact absurd hx.symm hn
theorem head_yes {d : AD} {q : Int} {s : ByteArray} (hs : walB q = s) (h0 : s ≠ noS) (hx : foundI d s = 0) {f : AF} (hf : d.get s = f) {x : Hdr} {e : Int} (hd : fstI f.seen = (x, e)) :
    headI d q = if f.n ≠ 17 ∨ e ≠ 0 ∨ x.s ≠ q then (noH, 12) else (x, 0) := by
  unfold headI
  rw [hs, if_neg h0]
  unfold foundI at hx
  split at hx
  · simp at hx
  rename_i h
  rw [if_neg h]
  split at hx
  · simp at hx
  rename_i h2
  rw [if_neg h2, hf, hd]
set_option maxRecDepth 8000 in
set_option maxHeartbeats 4000000 in
theorem sload_any (H : DiskSays DK) (w : World) (p : Addr) (F : Nat → Bool) (d : AD) (q : Int) (h : DK w p F d) (hg : Good d) (hvt : VT w) (hq : I63 q) :
    Calls Tryz.prog 74 #[ptr p, .int .i64 q] w fun e w' => ∃ v, e = .returned (.tuple #[.agg (hv (headI d q).1), v, .int .i64 (headI d q).2]) ∧ ((headI d q).2 = 0 → FS w' v 16 (dataI d q)) ∧ Below w.heap.size w w' := by
  have hH := Lib.hid H
  have HG := Lib.hid hg
  obtain ⟨w0, hw0⟩ : ∃ q, w.alloc (.cells #[.int .u64 0, .int .i64 0, .int .i64 0, .int .i64 0, .int .i64 0, .int .i64 0, .int .i64 0] 41) = q := ⟨_, rfl⟩
  have HS := Lib.hid (show LH DK w p F d w0 from by
    have hb := balloc w (.cells (hv noH) 41)
    rw [← hw0]
    exact ⟨⟨H.below h hb, hb, hvt.on hb⟩, HB.new w noH rfl⟩)
  obtain ⟨s, hs⟩ : ∃ s, walB q = s := ⟨_, rfl⟩
  have HWL := swal_of hq hs
  have hsz : s.size ≤ 281474976710656 := by rw [← hs]; exact wal_size q hq.1 hq.2
  by_cases h0 : s = noS
  · rw [show headI d q = (noH, 13) from by unfold headI; rw [hs, if_pos h0]]
    subst h0
    clear hs h hg hvt hq hsz
    go_enter Tryz.func74, Tryz.ntmps74
    go_wp2_with (first
      | (go_at_call 96; (with_reducible refine (HWL.out _ HS.out.lv.vt.vars).mono ?_); rintro e w1 ⟨rfl, hb⟩; have HS1 := Lib.hid (HS.out.next hH.out hb); clear hb)
      | (refine wpl_put_hd rfl (.tmp 4) (.tmp 15) rfl w.heap.size noH noH HS1.out.hr rfl rfl rfl ?_; intro wf HOF HGF))
    refine bodyPost_ret_by (results_row_tmp2 rfl _ _ w.heap.size _ rfl HOF.out.load) rfl ⟨_, rfl, fun e => by simp at e, hbelow_grown HS1.out.lv.below HGF.out (Nat.le_refl _) HS1.out.lv.below.size⟩
  have b0 : (s.toList == ([] : List UInt8)) = false := str_empty h0
  obtain ⟨m, hm⟩ : ∃ m, szI d s = m := ⟨_, rfl⟩
  have HZ := psize_of H hg hsz hm
  obtain ⟨x, hx⟩ : ∃ x, foundI d s = x := ⟨_, rfl⟩
  by_cases hx0 : x = 0
  · subst hx0
    obtain ⟨f, hf⟩ : ∃ f, d.get s = f := ⟨_, rfl⟩
    obtain ⟨⟨x, e⟩, hd⟩ : ∃ r, fstI f.seen = r := ⟨_, rfl⟩
    have hrt := read_there hg s hx
    have hgf : GF f := by rw [← hf]; exact hg.file _ (get_mem hrt.1)
    have HRD := sread_yes H hg hsz hx hm hf
    have hl := hgf.seen
    have hn1 := hgf.n1
    have hn64 := hgf.n64
    have HDC := sdec_of (by omega) hgf.bseen hd
    have HXT := Lib.hid (show HdT x from by have := fstI_typed hgf.bseen; rw [hd] at this; exact this)
    have hda : dataI d q = f.seen.drop 64 := by unfold dataI; rw [hs, hf]
    rw [head_yes hs h0 hx hf hd, hda]
    obtain ⟨k, hk⟩ : ∃ k, f.n = k := ⟨_, rfl⟩
    obtain ⟨zs, hzs⟩ : ∃ zs, f.seen = zs := ⟨_, rfl⟩
    simp only [hk, hzs] at HRD HDC ⊢
    clear hs h hg hvt hq hsz h0 hm hx hd hrt hda hgf hl hf hzs
    by_cases h17 : k = 17
    · subst h17
      clear hk hn1 hn64
      by_cases he : e = 0
      · subst he
        by_cases hq2 : x.s = q
        · rw [if_neg (by simp [hq2])]
          have bq : (x.s == q) = true := by simpa using hq2
          go_enter Tryz.func74, Tryz.ntmps74
          go_wp2_with (first
            | (go_at_call 96; (with_reducible refine (HWL.out _ HS.out.lv.vt.vars).mono ?_); rintro e w1 ⟨rfl, hb⟩; have HS1 := Lib.hid (HS.out.next hH.out hb); clear hb)
            | (go_at_call 24; (with_reducible refine (HZ.out _ _ _ HS1.out.lv.dk).mono ?_); rintro e w2 ⟨rfl, hb⟩; have HS2 := Lib.hid (HS1.out.next hH.out hb); clear hb)
            | (go_at_call 44; (with_reducible refine (HRD.out _ _ _ HS2.out.lv.dk).mono ?_); rintro e w3 ⟨v3, rfl, hf3, hb⟩; obtain ⟨a3, c3, rfl, _, hc3, hc63, _, _⟩ := id hf3; obtain ⟨b3, o3, rfl, hat3⟩ := hf3.at_ 0 (by omega); rw [Nat.zero_mul, Nat.add_zero, List.drop_zero] at hat3; have HS3 := Lib.hid (HS2.out.next hH.out hb); have HF3 := Lib.hid hf3; have HA3 := Lib.hid hat3; clear hb hf3 hat3)
            | (refine wpl_load_at rfl (.tmp 35) rfl b3 _ rfl _ HA3.out ?_)
            | (go_at_call 97; (with_reducible refine (HDC.out _ HS3.out.lv.vt.tab).mono ?_); rintro e w4 ⟨rfl, hb⟩; have HS4 := Lib.hid (HS3.out.next hH.out hb); have HF4 := Lib.hid (HF3.out.keep hb); clear hb)
            | (refine wpl_store_newH rfl _ _ rfl rfl w4.heap.size rfl x HXT.out.n rfl rfl ?_; intro w5 HK5 HB5)
            | (refine wpl_load_hs (by rfl) (.tmp 43) rfl rfl HK5.out ?_))
          have HR5 := Lib.hid ((HS4.out.hr.keep HB5.out).keep (Below.refl _ _).drew)
          have HK5d := Lib.hid (HK5.out.keep (Below.refl _ _).drew)
          have HW5 := Lib.hid (bch (bch HS4.out.lv.below HB5.out) (Below.refl _ _).drew)
          have HF5 := Lib.hid ((HF4.out.keep HB5.out).keep (Below.refl _ _).drew)
          have HNE := Lib.hid (HR5.out.ne_fs HF5.out (by omega))
          have HN4 := Lib.hid (show w4.heap.size ≠ w.heap.size from fun e => by have := HS4.out.hr.lt; omega)
          refine wp_region_held_drew (S := (fun W' => HB W' w4.heap.size x)) (by kernel_rfl) HK5d.out (fun hS => ?_)
          refine rgw 0 ⟨some 49, .load 41 (.tmp 10), 41, _, _, none⟩ hS ?_ (hy := by intro w hSw; (try dsimp only at hSw); refine exec_load_hd (.tmp 10) ?_ ?_ hSw <;> rfl)
          refine rgw 1 ⟨some 50, .move (.tmp 8), 29, _, _, none⟩ hS ?_
          refine rgw 2 ⟨some 51, .slice 29 (.tmp 50) (some (.const (.int .i64 1))) none none, 29, _, _, none⟩ hS ?_
          refine rg_one 3 ⟨none, .store 41 (.tmp 4) (.tmp 49), 0, _, _, none⟩ (by kernel_rfl) rfl (fun K hK => ?_)
          rw [if_pos (by rfl)]; refine wp_put_hd (.tmp 4) (.tmp 49) rfl w.heap.size noH x HR5.out HXT.out.n rfl rfl ?_; intro wf HOF HGF; have hN := HK5d.out.over HGF.out HN4.out
          refine hK.out _ _ ?_ (fun hS1 => ?_)
          · (first | exact hN | exact hS)
          clear hK K hS; have hS := hS1; clear hS1
          (try simp only [Act.put])
          refine rgw 4 ⟨some 5, .assign (.tmp 51), 29, _, _, none⟩ hS ?_
          refine rgw 5 ⟨some 6, .assign (.const (.int .i64 0)), 36, _, _, none⟩ hS ?_
          refine wpAnyH_done (by kernel_rfl) ?_ _
          go_wp2_with fail
          refine bodyPost_ret_by (results_row_tmp2 rfl _ _ w.heap.size _ rfl HOF.out.load) rfl ⟨_, rfl, ?_, hbelow_grown HW5.out HGF.out (Nat.le_refl _) HW5.out.size⟩
          (try intro _)
          have hm := (HF5.out.over HGF.out HNE.out).mid 1 16 (by omega)
          have hl := HF5.out.length
          rw [List.take_of_length_le (by simp; omega), show sliced (some ⟨b3, o3, none⟩) 1 (1 + 16) c3 64 = .slice (some ⟨b3, o3 + 64, none⟩) 16 (c3 - 1) from by unfold sliced; rw [if_neg (by omega)]; rfl] at hm
          exact hm
        · rw [if_pos (by simp [hq2])]
          have bq : (x.s == q) = false := by simpa using hq2
          go_enter Tryz.func74, Tryz.ntmps74
          go_wp2_with (first
            | (go_at_call 96; (with_reducible refine (HWL.out _ HS.out.lv.vt.vars).mono ?_); rintro e w1 ⟨rfl, hb⟩; have HS1 := Lib.hid (HS.out.next hH.out hb); clear hb)
            | (go_at_call 24; (with_reducible refine (HZ.out _ _ _ HS1.out.lv.dk).mono ?_); rintro e w2 ⟨rfl, hb⟩; have HS2 := Lib.hid (HS1.out.next hH.out hb); clear hb)
            | (go_at_call 44; (with_reducible refine (HRD.out _ _ _ HS2.out.lv.dk).mono ?_); rintro e w3 ⟨v3, rfl, hf3, hb⟩; obtain ⟨a3, c3, rfl, _, hc3, hc63, _, _⟩ := id hf3; obtain ⟨b3, o3, rfl, hat3⟩ := hf3.at_ 0 (by omega); rw [Nat.zero_mul, Nat.add_zero, List.drop_zero] at hat3; have HS3 := Lib.hid (HS2.out.next hH.out hb); have HF3 := Lib.hid hf3; have HA3 := Lib.hid hat3; clear hb hf3 hat3)
            | (refine wpl_load_at rfl (.tmp 35) rfl b3 _ rfl _ HA3.out ?_)
            | (go_at_call 97; (with_reducible refine (HDC.out _ HS3.out.lv.vt.tab).mono ?_); rintro e w4 ⟨rfl, hb⟩; have HS4 := Lib.hid (HS3.out.next hH.out hb); have HF4 := Lib.hid (HF3.out.keep hb); clear hb)
            | (refine wpl_store_newH rfl _ _ rfl rfl w4.heap.size rfl x HXT.out.n rfl rfl ?_; intro w5 HK5 HB5)
            | (refine wpl_load_hs (by rfl) (.tmp 43) rfl rfl HK5.out ?_)
            | (refine wpl_put_hd rfl (.tmp 4) (.tmp 48) rfl w.heap.size noH noH (HS4.out.hr.keep HB5.out) rfl rfl rfl ?_; have HW5 := Lib.hid (bch HS4.out.lv.below HB5.out); intro wf HOF HGF))
          refine bodyPost_ret_by (results_row_tmp2 rfl _ _ w.heap.size _ rfl HOF.out.load) rfl ⟨_, rfl, fun e => by simp at e, hbelow_grown HW5.out HGF.out (Nat.le_refl _) HW5.out.size⟩
      · rw [if_pos (by simp [he])]
        have be : (e == 0) = false := by simpa using he
        focus
          go_enter Tryz.func74, Tryz.ntmps74
          go_wp2_with (first
            | (go_at_call 96; (with_reducible refine (HWL.out _ HS.out.lv.vt.vars).mono ?_); rintro e w1 ⟨rfl, hb⟩; have HS1 := Lib.hid (HS.out.next hH.out hb); clear hb)
            | (go_at_call 24; (with_reducible refine (HZ.out _ _ _ HS1.out.lv.dk).mono ?_); rintro e w2 ⟨rfl, hb⟩; have HS2 := Lib.hid (HS1.out.next hH.out hb); clear hb)
            | (go_at_call 44; (with_reducible refine (HRD.out _ _ _ HS2.out.lv.dk).mono ?_); rintro e w3 ⟨v3, rfl, hf3, hb⟩; obtain ⟨a3, c3, rfl, _, hc3, hc63, _, _⟩ := id hf3; obtain ⟨b3, o3, rfl, hat3⟩ := hf3.at_ 0 (by omega); rw [Nat.zero_mul, Nat.add_zero, List.drop_zero] at hat3; have HS3 := Lib.hid (HS2.out.next hH.out hb); have HF3 := Lib.hid hf3; have HA3 := Lib.hid hat3; clear hb hf3 hat3)
            | (refine wpl_load_at rfl (.tmp 35) rfl b3 _ rfl _ HA3.out ?_)
            | (go_at_call 97; (with_reducible refine (HDC.out _ HS3.out.lv.vt.tab).mono ?_); rintro e w4 ⟨rfl, hb⟩; have HS4 := Lib.hid (HS3.out.next hH.out hb); have HF4 := Lib.hid (HF3.out.keep hb); clear hb)
            | (refine wpl_store_newH rfl _ _ rfl rfl w4.heap.size rfl x HXT.out.n rfl rfl ?_; intro w5 HK5 HB5)
            | (refine wpl_load_hs (by rfl) (.tmp 43) rfl rfl HK5.out ?_)
            | (refine wpl_put_hd rfl (.tmp 4) (.tmp 48) rfl w.heap.size noH noH (HS4.out.hr.keep HB5.out) rfl rfl rfl ?_; have HW5 := Lib.hid (bch HS4.out.lv.below HB5.out); intro wf HOF HGF))
          refine bodyPost_ret_by (results_row_tmp2 rfl _ _ w.heap.size _ rfl HOF.out.load) rfl ⟨_, rfl, fun e => by simp at e, hbelow_grown HW5.out HGF.out (Nat.le_refl _) HW5.out.size⟩
    · rw [if_pos (by simp [h17])]
      have b17 : ((k : Int) == 17) = false := by simp; omega
      focus
          go_enter Tryz.func74, Tryz.ntmps74
          go_wp2_with (first
            | (go_at_call 96; (with_reducible refine (HWL.out _ HS.out.lv.vt.vars).mono ?_); rintro e w1 ⟨rfl, hb⟩; have HS1 := Lib.hid (HS.out.next hH.out hb); clear hb)
            | (go_at_call 24; (with_reducible refine (HZ.out _ _ _ HS1.out.lv.dk).mono ?_); rintro e w2 ⟨rfl, hb⟩; have HS2 := Lib.hid (HS1.out.next hH.out hb); clear hb)
            | (go_at_call 44; (with_reducible refine (HRD.out _ _ _ HS2.out.lv.dk).mono ?_); rintro e w3 ⟨v3, rfl, hf3, hb⟩; obtain ⟨a3, c3, rfl, _, hc3, hc63, _, _⟩ := id hf3; have HS3 := Lib.hid (HS2.out.next hH.out hb); clear hb hf3)
            | (refine wpl_put_hd rfl (.tmp 4) (.tmp 32) rfl w.heap.size noH noH (HS3.out.hr) rfl rfl rfl ?_; have HW5 := Lib.hid (HS3.out.lv.below); intro wf HOF HGF))
          refine bodyPost_ret_by (results_row_tmp2 rfl _ _ w.heap.size _ rfl HOF.out.load) rfl ⟨_, rfl, fun e => by simp at e, hbelow_grown HW5.out HGF.out (Nat.le_refl _) HW5.out.size⟩
  · have HRD := sread_no H hg hsz hx hx0 hm
    rw [head_no hs h0 hx hx0]
    have bx : (x == 0) = false := by simpa using hx0
    clear hs h hg hvt hq hsz h0 hm hx
    go_enter Tryz.func74, Tryz.ntmps74
    go_wp2_with (first
      | (go_at_call 96; (with_reducible refine (HWL.out _ HS.out.lv.vt.vars).mono ?_); rintro e w1 ⟨rfl, hb⟩; have HS1 := Lib.hid (HS.out.next hH.out hb); clear hb)
      | (go_at_call 24; (with_reducible refine (HZ.out _ _ _ HS1.out.lv.dk).mono ?_); rintro e w2 ⟨rfl, hb⟩; have HS2 := Lib.hid (HS1.out.next hH.out hb); clear hb)
      | (go_at_call 44; (with_reducible refine (HRD.out _ _ _ HS2.out.lv.dk).mono ?_); rintro e w3 ⟨v3, rfl, hb⟩; have HS3 := Lib.hid (HS2.out.next hH.out hb); clear hb)
      | (refine wpl_put_hd rfl (.tmp 4) (.tmp 27) rfl w.heap.size noH noH HS3.out.hr rfl rfl rfl ?_; intro wf HOF HGF))
    refine bodyPost_ret_by (results_row_tmp2 rfl _ _ w.heap.size _ rfl HOF.out.load) rfl ⟨_, rfl, fun e => absurd e hx0, hbelow_grown HS3.out.lv.below HGF.out (Nat.le_refl _) HS3.out.lv.below.size⟩
theorem headI_typed {d : AD} (hg : Good d) (q : Int) : HdT (headI d q).1 := by
  unfold headI
  split
  · exact noH_typed
  split
  · exact noH_typed
  split
  · exact noH_typed
  rename_i hh
  split
  · exact noH_typed
  · exact fstI_typed (hg.file _ (get_mem (Decidable.not_not.1 hh))).bseen
theorem sload_of (H : DiskSays DK) {d : AD} (hg : Good d) {q : Int} (hq : I63 q) {x : Hdr} {e : Int} (hx : headI d q = (x, e)) :
    Hid (∀ w p F, DK w p F d → VT w → Calls Tryz.prog 74 #[ptr p, .int .i64 q] w fun r w' => ∃ v, r = .returned (.tuple #[.agg (hv x), v, .int .i64 e]) ∧ (e = 0 → FS w' v 16 (dataI d q)) ∧ Below w.heap.size w w') :=
  Lib.hid fun w p F h hv => by
    have := sload_any H w p F d q h hg hv hq
    rwa [hx] at this
set_option maxRecDepth 8000 in
set_option maxHeartbeats 1000000 in
theorem sheader_any (H : DiskSays DK) (w : World) (p : Addr) (F : Nat → Bool) (d : AD) (q : Int) (h : DK w p F d) (hg : Good d) (hvt : VT w) (hq : I63 q) :
    Calls Tryz.prog 49 #[ptr p, .int .i64 q] w fun e w' => e = .returned (.tuple #[.agg (hv (headI d q).1), .int .i64 (headI d q).2]) ∧ Below w.heap.size w w' := by
  have hH := Lib.hid H
  obtain ⟨w0, hw0⟩ : ∃ q, w.alloc (.cells #[.int .u64 0, .int .i64 0, .int .i64 0, .int .i64 0, .int .i64 0, .int .i64 0, .int .i64 0] 41) = q := ⟨_, rfl⟩
  have HS := Lib.hid (show LH DK w p F d w0 from by
    have hb := balloc w (.cells (hv noH) 41)
    rw [← hw0]
    exact ⟨⟨H.below h hb, hb, hvt.on hb⟩, HB.new w noH rfl⟩)
  have HXT := Lib.hid (headI_typed hg q)
  obtain ⟨⟨x, e⟩, hx⟩ : ∃ r, headI d q = r := ⟨_, rfl⟩
  have HLD := sload_of H hg hq hx
  rw [hx] at HXT ⊢
  clear hx hg hq hvt h
  go_enter Tryz.func49, Tryz.ntmps49
  go_wp2_with (first
    | (go_at_call 74; (with_reducible refine (HLD.out _ _ _ HS.out.lv.dk HS.out.lv.vt).mono ?_); rintro r w1 ⟨v, rfl, hv, hb⟩; have HS1 := Lib.hid (HS.out.next hH.out hb); clear hb hv)
    | (refine wpl_store_newH rfl _ _ rfl rfl w1.heap.size rfl x HXT.out.n rfl rfl ?_; intro w2 HK2 HB2)
    | (refine wpl_load_hd (by rfl) (.tmp 6) rfl rfl HK2.out ?_)
    | (refine wpl_put_hd rfl (.tmp 4) (.tmp 16) rfl w.heap.size noH x (HS1.out.hr.keep HB2.out) HXT.out.n rfl rfl ?_; have HW := Lib.hid (bch HS1.out.lv.below HB2.out); intro wf HOF HGF))
  refine bodyPost_ret_by (results_row_tmp rfl _ _ w.heap.size _ rfl HOF.out.load) rfl ⟨rfl, hbelow_grown HW.out HGF.out (Nat.le_refl _) HW.out.size⟩
set_option maxRecDepth 8000 in
set_option maxHeartbeats 1000000 in
theorem ssectors_any (H : DiskSays DK) (w : World) (p : Addr) (F : Nat → Bool) (d : AD) (q : Int) (h : DK w p F d) (hg : Good d) (hvt : VT w) (hq : I63 q) :
    Calls Tryz.prog 50 #[ptr p, .int .i64 q] w fun e w' => ∃ v, e = .returned (.tuple #[v, .int .i64 (headI d q).2]) ∧ ((headI d q).2 = 0 → FS w' v 16 (dataI d q)) ∧ Below w.heap.size w w' := by
  have hH := Lib.hid H
  have HK := Lib.hid h
  have HV := Lib.hid hvt
  have HXT := Lib.hid (headI_typed hg q)
  obtain ⟨⟨x, e⟩, hx⟩ : ∃ r, headI d q = r := ⟨_, rfl⟩
  have HLD := sload_of H hg hq hx
  rw [hx] at HXT ⊢
  obtain ⟨da, hda⟩ : ∃ l, dataI d q = l := ⟨_, rfl⟩
  rw [hda] at HLD ⊢
  clear hx hg hq hvt h hda
  go_enter Tryz.func50, Tryz.ntmps50
  go_wp2_with (first
    | (go_at_call 74; (with_reducible refine (HLD.out _ _ _ HK.out HV.out).mono ?_); rintro r w1 ⟨v, rfl, hv, hb⟩; have HF1 := Lib.hid hv; have HB1 := Lib.hid hb; clear hb hv)
    | (refine wpl_store_newH rfl _ _ rfl rfl w1.heap.size rfl x HXT.out.n rfl rfl ?_; intro w2 HK2 HB2))
  go_ret2
  exact ⟨v, rfl, fun e0 => (HF1.out e0).keep HB2.out, bch HB1.out HB2.out⟩
end Go.Proofs.YtnmplnemnfonfaaGreatDoor
namespace Go.Proofs.YtnmplnemnfonfaaGreatDoor
open Go.RowKit
variable {DK : World → Addr → (Nat → Bool) → AD → Prop}
set_option maxRecDepth 8000 in
set_option maxHeartbeats 1000000 in
theorem rload_any (H : DiskSays DK) (w : World) (p : Addr) (F : Nat → Bool) (d : AD) (q : Int) (h : DK w p F d) (hg : Good d) (hvt : VT w) (hq : I63 q) :
    Calls Tryz.prog 28 #[ptr p, .int .i64 q] w fun e w' => ∃ v, e = .returned (.tuple #[.int .u64 (headI d q).1.e, v, .int .i64 (headI d q).2]) ∧ ((headI d q).2 = 0 → FS w' v 16 (dataI d q)) ∧ Below w.heap.size w w' := by
  have hH := Lib.hid H
  have HK := Lib.hid h
  have HV := Lib.hid hvt
  have HXT := Lib.hid (headI_typed hg q)
  have H1 : Hid (Calls Tryz.prog 49 #[ptr p, .int .i64 q] w fun e w' => e = .returned (.tuple #[.agg (hv (headI d q).1), .int .i64 (headI d q).2]) ∧ Below w.heap.size w w') := Lib.hid (sheader_any H w p F d q h hg hvt hq)
  have H2 : Hid (∀ w', Below w.heap.size w w' → Calls Tryz.prog 50 #[ptr p, .int .i64 q] w' fun e w'' => ∃ v, e = .returned (.tuple #[v, .int .i64 (headI d q).2]) ∧ ((headI d q).2 = 0 → FS w'' v 16 (dataI d q)) ∧ Below w'.heap.size w' w'') := Lib.hid fun w' hb => ssectors_any H w' p F d q (H.below h hb) hg (hvt.on hb) hq
  generalize dataI d q = da at *
  generalize headI d q = x at *
  obtain ⟨x, e⟩ := x
  dsimp only at *
  clear h hg hvt hq
  go_enter Tryz.func28, Tryz.ntmps28
  go_wp2_with (first
    | (go_at_call 49; (with_reducible refine H1.out.mono ?_); rintro r w1 ⟨rfl, hb⟩; have HB1 := Lib.hid hb; clear hb)
    | (refine wpl_store_newH rfl _ _ rfl rfl w1.heap.size rfl x HXT.out.n rfl rfl ?_; intro w2 HK2 HB2)
    | (go_at_call 50; (with_reducible refine (H2.out _ (bch HB1.out HB2.out)).mono ?_); rintro r w3 ⟨v, rfl, hv, hb⟩; have HF3 := Lib.hid hv; have HB3 := Lib.hid (bch (bch HB1.out HB2.out) hb); have c0 := (HK2.out.keep hb).cells.1; clear hb hv))
  go_ret3
  exact ⟨v, rfl, HF3.out, HB3.out⟩
theorem wpl_box_pl {ops : Array Oper} {rest : List Oper} {o : Oper} {a : Act} {Q : Exit → Act → World → Prop} {w : World} (hg : o.guard = none) (x : Operand) (ho : o.op = .box 28 x) (cs : Array Value) (hx : a.eval x = .agg cs)
    (h : wpList Tryz.prog ops Q rest (a.put o.dst (.pointer (some ⟨w.heap.size, 0, none⟩))) (w.alloc (.cells cs 28))) : wpList Tryz.prog ops Q (o :: rest) a w :=
  wpList_plain hg fun _ hK => by
    unfold Oper.wp execOp
    simp only [ho, hx]
    simp [go_sem]
    exact hK _ _ h
def AllF (d : AD) (q : Int) (w : World) (r : Ending) (w' : World) : Prop :=
  ((headI d q).2 ≠ 0 ∧ r = .returned (.tuple #[.agg (tA (.slice none 0 0) (.slice none 0 0) 0 0), .int .i64 (headI d q).2]) ∧ Below w.heap.size w w') ∨
  ((headI d q).2 = 0 ∧ ∃ a, r = .returned (.tuple #[a, .int .i64 0]) ∧ ScanF 16 (dataI d q) (scOf (headI d q).1.e 16 (dataI d q)) w (.returned a) w')
set_option maxRecDepth 8000 in
set_option maxHeartbeats 2000000 in
theorem rall_any (H : DiskSays DK) (w : World) (p : Addr) (F : Nat → Bool) (d : AD) (q : Int) (h : DK w p F d) (hg : Good d) (hvt : VT w) (hq : I63 q) (hbd : isB (dataI d q)) (hue : U64 (headI d q).1.e) :
    Calls Tryz.prog 11 #[ptr p, .int .i64 q] w (AllF d q w) := by
  obtain ⟨wa, hwa⟩ : ∃ g, w.alloc (.cells (tA (.slice none 0 0) (.slice none 0 0) 0 0) 45) = g := ⟨_, rfl⟩
  have hba : Below w.heap.size w wa := by rw [← hwa]; exact balloc w _
  have HBA := Lib.hid hba
  have HRA : Hid (wa.heap[w.heap.size]? = some (.cells (tA (.slice none 0 0) (.slice none 0 0) 0 0) 45 (0, 0))) := Lib.hid (by rw [← hwa]; exact heap_alloc_last w _)
  have H1 := Lib.hid (rload_any H wa p F d q (H.below h hba) hg (hvt.on hba) hq)
  have HT := Lib.hid (hvt.on hba).tab
  have HWA : Hid (w.heap.size < wa.heap.size) := Lib.hid (by rw [← hwa, alloc_size]; omega)
  unfold AllF
  generalize dataI d q = da at *
  generalize headI d q = x at *
  obtain ⟨x, e⟩ := x
  dsimp only at *
  obtain ⟨ep, hep⟩ : ∃ ep, x.e = ep := ⟨_, rfl⟩
  rw [hep] at H1 hue ⊢
  clear h hg hvt hq hba hep
  by_cases he : e = 0
  · subst he
    have HSC0 : ∀ w' v, Below wa.heap.size wa w' → FS w' v 16 da → Calls Tryz.prog 29 #[.int .u64 ep, v] w' (ScanF 16 da (scOf ep 16 da) w') := fun w' v hb hf => scan_any ep hue v 16 da hbd w' hf (HT.out.keep hb)
    unfold ScanF at HSC0 ⊢
    generalize scOf ep 16 da = S at *
    generalize scKind 16 da S.fin = k at *
    obtain ⟨S0, S1, S2, S3, R, P, fin⟩ := S
    dsimp only at *
    obtain ⟨m, hm⟩ : ∃ m, P.length = m := ⟨_, rfl⟩
    rw [hm] at HSC0 ⊢
    have HSC := Lib.hid HSC0
    have HN : Hid (∀ (w2 : World) (base : Nat), Below w.heap.size w w2 → w.heap.size < base → ∀ {n q : Nat} {t : TypeId} {u : Value} {xs : List Value} (c : Array Value), w2.ownsRow base t q u n xs → (w2.setRow w.heap.size c).ownsRow w.heap.size t q u n xs) := Lib.hid fun w2 base hb hbs n q t u xs c ho =>
      own_mono (own_over ho ⟨rfl, rfl, rfl, by simp, fun i _ hne => setRow_other w2 w.heap.size i c (fun e => hne (by rw [e]))⟩ (fun g hg x => by have h1 := (ho.lt g hg).1; have h4 := Option.some.inj x; omega)) (by omega)
    clear hbd hue HSC0 hm
    go_enter Tryz.func11, Tryz.ntmps11
    go_wp2_with (first
      | (rw [hwa])
      | (go_at_call 28; (with_reducible refine H1.out.mono ?_); rintro r w1 ⟨v, rfl, hv, hb⟩; have HF1 := Lib.hid (hv rfl); have HB1 := Lib.hid hb; clear hb hv)
      | (go_at_call 29; (refine (HSC.out _ _ HB1.out HF1.out).mono ?_); rintro r w2 ⟨rv, pv, es, rfl, h1, h2, h3, hb⟩; obtain ⟨sa, sc, rfl⟩ := own_form h1.row; obtain ⟨ta, tc, rfl⟩ := own_form h3; have HS2 := Lib.hid (show SR w1.heap.size w2 (.slice sa es.length sc) es.length es (.slice none 0 0) ∧ es.map Prod.fst = R ∧ w2.ownsRow w1.heap.size 3 1 (.slice ta m tc) m (il .i64 P) from ⟨h1, h2, h3⟩); have HB2 := Lib.hid (bch HB1.out hb); clear h1 h2 h3 hb)
      | (refine wpList_store_row rfl 45 _ _ rfl w.heap.size (tA (.slice sa es.length sc) (.slice ta m tc) (fin : Nat) k) rfl rfl _ _ ((HB2.out.block _ HWA.out).trans HRA.out) (told_info' _ rfl) rfl (told_one _ _ _ _ _ _ _ _) ?_))
    refine bodyPost_ret_by (results_row_tmp rfl _ _ w.heap.size (.agg (tA (.slice sa es.length sc) (.slice ta m tc) (fin : Nat) k)) rfl (run_loadVar_row _ _ _ 45 (tA (.slice sa es.length sc) (.slice ta m tc) (fin : Nat) k) (0, 0) _ (setRow_heap _ _ _ _ _ _ ((HB2.out.block _ HWA.out).trans HRA.out)) Tryz.underlying45 rfl (told_info' _ rfl))) rfl ?_
    have hbb := bch HBA.out HB2.out
    have hlt : w.heap.size < w1.heap.size := Nat.lt_of_lt_of_le HWA.out HB1.out.size
    obtain ⟨h1, h2, h3⟩ := HS2.out
    exact .inr ⟨by trivial, _, rfl, _, _, es, rfl, ⟨HN.out _ _ hbb hlt _ h1.row, fun x hx => HN.out _ _ hbb hlt _ (h1.data x hx), h1.apart⟩, h2, HN.out _ _ hbb hlt _ h3, brow hbb (Nat.le_refl _) (Nat.le_refl _) _⟩
  · have hx1 : (e == 0) = false := by simpa using he
    clear hbd hue
    go_enter Tryz.func11, Tryz.ntmps11
    go_wp2_with (first
      | (rw [hwa])
      | (go_at_call 28; (with_reducible refine H1.out.mono ?_); rintro r w1 ⟨v, rfl, hv, hb⟩; have HB1 := Lib.hid hb; clear hb hv)
      | (refine wpList_store_row rfl 45 _ _ rfl w.heap.size (tA (.slice none 0 0) (.slice none 0 0) 0 0) rfl rfl _ _ ((HB1.out.block _ HWA.out).trans HRA.out) (told_info' _ rfl) rfl (told_one _ _ _ _ _ _ _ _) ?_))
    refine bodyPost_ret_by (results_row_tmp rfl _ _ w.heap.size (.agg (tA (.slice none 0 0) (.slice none 0 0) 0 0)) rfl (run_loadVar_row _ _ _ 45 (tA (.slice none 0 0) (.slice none 0 0) 0 0) (0, 0) _ (setRow_heap _ _ _ _ _ _ ((HB1.out.block _ HWA.out).trans HRA.out)) Tryz.underlying45 rfl (told_info' _ rfl))) rfl ?_
    exact .inl ⟨he, rfl, brow (bch HBA.out HB1.out) (Nat.le_refl _) (Nat.le_refl _) _⟩
def ReadF (d : AD) (q at_ : Int) (w : World) (r : Ending) (w' : World) : Prop :=
  ((headI d q).2 ≠ 0 ∧ r = .returned (.tuple #[.slice none 0 0, .int .i64 (headI d q).2]) ∧ Below w.heap.size w w') ∨
  ((headI d q).2 = 0 ∧ Below w.heap.size w w' ∧ match rdAt ((headI d q).1.e % 4294967296) (flatB (headI d q).1.e 16 (dataI d q) 16) (flatK (headI d q).1.e 16 (dataI d q) 16) at_ with
    | none => r = .returned (.tuple #[.slice none 0 0, .int .i64 12])
    | some (z, _) => ∃ y c, r = .returned (.tuple #[.slice y z.length c, .int .i64 0]) ∧ w'.ownsRow w.heap.size 5 1 (.slice y z.length c) z.length (il .u8 z))
set_option maxRecDepth 8000 in
set_option maxHeartbeats 2000000 in
theorem rread_any (H : DiskSays DK) (w : World) (p : Addr) (F : Nat → Bool) (d : AD) (q at_ : Int) (h : DK w p F d) (hg : Good d) (hvt : VT w) (hq : I63 q) (hbd : isB (dataI d q)) (hue : U64 (headI d q).1.e) :
    Calls Tryz.prog 13 #[ptr p, .agg #[.int .i64 q, .int .i64 at_]] w (ReadF d q at_ w) := by
  obtain ⟨wa, hwa⟩ : ∃ g, w.alloc (.cells #[.int .i64 q, .int .i64 at_] 28) = g := ⟨_, rfl⟩
  have hba : Below w.heap.size w wa := by rw [← hwa]; exact balloc w _
  have hpa : wa.heap[w.heap.size]? = some (.cells #[.int .i64 q, .int .i64 at_] 28 (0, 0)) := by rw [← hwa]; exact heap_alloc_last w _
  have HPA := Lib.hid hpa
  have HBA := Lib.hid hba
  have H1 := Lib.hid (rload_any H wa p F d q (H.below h hba) hg (hvt.on hba) hq)
  have HT := Lib.hid (hvt.on hba).tab
  unfold ReadF
  generalize dataI d q = da at *
  generalize headI d q = x at *
  obtain ⟨x, e⟩ := x
  dsimp only at *
  obtain ⟨ep, hep⟩ : ∃ ep, x.e = ep := ⟨_, rfl⟩
  rw [hep] at H1 hue ⊢
  have c0 := cell_of_row wa w.heap.size 0 _ _ _ hpa
  clear h hg hvt hq hba hep hpa
  by_cases he : e = 0
  · subst he
    have HFM0 : ∀ w' v, Below wa.heap.size wa w' → FS w' v 16 da → Calls Tryz.prog 17 #[.int .u64 ep, v, .int .i64 at_] w' (FromF (rdAt (ep % 4294967296) (flatB ep 16 da 16) (flatK ep 16 da 16) at_) w') := fun w' v hb hf => from_any ep hue v 16 da hbd w' hf (HT.out.keep hb) at_
    generalize rdAt (ep % 4294967296) (flatB ep 16 da 16) (flatK ep 16 da 16) at_ = R at *
    clear hbd hue
    cases R with
    | none =>
      have HFM := Lib.hid HFM0
      clear HFM0
      go_enter Tryz.func13, Tryz.ntmps13
      go_wp2_with (first
        | (refine wpl_box_pl rfl (.tmp 1) rfl #[.int .i64 q, .int .i64 at_] rfl ?_; rw [hwa])
        | (go_at_call 28; (with_reducible refine H1.out.mono ?_); rintro r w1 ⟨v, rfl, hv, hb⟩; have HF1 := Lib.hid (hv rfl); have HB1 := Lib.hid hb; have c1 := cell_of_row w1 w.heap.size 1 _ _ _ ((hb.block _ (Array.getElem?_eq_some_iff.1 HPA.out).1).trans HPA.out); clear hb hv)
        | (go_at_call 17; (refine (HFM.out _ _ HB1.out HF1.out).mono ?_); rintro r w2 ⟨hb, rfl⟩; have HB2 := Lib.hid (bch HB1.out hb); clear hb))
      go_ret2
      exact .inr ⟨by trivial, bch HBA.out HB2.out, rfl⟩
    | some t =>
      obtain ⟨z, en⟩ := t
      have HFM := Lib.hid HFM0
      clear HFM0
      go_enter Tryz.func13, Tryz.ntmps13
      go_wp2_with (first
        | (refine wpl_box_pl rfl (.tmp 1) rfl #[.int .i64 q, .int .i64 at_] rfl ?_; rw [hwa])
        | (go_at_call 28; (with_reducible refine H1.out.mono ?_); rintro r w1 ⟨v, rfl, hv, hb⟩; have HF1 := Lib.hid (hv rfl); have HB1 := Lib.hid hb; have c1 := cell_of_row w1 w.heap.size 1 _ _ _ ((hb.block _ (Array.getElem?_eq_some_iff.1 HPA.out).1).trans HPA.out); clear hb hv)
        | (go_at_call 17; (refine (HFM.out _ _ HB1.out HF1.out).mono ?_); rintro r w2 ⟨hb, y, c, rfl, ho⟩; have HO2 := Lib.hid ho; have HB2 := Lib.hid (bch HB1.out hb); clear hb ho))
      go_ret2
      exact .inr ⟨by trivial, bch HBA.out HB2.out, y, c, rfl, own_mono HO2.out (bch HBA.out HB1.out).size⟩
  · have hx1 : (e == 0) = false := by simpa using he
    refine Calls.mono (R := fun r w' => r = .returned (.tuple #[.slice none 0 0, .int .i64 e]) ∧ Below w.heap.size w w') ?_ fun r w' h => .inl ⟨he, h.1, h.2⟩
    clear hbd hue
    go_enter Tryz.func13, Tryz.ntmps13
    go_wp2_with (first
      | (refine wpl_box_pl rfl (.tmp 1) rfl #[.int .i64 q, .int .i64 at_] rfl ?_; rw [hwa])
      | (go_at_call 28; (with_reducible refine H1.out.mono ?_); rintro r w1 ⟨v, rfl, hv, hb⟩; have HB1 := Lib.hid hb; clear hb hv))
    go_ret2
    exact ⟨rfl, bch HBA.out HB1.out⟩
end Go.Proofs.YtnmplnemnfonfaaGreatDoor
namespace Go.Proofs.YtnmplnemnfonfaaGreatDoor
open Go.RowKit
variable {DK : World → Addr → (Nat → Bool) → AD → Prop}
structure OPn (DK : World → Addr → (Nat → Bool) → AD → Prop) (W0 : World) (F : Nat → Bool) (w : World) (p : Addr) (F1 : Nat → Bool) (d : AD) (W : World) : Prop where
  dk : DK W p F1 d
  ex : Ext F w W F1
  ex0 : Ext (fun _ => false) W0 W F1
  pow0 : Pow W0
theorem OPn.pow {W0 : World} {F : Nat → Bool} {w : World} {p : Addr} {F1 : Nat → Bool} {d : AD} {W : World} (h : OPn DK W0 F w p F1 d W) : Pow W := h.pow0.ext h.ex0
theorem OPn.next (H : DiskSays DK) {W0 : World} {F : Nat → Bool} {w : World} {p : Addr} {F1 : Nat → Bool} {d : AD} {W W' : World} (h : OPn DK W0 F w p F1 d W) (hb : Below W.heap.size W W') : OPn DK W0 F w p F1 d W' :=
  ⟨H.below h.dk hb, h.ex.trans (Ext.below hb), h.ex0.trans (Ext.below hb), h.pow0⟩
theorem OPn.op {W0 : World} {F : Nat → Bool} {w : World} {p : Addr} {F1 F2 : Nat → Bool} {d d' : AD} {W W' : World} (h : OPn DK W0 F w p F1 d W) (hk : DK W' p F2 d') (hx : Ext F1 W W' F2) : OPn DK W0 F w p F2 d' W' :=
  ⟨hk, h.ex.trans hx, h.ex0.trans hx, h.pow0⟩
end Go.Proofs.YtnmplnemnfonfaaGreatDoor
namespace Go.Proofs.YtnmplnemnfonfaaGreatDoor
open Go.RowKit
variable {DK : World → Addr → (Nat → Bool) → AD → Prop}
abbrev oC (t : TypeId) (v : Value) : Obj := .cells #[v] t (0, 0)
abbrev oH (x : Hdr) : Obj := .cells (hv x) 41 (0, 0)
def BX (F : Nat → Bool) (W : World) (l : List (Nat × Obj)) : Prop := ∀ q ∈ l, W.heap[q.1]? = some q.2 ∧ F q.1 = false
theorem blk_lt {W : World} {b : Nat} {o : Obj} (h : W.heap[b]? = some o) : b < W.heap.size := (Array.getElem?_eq_some_iff.1 h).1
theorem BX.nil (F : Nat → Bool) (W : World) : BX F W [] := fun q hq => by simp at hq
theorem BX.below {F : Nat → Bool} {W W' : World} {l : List (Nat × Obj)} (h : BX F W l) (hb : Below W.heap.size W W') : BX F W' l :=
  fun q hq => ⟨(hb.block q.1 (blk_lt (h q hq).1)).trans (h q hq).1, (h q hq).2⟩
theorem BX.ext {F F' : Nat → Bool} {W W' : World} {l : List (Nat × Obj)} (h : BX F W l) (hx : Ext F W W' F') : BX F' W' l :=
  fun q hq => ⟨(hx.block q.1 (blk_lt (h q hq).1) (h q hq).2).trans (h q hq).1, (hx.foot q.1 (blk_lt (h q hq).1)).trans (h q hq).2⟩
theorem foot_off {F : Nat → Bool} {n k : Nat} (h : Foot F n) (hk : n ≤ k) : F k = false := by
  cases hq : F k with
  | false => rfl
  | true => have := h k hq; omega
theorem BX.alloc {F : Nat → Bool} {W : World} {l : List (Nat × Obj)} (h : BX F W l) (hF : Foot F W.heap.size) (o : Obj) {g : Nat} (hg : W.heap.size = g) : BX F (W.alloc o) ((g, o) :: l) := by
  subst hg
  intro q hq
  rcases List.mem_cons.1 hq with rfl | hq
  · exact ⟨heap_alloc_last W o, foot_off hF (Nat.le_refl _)⟩
  · exact h.below (below_alloc W o) q hq
theorem BX.sub {F : Nat → Bool} {W : World} {l l' : List (Nat × Obj)} (h : BX F W l) (hs : ∀ q ∈ l', q ∈ l) : BX F W l' := fun q hq => h q (hs q hq)
theorem BX.one {F : Nat → Bool} {W : World} {l : List (Nat × Obj)} (h : BX F W l) {g : Nat} {t : TypeId} {v : Value} (hm : (g, oC t v) ∈ l) : W.cell? ⟨g, 0, none⟩ = some v ∧ W.frozen? ⟨g, 0, none⟩ = false :=
  ⟨cell_of_row W g 0 _ _ _ (h _ hm).1, Joins.unfrozen_of_block (h _ hm).1 0⟩
theorem BX.hb {F : Nat → Bool} {W : World} {l : List (Nat × Obj)} (h : BX F W l) {g : Nat} {x : Hdr} (hn : x.l.length = 4) (hm : (g, oH x) ∈ l) : HB W g x := ⟨(h _ hm).1, hn⟩
theorem BX.set {F : Nat → Bool} {W : World} {l : List (Nat × Obj)} (h : BX F W l) (g : Nat) (v : Value) (hg : ∀ q ∈ l, q.1 ≠ g) : BX F (W.setCell ⟨g, 0, none⟩ v) l :=
  fun q hq => ⟨(heap_setCell_other W ⟨g, 0, none⟩ q.1 v (hg q hq)).trans (h q hq).1, (h q hq).2⟩
theorem BX.put {W : World} {g : Nat} {t : TypeId} {v : Value} (hm : W.heap[g]? = some (oC t v)) (v' : Value) : (W.setCell ⟨g, 0, none⟩ v').heap[g]? = some (oC t v') := by
  have := Joins.block_setCell (i := 0) hm v'
  simpa using this
theorem Ext.newCell {F F1 : Nat → Bool} {w W : World} (h : Ext F w W F1) {g : Nat} (hg : w.heap.size ≤ g) (v : Value) : Ext F w (W.setCell ⟨g, 0, none⟩ v) F1 :=
  ⟨h.os, h.tape, h.output, by simpa using h.size, fun k hk hf => (heap_setCell_other W ⟨g, 0, none⟩ k v (by show k ≠ g; omega)).trans (h.block k hk hf), h.foot⟩
theorem DiskSays.cell (H : DiskSays DK) {W : World} {p : Addr} {F : Nat → Bool} {d : AD} (h : DK W p F d) {g : Nat} (hg : F g = false) (v : Value) : DK (W.setCell ⟨g, 0, none⟩ v) p F d :=
  H.keep h (by simp) fun k hk => heap_setCell_other W ⟨g, 0, none⟩ k v (by show k ≠ g; rintro rfl; rw [hg] at hk; simp at hk)
theorem results_errno {fn : Func} {p : Tmp} (h : fn.results = #[.cell p 36]) (tmps : Array Value) (w : World) (g : Nat) (v : Int) (hp : tmps.getD p undef = .pointer (some ⟨g, 0, none⟩)) (hc : w.cell? ⟨g, 0, none⟩ = some (.int .i64 v)) :
    (results fn tmps).run Tryz.prog w = .ok (.int .i64 v) w := by
  have hp2 : tmps[p]?.getD undef = .pointer (some ⟨g, 0, none⟩) := by simpa using hp
  simp only [results, h]
  simp [hp2, go_sem, hc]
structure OB (DK : World → Addr → (Nat → Bool) → AD → Prop) (W0 : World) (F : Nat → Bool) (w : World) (p : Addr) (F1 : Nat → Bool) (d : AD) (l : List (Nat × Obj)) (W : World) : Prop where
  op : OPn DK W0 F w p F1 d W
  bx : BX F1 W l
  lo : ∀ q ∈ l, w.heap.size ≤ q.1
  h0 : W0.heap.size ≤ w.heap.size
theorem OB.next (H : DiskSays DK) {W0 : World} {F : Nat → Bool} {w : World} {p : Addr} {F1 : Nat → Bool} {d : AD} {l : List (Nat × Obj)} {W W' : World} (h : OB DK W0 F w p F1 d l W) (hb : Below W.heap.size W W') : OB DK W0 F w p F1 d l W' :=
  ⟨h.op.next H hb, h.bx.below hb, h.lo, h.h0⟩
theorem OB.ext {W0 : World} {F : Nat → Bool} {w : World} {p : Addr} {F1 F2 : Nat → Bool} {d d' : AD} {l : List (Nat × Obj)} {W W' : World} (h : OB DK W0 F w p F1 d l W) (hk : DK W' p F2 d') (hx : Ext F1 W W' F2) : OB DK W0 F w p F2 d' l W' :=
  ⟨h.op.op hk hx, h.bx.ext hx, h.lo, h.h0⟩
theorem OB.alloc (H : DiskSays DK) {W0 : World} {F : Nat → Bool} {w : World} {p : Addr} {F1 : Nat → Bool} {d : AD} {l : List (Nat × Obj)} {W : World} (h : OB DK W0 F w p F1 d l W) (o : Obj) {g : Nat} (hg : W.heap.size = g) : OB DK W0 F w p F1 d ((g, o) :: l) (W.alloc o) :=
  ⟨h.op.next H (below_alloc W o), h.bx.alloc (H.foot h.op.dk) o hg, fun q hq => by
    rcases List.mem_cons.1 hq with rfl | hq
    · rw [← hg]; exact h.op.ex.size
    · exact h.lo q hq, h.h0⟩
theorem OB.set (H : DiskSays DK) {W0 : World} {F : Nat → Bool} {w : World} {p : Addr} {F1 : Nat → Bool} {d : AD} {l : List (Nat × Obj)} {W : World} {g : Nat} {t : TypeId} {v : Value} (h : OB DK W0 F w p F1 d ((g, oC t v) :: l) W) (hne : ∀ q ∈ l, q.1 ≠ g) (v' : Value) :
    OB DK W0 F w p F1 d ((g, oC t v') :: l) (W.setCell ⟨g, 0, none⟩ v') := by
  have hm := h.bx (g, oC t v) (by simp)
  have hlo := h.lo (g, oC t v) (by simp)
  refine ⟨⟨H.cell h.op.dk hm.2 v', h.op.ex.newCell hlo v', h.op.ex0.newCell (Nat.le_trans h.h0 hlo) v', h.op.pow0⟩, ?_, ?_, h.h0⟩
  · intro q hq
    rcases List.mem_cons.1 hq with rfl | hq
    · exact ⟨BX.put hm.1 v', hm.2⟩
    · exact (BX.set (l := l) (fun q hq => h.bx q (List.mem_cons_of_mem _ hq)) g v' hne) q hq
  · intro q hq
    rcases List.mem_cons.1 hq with rfl | hq
    · exact hlo
    · exact h.lo q (List.mem_cons_of_mem _ hq)
end Go.Proofs.YtnmplnemnfonfaaGreatDoor
namespace Go.Proofs.YtnmplnemnfonfaaGreatDoor
open Go.RowKit
variable {DK : World → Addr → (Nat → Bool) → AD → Prop}
theorem mf_seg (P : Program) : ∀ (fn : Fn) (first cap : Array Value) (w : World), (Instr.makeFunc fn first cap).run P w = .ok (.func fn first cap) w := fun _ _ _ _ => rfl
theorem OB.sub {W0 : World} {F : Nat → Bool} {w : World} {p : Addr} {F1 : Nat → Bool} {d : AD} {l l' : List (Nat × Obj)} {W : World} (h : OB DK W0 F w p F1 d l W) (hs : ∀ q ∈ l', q ∈ l) : OB DK W0 F w p F1 d l' W :=
  ⟨h.op, h.bx.sub hs, fun q hq => h.lo q (hs q hq), h.h0⟩
theorem ssync_of (H : DiskSays DK) {d d2 : AD} {s : ByteArray} {e2 : Int} (hg : Good d) (hs : s.size ≤ 281474976710656) (h : d.syncR s = (d2, e2)) : Hid (∀ w p F, DK w p F d → Calls Tryz.prog 26 #[ptr p, .string s] w fun e w' => ∃ F', e = .returned (.int .i64 e2) ∧ DK w' p F' d2 ∧ Ext F w w' F') :=
  Lib.hid fun w p F hk => by
    have := H.sync w p F d s hk hg hs
    rwa [h] at this
theorem swrite_of (H : DiskSays DK) {d d2 : AD} {s : ByteArray} {e2 : Int} {l : List Int} (hg : Good d) (hs : s.size ≤ 281474976710656) (hb : Bytes l) (h : d.writeR s 0 17 l = (d2, e2)) : Hid (∀ w p F v, DK w p F d → FS (mask F w) v 17 l → Calls Tryz.prog 27 #[ptr p, .string s, .int .i64 0, v] w fun e w' => ∃ F', e = .returned (.int .i64 e2) ∧ DK w' p F' d2 ∧ Ext F w w' F') :=
  Lib.hid fun w p F v hk hf => by
    have := H.write w p F d s 0 v 17 l hk hg hs (by unfold I63; omega) hf hb (by omega)
    rwa [h] at this
theorem RW.mask {w : World} {g : Nat} {zs : List Int} {F : Nat → Bool} (h : RW w g zs) (hf : F g = false) : RW (mask F w) g zs := by
  unfold RW at *
  rw [mask_heap, h]; simp [hf]
abbrev L4 (c a b g : Nat) (p : Addr) (s : ByteArray) (x : Hdr) (v : Int) : List (Nat × Obj) := [(c, oC 36 (.int .i64 v)), (a, oC 34 (ptr p)), (b, oC 9 (.string s)), (g, oH x)]
theorem L4.cells {F : Nat → Bool} {W : World} {c a b g : Nat} {p : Addr} {s : ByteArray} {x : Hdr} {v : Int} (h : BX F W (L4 c a b g p s x v)) :
    W.cell? ⟨a, 0, none⟩ = some (ptr p) ∧ W.cell? ⟨b, 0, none⟩ = some (.string s) ∧ W.cell? ⟨c, 0, none⟩ = some (.int .i64 v) ∧ W.frozen? ⟨c, 0, none⟩ = false :=
  ⟨(h.one (g := a) (t := 34) (v := ptr p) (by simp [L4])).1, (h.one (g := b) (t := 9) (v := .string s) (by simp [L4])).1, (h.one (g := c) (t := 36) (v := .int .i64 v) (by simp [L4])).1, (h.one (g := c) (t := 36) (v := .int .i64 v) (by simp [L4])).2⟩
theorem kinfs (H : DiskSays DK) {W0 w : World} {p : Addr} {F F1 : Nat → Bool} {d : AD} {l : List (Nat × Obj)} {W w' : World} {g : Nat} {zs : List Int} (h : OB DK W0 F w p F1 d l W) (hr : RW w' g zs) (hl : zs.length = 17 * 64) (hg : W.heap.size ≤ g) : FS (mask F1 w') (.slice (some ⟨g, 0, none⟩) 17 17) 17 zs :=
  (hr.mask (foot_off (H.foot h.op.dk) hg)).fs hl (by omega)
theorem sprep1_sync (H : DiskSays DK) {d d2 : AD} {s : ByteArray} {e2 : Int} (hg : Good d) (hs : s.size ≤ 281474976710656) (hr : d.syncR s = (d2, e2)) (W0 w : World) (p : Addr) (F F1 : Nat → Bool) (c a b g : Nat) (hac : a ≠ c) (hbc : b ≠ c) (hgc : g ≠ c) (x : Hdr) (u : FrameMode) (W : World)
    (h : OB DK W0 F w p F1 d (L4 c a b g p s x 0) W) :
    CallsD Tryz.prog 25 #[.pointer (some ⟨c, 0, none⟩), .pointer (some ⟨a, 0, none⟩), .pointer (some ⟨b, 0, none⟩)] u W fun e u' w' => u' = u ∧ (e = .returned (.tuple #[]) ∧ ∃ F2, OB DK W0 F w p F2 d2 (L4 c a b g p s x e2) w') := by
  have hH := Lib.hid H
  have HO := Lib.hid h
  have HSY := ssync_of H hg hs hr
  obtain ⟨c1, c2, c0, f0⟩ := L4.cells h.bx
  clear h hg hr
  go_enter_d Tryz.func25, Tryz.ntmps25
  go_wp2_with (first
    | (go_at_call 26; (with_reducible refine (HSY.out _ _ _ HO.out.op.dk).mono ?_); rintro e w1 ⟨F2, rfl, hk, hx⟩; have HO1 := Lib.hid (HO.out.ext hk hx); obtain ⟨d1, d2, d0, g0⟩ := L4.cells HO1.out.bx; clear hk hx c0 c1 c2 f0))
  go_end0
  exact ⟨rfl, F2, HO1.out.set hH.out (by simp [hac, hbc, hgc]) _⟩
theorem sprep1_stop (s : ByteArray) (v : Int) (hv : v ≠ 0) (p : Addr) (F : Nat → Bool) (c a b g : Nat) (x : Hdr) (u : FrameMode) (W : World) (h : BX F W (L4 c a b g p s x v)) :
    CallsD Tryz.prog 25 #[.pointer (some ⟨c, 0, none⟩), .pointer (some ⟨a, 0, none⟩), .pointer (some ⟨b, 0, none⟩)] u W fun e u' w' => u' = u ∧ (e = .returned (.tuple #[]) ∧ w' = W) := by
  obtain ⟨c1, c2, c0, f0⟩ := L4.cells h
  have bv : (v == 0) = false := by simpa using hv
  clear h hv
  go_enter_d Tryz.func25, Tryz.ntmps25
  go_wp2
  go_end0
  exact ⟨rfl, rfl⟩
theorem OB.start4 (H : DiskSays DK) {W0 w : World} {p : Addr} {F : Nat → Bool} {d : AD} (h : DK w p F d) (hp : Pow W0) (hx0 : Ext (fun _ => false) W0 w F) (s : ByteArray) (x : Hdr) :
    OB DK W0 F w p F d (L4 (w.heap.size + 3) w.heap.size (w.heap.size + 1) (w.heap.size + 2) p s x 0) ((((w.alloc (oC 34 (ptr p))).alloc (oC 9 (.string s))).alloc (oH x)).alloc (oC 36 (.int .i64 0))) := by
  have h0 : OB DK W0 F w p F d [] w := ⟨⟨h, Ext.refl F w, hx0, hp⟩, BX.nil _ _, fun q hq => by simp at hq, hx0.size⟩
  have h1 := h0.alloc H (oC 34 (ptr p)) rfl
  have h2 := h1.alloc H (oC 9 (.string s)) (g := w.heap.size + 1) (by rw [alloc_size])
  have h3 := h2.alloc H (oH x) (g := w.heap.size + 2) (by rw [alloc_size, alloc_size])
  have h4 := h3.alloc H (oC 36 (.int .i64 0)) (g := w.heap.size + 3) (by rw [alloc_size, alloc_size, alloc_size])
  refine h4.sub fun q hq => ?_
  simp only [L4, List.mem_cons, List.not_mem_nil, or_false] at hq ⊢
  rcases hq with rfl | rfl | rfl | rfl <;> simp
theorem prep_found {d : AD} {s : ByteArray} {x : Hdr} {m : Nat} {fs : List Int} (hk : ¬ (hdOk x = false ∨ 16 < m)) {e : Int} (he : foundI d s = e) (h0 : e ≠ 0) : d.prepR s x m fs = (d, e) := by
  unfold AD.prepR
  rw [if_neg hk]
  unfold foundI at he
  split at he
  · rename_i h; rw [if_pos h, he]
  · rename_i h
    rw [if_neg h]
    split at he
    · rename_i h2; rw [if_pos h2, he]
    · exact absurd he.symm h0
theorem prep_there {d : AD} {s : ByteArray} {x : Hdr} {m : Nat} {fs : List Int} (hk : ¬ (hdOk x = false ∨ 16 < m)) (he : foundI d s = 0) {n : Int} (hn : szI d s = n) :
    d.prepR s x m fs = if n = 17 then d.laidR s (layL x m fs) else (d, 4) := by
  unfold AD.prepR
  rw [if_neg hk]
  unfold foundI at he
  split at he
  · simp at he
  rename_i h
  rw [if_neg h]
  split at he
  · simp at he
  rename_i h2
  rw [if_neg h2]
  unfold szI at hn
  rw [if_pos (Decidable.not_not.1 h2)] at hn
  by_cases h17 : (d.get s).n = 17
  · rw [if_neg (by simp [h17]), if_pos (by omega)]
  · rw [if_pos h17, if_neg (by omega)]
set_option maxRecDepth 8000 in
set_option maxHeartbeats 4000000 in
theorem sprep_any (H : DiskSays DK) (W0 w : World) (p : Addr) (F : Nat → Bool) (d : AD) (s : ByteArray) (x : Hdr) (v : Value) (m : Nat) (fs : List Int) (h : DK w p F d) (hg : Good d) (hv0 : VT W0) (hx0 : Ext (fun _ => false) W0 w F)
    (hs : s.size ≤ 281474976710656) (hx : HdT x) (hf : FS w v m fs) (hb : Bytes fs) (hm : m ≤ 1000000) :
    Calls Tryz.prog 9 #[ptr p, .string s, .agg (hv x), v] w fun e w' => ∃ F', e = .returned (.int .i64 (d.prepR s x m fs).2) ∧ DK w' p F' (d.prepR s x m fs).1 ∧ Ext F w w' F' := by
  have hH := Lib.hid H
  have hmf := mf_seg Tryz.prog
  have hst := OB.start4 H h hv0.vars.pow hx0 s x
  obtain ⟨w0, hw0⟩ : ∃ q, (((w.alloc (.cells #[ptr p] 34)).alloc (.cells #[.string s] 9)).alloc (.cells (hv x) 41)).alloc (.cells #[.int .i64 0] 36) = q := ⟨_, rfl⟩
  have hbw : Below w.heap.size w w0 := by rw [← hw0]; exact bch (bch (bch (balloc _ _) (balloc _ _)) (balloc _ _)) (balloc _ _)
  rw [show ((((w.alloc (oC 34 (ptr p))).alloc (oC 9 (.string s))).alloc (oH x)).alloc (oC 36 (.int .i64 0))) = w0 from hw0] at hst
  have HO := Lib.hid hst
  have HV := Lib.hid (hv0.ext hst.op.ex0)
  have HXN := Lib.hid hx.n
  have HHB := Lib.hid (hst.bx.hb hx.n (g := w.heap.size + 2) (by simp [L4]))
  have HF0 := Lib.hid (hf.keep hbw)
  obtain ⟨c1, c2, c0, f0⟩ := L4.cells hst.bx
  clear hst h hv0 hx0 hbw
  by_cases hk : hdOk x = false ∨ 16 < m
  · rw [show d.prepR s x m fs = (d, 13) from if_pos hk]
    have HLY : Hid (∀ w, Tab w → FS w v m fs → Calls Tryz.prog 22 #[.agg (hv x), v] w fun r w' => r = .returned (.tuple #[.slice none 0 0, .int .i64 13]) ∧ Below w.heap.size w w') := Lib.hid fun w hT hf => slay_no x hx v m fs w hT hf hm hk
    clear hg hx hf hb hk
    go_enter_defers Tryz.func9, Tryz.ntmps9
    go_wp2_with (first
      | (refine wpl_load_hd (by rfl) (.tmp 6) rfl rfl (show HB w0 (w.heap.size + 2) x from HHB.out) ?_)
      | (go_at_call 22; (with_reducible refine (HLY.out _ HV.out.tab HF0.out).mono ?_); rintro e w1 ⟨rfl, hb⟩; have HO1 := Lib.hid (HO.out.next hH.out hb); obtain ⟨p1, p2, p0, pf⟩ := L4.cells HO1.out.bx; clear c1 c2 c0 f0; clear hb))
    obtain ⟨z1, z2, z0, zf⟩ := L4.cells (HO1.out.set hH.out (by simp) _).bx
    exact ⟨_, results_errno rfl _ _ (w.heap.size + 3) _ rfl z0, F, rfl, (HO1.out.set hH.out (by simp) _).op.dk, (HO1.out.set hH.out (by simp) _).op.ex⟩
  have hm16 : m ≤ 16 := by omega
  have hkk : hdOk x = true := by
    cases hq : hdOk x with
    | true => rfl
    | false => exact absurd (.inl hq) hk
  obtain ⟨ly, hly⟩ : ∃ l, layL x m fs = l := ⟨_, rfl⟩
  have HLY : Hid (∀ w, Tab w → FS w v m fs → Calls Tryz.prog 22 #[.agg (hv x), v] w fun r w' => ∃ g, r = .returned (.tuple #[.slice (some ⟨g, 0, none⟩) 17 17, .int .i64 0]) ∧ RW w' g ly ∧ w.heap.size ≤ g ∧ Below w.heap.size w w') := Lib.hid fun w hT hf => by
    rw [← hly]; exact slay_ok x hx v m fs w hT hf hkk hm16
  have hlyl : ly.length = 17 * 64 := by rw [← hly]; exact layL_length hx.n hm16 hf.length
  have hlyb : Bytes ly := by rw [← hly]; exact layL_bytes x m hb
  have HLL := Lib.hid hlyl
  obtain ⟨e0, he0⟩ : ∃ e, foundI d s = e := ⟨_, rfl⟩
  have HFD := sfound_of H hg hs he0
  by_cases h00 : e0 = 0
  · subst h00
    obtain ⟨n, hn⟩ : ∃ n, szI d s = n := ⟨_, rfl⟩
    have HZ := psize_of H hg hs hn
    rw [prep_there hk he0 hn, hly]
    clear hk hkk hx hf hb hly he0 hn
    by_cases h17 : n = 17
    · rw [if_pos h17]
      subst h17
      have hgw := hg.write s 0 17 ly hlyl hlyb
      unfold AD.laidR
      obtain ⟨⟨d2, e2⟩, hr⟩ : ∃ r, d.writeR s 0 17 ly = r := ⟨_, rfl⟩
      have HWR := swrite_of H hg hs hlyb hr
      rw [hr] at hgw ⊢
      clear hr hlyb hlyl
      have hne : ∀ j, j < 3 → w.heap.size + j ≠ w.heap.size + 3 := by omega
      by_cases he : e2 = 0
      · subst he
        rw [if_pos rfl]
        obtain ⟨⟨d3, e3⟩, hr⟩ : ∃ r, d2.syncR s = r := ⟨_, rfl⟩
        have HDF := Lib.hid fun W F1 (hO : OB DK W0 F w p F1 d2 (L4 (w.heap.size + 3) w.heap.size (w.heap.size + 1) (w.heap.size + 2) p s x 0) W) => sprep1_sync H hgw hs hr W0 w p F F1 (w.heap.size + 3) w.heap.size (w.heap.size + 1) (w.heap.size + 2) (hne 0 (by omega)) (hne 1 (by omega)) (hne 2 (by omega)) x .returning W hO
        rw [show (d2, (0 : Int)).1 = d2 from rfl, hr]
        clear hr hgw hg
        go_enter_defers Tryz.func9, Tryz.ntmps9
        go_wp2_with (first
          | (refine wpl_load_hd (by rfl) (.tmp 6) rfl rfl (show HB w0 (w.heap.size + 2) x from HHB.out) ?_)
          | (go_at_call 22; (with_reducible refine (HLY.out _ HV.out.tab HF0.out).mono ?_); rintro e w1 ⟨g, rfl, hrw, hg1, hb⟩; have HFM1 := Lib.hid (kinfs hH.out HO.out hrw HLL.out hg1); have HO1 := Lib.hid (HO.out.next hH.out hb); obtain ⟨p1, p2, p0, pf⟩ := L4.cells HO1.out.bx; clear c1 c2 c0 f0; clear hb hrw)
          | (go_at_call 23; (with_reducible refine (HFD.out _ _ _ HO1.out.op.dk).mono ?_); rintro e w2 ⟨rfl, hb⟩; have HFM2 := Lib.hid (HFM1.out.kin (kin_mask hb)); have HO2 := Lib.hid (HO1.out.next hH.out hb); obtain ⟨q1, q2, q0, qf⟩ := L4.cells HO2.out.bx; clear p1 p2 p0 pf; clear hb)
          | (go_at_call 24; (with_reducible refine (HZ.out _ _ _ HO2.out.op.dk).mono ?_); rintro e w3 ⟨rfl, hb⟩; have HFM3 := Lib.hid (HFM2.out.kin (kin_mask hb)); have HO3 := Lib.hid (HO2.out.next hH.out hb); obtain ⟨r1, r2, r0, rf⟩ := L4.cells HO3.out.bx; clear q1 q2 q0 qf; clear hb)
          | (go_at_call 27; (with_reducible refine (HWR.out _ _ _ _ HO3.out.op.dk HFM3.out).mono ?_); rintro e w4 ⟨F4, rfl, hk4, hx4⟩; have HO4 := Lib.hid (HO3.out.ext hk4 hx4); obtain ⟨t1, t2, t0, tf⟩ := L4.cells HO4.out.bx; clear r1 r2 r0 rf; clear hk4 hx4))
        have HO5 := Lib.hid (HO4.out.set hH.out (by simp) (.int .i64 0))
        refine leaves_cons (f := 25) (args := #[.pointer (some ⟨w.heap.size + 3, 0, none⟩), .pointer (some ⟨w.heap.size, 0, none⟩), .pointer (some ⟨w.heap.size + 1, 0, none⟩)]) (by simp) (by simp [go_sem]) ?_
        refine (HDF.out _ _ HO5.out).mono ?_
        rintro e u' w6 ⟨rfl, rfl, F6, hO6⟩
        obtain ⟨z1, z2, z0, zf⟩ := L4.cells hO6.bx
        exact ⟨_, results_errno rfl _ _ (w.heap.size + 3) _ rfl z0, F6, rfl, hO6.op.dk, hO6.op.ex⟩
      · rw [if_neg (show ¬ (d2, e2).2 = 0 from he)]
        have hev : e2 ≠ 0 := he
        have HDF := Lib.hid fun W F1 (hO : BX F1 W (L4 (w.heap.size + 3) w.heap.size (w.heap.size + 1) (w.heap.size + 2) p s x e2)) => sprep1_stop s e2 hev p F1 (w.heap.size + 3) w.heap.size (w.heap.size + 1) (w.heap.size + 2) x .returning W hO
        clear hgw hg
        go_enter_defers Tryz.func9, Tryz.ntmps9
        go_wp2_with (first
          | (refine wpl_load_hd (by rfl) (.tmp 6) rfl rfl (show HB w0 (w.heap.size + 2) x from HHB.out) ?_)
          | (go_at_call 22; (with_reducible refine (HLY.out _ HV.out.tab HF0.out).mono ?_); rintro e w1 ⟨g, rfl, hrw, hg1, hb⟩; have HFM1 := Lib.hid (kinfs hH.out HO.out hrw HLL.out hg1); have HO1 := Lib.hid (HO.out.next hH.out hb); obtain ⟨p1, p2, p0, pf⟩ := L4.cells HO1.out.bx; clear c1 c2 c0 f0; clear hb hrw)
          | (go_at_call 23; (with_reducible refine (HFD.out _ _ _ HO1.out.op.dk).mono ?_); rintro e w2 ⟨rfl, hb⟩; have HFM2 := Lib.hid (HFM1.out.kin (kin_mask hb)); have HO2 := Lib.hid (HO1.out.next hH.out hb); obtain ⟨q1, q2, q0, qf⟩ := L4.cells HO2.out.bx; clear p1 p2 p0 pf; clear hb)
          | (go_at_call 24; (with_reducible refine (HZ.out _ _ _ HO2.out.op.dk).mono ?_); rintro e w3 ⟨rfl, hb⟩; have HFM3 := Lib.hid (HFM2.out.kin (kin_mask hb)); have HO3 := Lib.hid (HO2.out.next hH.out hb); obtain ⟨r1, r2, r0, rf⟩ := L4.cells HO3.out.bx; clear q1 q2 q0 qf; clear hb)
          | (go_at_call 27; (with_reducible refine (HWR.out _ _ _ _ HO3.out.op.dk HFM3.out).mono ?_); rintro e w4 ⟨F4, rfl, hk4, hx4⟩; have HO4 := Lib.hid (HO3.out.ext hk4 hx4); obtain ⟨t1, t2, t0, tf⟩ := L4.cells HO4.out.bx; clear r1 r2 r0 rf; clear hk4 hx4))
        have HO5 := Lib.hid (HO4.out.set hH.out (by simp) (.int .i64 e2))
        refine leaves_cons (f := 25) (args := #[.pointer (some ⟨w.heap.size + 3, 0, none⟩), .pointer (some ⟨w.heap.size, 0, none⟩), .pointer (some ⟨w.heap.size + 1, 0, none⟩)]) (by simp) (by simp [go_sem]) ?_
        refine (HDF.out _ _ HO5.out.bx).mono ?_
        rintro e u' w6 ⟨rfl, rfl, rfl⟩
        obtain ⟨z1, z2, z0, zf⟩ := L4.cells HO5.out.bx
        exact ⟨_, results_errno rfl _ _ (w.heap.size + 3) _ rfl z0, _, rfl, HO5.out.op.dk, HO5.out.op.ex⟩
    · rw [if_neg h17]
      have b17 : (n == 17) = false := by simpa using h17
      clear hg hlyb hlyl
      go_enter_defers Tryz.func9, Tryz.ntmps9
      go_wp2_with (first
        | (refine wpl_load_hd (by rfl) (.tmp 6) rfl rfl (show HB w0 (w.heap.size + 2) x from HHB.out) ?_)
        | (go_at_call 22; (with_reducible refine (HLY.out _ HV.out.tab HF0.out).mono ?_); rintro e w1 ⟨g, rfl, hrw, hg1, hb⟩; have HFM1 := Lib.hid (kinfs hH.out HO.out hrw HLL.out hg1); have HO1 := Lib.hid (HO.out.next hH.out hb); obtain ⟨p1, p2, p0, pf⟩ := L4.cells HO1.out.bx; clear c1 c2 c0 f0; clear hb hrw)
        | (go_at_call 23; (with_reducible refine (HFD.out _ _ _ HO1.out.op.dk).mono ?_); rintro e w2 ⟨rfl, hb⟩; have HFM2 := Lib.hid (HFM1.out.kin (kin_mask hb)); have HO2 := Lib.hid (HO1.out.next hH.out hb); obtain ⟨q1, q2, q0, qf⟩ := L4.cells HO2.out.bx; clear p1 p2 p0 pf; clear hb)
        | (go_at_call 24; (with_reducible refine (HZ.out _ _ _ HO2.out.op.dk).mono ?_); rintro e w3 ⟨rfl, hb⟩; have HFM3 := Lib.hid (HFM2.out.kin (kin_mask hb)); have HO3 := Lib.hid (HO2.out.next hH.out hb); obtain ⟨r1, r2, r0, rf⟩ := L4.cells HO3.out.bx; clear q1 q2 q0 qf; clear hb))
      obtain ⟨z1, z2, z0, zf⟩ := L4.cells (HO3.out.set hH.out (by simp) _).bx
      exact ⟨_, results_errno rfl _ _ (w.heap.size + 3) _ rfl z0, F, rfl, (HO3.out.set hH.out (by simp) _).op.dk, (HO3.out.set hH.out (by simp) _).op.ex⟩
  · rw [prep_found hk he0 h00]
    have be : (e0 == 0) = false := by simpa using h00
    clear hg hk hkk hx hf hb hly he0 hlyb hlyl
    go_enter_defers Tryz.func9, Tryz.ntmps9
    go_wp2_with (first
      | (refine wpl_load_hd (by rfl) (.tmp 6) rfl rfl (show HB w0 (w.heap.size + 2) x from HHB.out) ?_)
      | (go_at_call 22; (with_reducible refine (HLY.out _ HV.out.tab HF0.out).mono ?_); rintro e w1 ⟨g, rfl, hrw, hg1, hb⟩; have HFM1 := Lib.hid (kinfs hH.out HO.out hrw HLL.out hg1); have HO1 := Lib.hid (HO.out.next hH.out hb); obtain ⟨p1, p2, p0, pf⟩ := L4.cells HO1.out.bx; clear c1 c2 c0 f0; clear hb hrw)
      | (go_at_call 23; (with_reducible refine (HFD.out _ _ _ HO1.out.op.dk).mono ?_); rintro e w2 ⟨rfl, hb⟩; have HFM2 := Lib.hid (HFM1.out.kin (kin_mask hb)); have HO2 := Lib.hid (HO1.out.next hH.out hb); obtain ⟨q1, q2, q0, qf⟩ := L4.cells HO2.out.bx; clear p1 p2 p0 pf; clear hb))
    obtain ⟨z1, z2, z0, zf⟩ := L4.cells (HO2.out.set hH.out (by simp) _).bx
    exact ⟨_, results_errno rfl _ _ (w.heap.size + 3) _ rfl z0, F, rfl, (HO2.out.set hH.out (by simp) _).op.dk, (HO2.out.set hH.out (by simp) _).op.ex⟩
end Go.Proofs.YtnmplnemnfonfaaGreatDoor
