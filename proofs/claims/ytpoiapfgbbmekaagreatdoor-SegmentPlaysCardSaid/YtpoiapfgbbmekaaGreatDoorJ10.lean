/-
  TEXTS JOINED: DkSays, SegNew, SegAwake, SegSt, SegOpen, SegNewR, SegSame. Each one's own words stand at its head.
-/
import Derived.Test.YtpoiapfgbbmekaaGreatDoorJ9
import Derived.Test.YtpoiapfgbbmekaaGreatDoorJ15
import Derived.Lib.MinMax
import Derived.Test.YtpoiapfgbbmekaaGreatDoorJ16
import Derived.Test.YtpoiapfgbbmekaaGreatDoorJ17
import Derived.Test.YtpoiapfgbbmekaaGreatDoorJ7
import Derived.Test.YtpoiapfgbbmekaaGreatDoorJ12
import Derived.Test.YtpoiapfgbbmekaaGreatDoorJ18
namespace Go.Proofs.YtpoiapfgbbmekaaGreatDoor
open Go.RowKit
theorem Calm.of_L {d d' : AD} (h : Calm d) (hl : d'.L = d.L) : Calm d' := by unfold Calm at *; rw [hl]; exact h
theorem Calm.op {d : AD} (h : Calm d) : Calm d.opd := h.of_L d.opd_L
theorem Calm.without {d : AD} (h : Calm d) (s : ByteArray) : Calm (d.without s) := fun f hf => h f (mem_without.1 hf).1
theorem Calm.put {d : AD} (h : Calm d) {f : AF} (hf : CalmF f) : Calm (d.withF f) := by
  intro g hg
  rcases mem_ins.1 hg with rfl | hg
  · exact hf
  · exact h g (mem_without.1 hg).1
theorem opR_calm {d : AD} (h : Calm d) (g : AD → AD) (hg : ∀ x : AD, x = d.opd → Calm x → Calm (g x)) : Calm (d.opR g).1 := by
  unfold AD.opR
  split
  · exact h.op
  · exact hg _ rfl h.op
theorem calm_new (s : ByteArray) (n : Nat) : CalmF (newF s n) := fun _ _ _ => rfl
theorem Calm.make {d : AD} (h : Calm d) (s : ByteArray) (n : Int) : Calm (d.makeR s n).1 := by
  unfold AD.makeR
  split
  · exact h
  split
  · exact h
  split
  · exact h
  split
  · exact h
  split
  · exact h
  · exact opR_calm h _ fun x _ hx => hx.put (calm_new _ _)
theorem Calm.sync {d : AD} (h : Calm d) (s : ByteArray) : Calm (d.syncR s).1 := by
  unfold AD.syncR
  split
  · exact h
  split
  · exact h
  · exact opR_calm h _ fun x _ hx => hx.put fun _ _ _ => rfl
theorem Calm.fail {d : AD} (h : Calm d) (n : Int) : Calm (d.failR n).1 := by
  unfold AD.failR
  split
  · exact h
  split
  · exact h
  · exact h
theorem Calm.rename {d : AD} (h : Calm d) (s t : ByteArray) : Calm (d.renameR s t).1 := by
  unfold AD.renameR
  split
  · exact h
  split
  · exact h
  rename_i hh
  split
  · exact h
  split
  · exact h
  · have hcf : CalmF (d.get s) := h _ (get_mem (Decidable.not_not.1 hh))
    exact opR_calm h _ fun x _ hx => (hx.without s).put (fun i hi hw => hcf i hi hw)
theorem calm_written {f : AF} (h : CalmF f) (p m : Nat) (fs : List Int) (hf : fs.length = m * 64) (hs : f.seen.length = f.n * 64) (hw : f.ws.length = f.n) (hp : p + m ≤ f.n) : CalmF (f.written p m fs) := by
  intro i hi hwi
  have h1 := wrS2_all f p m fs hf hs hw hp
  have h2 := wrS2_get f p fs m i hi
  rw [h1, secsOf_get (f.written p m fs) i hi] at h2
  by_cases hc : p ≤ i ∧ i < p + m
  · rw [if_pos hc] at h2
    simp only [Option.some.injEq, Sc.mk.injEq] at h2
    rw [h2.2.2] at hwi; simp at hwi
  · rw [if_neg hc] at h2
    simp only [Option.some.injEq, Sc.mk.injEq] at h2
    rw [h2.2.1, h2.1]
    exact h i hi (by rw [← h2.2.2]; exact hwi)
theorem Calm.write {d : AD} (h : Calm d) (hg : Good d) (s : ByteArray) (at_ : Int) (m : Nat) (fs : List Int) (hf : fs.length = m * 64) : Calm (d.writeR s at_ m fs).1 := by
  unfold AD.writeR
  split
  · exact h
  split
  · exact h
  rename_i hh
  split
  · exact h
  rename_i hc
  have hm := get_mem (Decidable.not_not.1 hh)
  have hgf := hg.file _ hm
  exact opR_calm h _ fun x _ hx => hx.put (calm_written (h _ hm) at_.toNat m fs hf hgf.seen hgf.ws (by omega))
theorem Calm.crash (d : AD) (kb : List Int) (torn cut : Int) : Calm (d.crashR kb torn cut) := by
  intro f hf
  have : ∀ k, ∀ f ∈ (crL kb torn cut d.L k).1, CalmF f := by
    intro k
    induction k with
    | zero => intro f hf; simp [crL] at hf
    | succ k ih =>
      intro f hf
      cases hq : d.L[k]? with
      | none => simp only [crL, hq] at hf; exact ih f hf
      | some g =>
        rw [crL_step kb torn cut d.L k g hq] at hf
        rcases List.mem_append.1 hf with hf | hf
        · exact ih f hf
        · simp only [List.mem_singleton] at hf
          subst hf
          intro _ _ _; rfl
  exact this _ f hf
def DKq (w : World) (p : Addr) (F : Nat → Bool) (d : AD) : Prop := DKp w p F d ∧ Calm d
theorem disk_says : DiskSays DKq where
  keep h hs hk := ⟨h.1.keep hs hk, h.2⟩
  foot h := h.1.1
  new c w hc := (pnew_any c w hc).mono (by
    rintro e w' ⟨b, bm, rfl, hl⟩
    obtain ⟨F, h1, h2⟩ := hl.dkp
    exact ⟨_, F, rfl, ⟨h1, fun f hf => by simp [AD.newD] at hf⟩, h2⟩)
  make w p F d s n h hg hs hn := (kmake_any w p F d s n h.1 hg hs hn).mono (by
    rintro e w' ⟨F', rfl, h1, h2⟩; exact ⟨F', rfl, ⟨h1, h.2.make s n⟩, h2⟩)
  write w p F d s at_ v m fs h hg hs ha hf _ hm := (kwrite_any w p F d s at_ v m fs h.1 hg hs ha hf hm).mono (by
    rintro e w' ⟨F', rfl, h1, h2⟩; exact ⟨F', rfl, ⟨h1, h.2.write hg s at_ m fs hf.length⟩, h2⟩)
  sync w p F d s h hg hs := (ksync_any w p F d s h.1 hg hs).mono (by
    rintro e w' ⟨F', rfl, h1, h2⟩; exact ⟨F', rfl, ⟨h1, h.2.sync s⟩, h2⟩)
  rename w p F d s t h hg hs ht := (krename_any w p F d s t h.1 hg hs ht).mono (by
    rintro e w' ⟨F', rfl, h1, h2⟩; exact ⟨F', rfl, ⟨h1, h.2.rename s t⟩, h2⟩)
  fail w p F d n h _ hn := (kfail_any w p F d n h.1 hn).mono (by
    rintro e w' ⟨F', rfl, h1, h2⟩; exact ⟨F', rfl, ⟨h1, h.2.fail n⟩, h2⟩)
  crash w p F d v len kb torn cut h hg hv hkb ht hc := (kcrash_any w p F d v len kb torn cut h.1 hg h.2 hv hkb ht hc).mono (by
    rintro e w' ⟨F', rfl, h1, h2⟩; exact ⟨F', rfl, ⟨h1, Calm.crash d kb torn cut⟩, h2⟩)
  read w p F d s at_ n h hg hs ha hn := kread_any w p F d s at_ n h.1 hg hs ha hn
  size w p F d s h hg hs := by
    obtain ⟨⟨_, b, bm, l, rfl, hd, _⟩, _⟩ := h
    exact (psize_any w b bm l d s hd hs).mono (by rintro e w' ⟨rfl, rfl⟩; exact ⟨rfl, Below.refl _ _⟩)
  list w p F d h hg := by
    obtain ⟨⟨_, b, bm, l, rfl, hd, _⟩, _⟩ := h
    exact plist_any w b bm l d hd hg
  files w p F d h hg := by
    obtain ⟨⟨_, b, bm, l, rfl, hd, _⟩, _⟩ := h
    exact pfiles_any w b bm l d hd hg
  used w p F d h hg := by
    obtain ⟨⟨_, b, bm, l, rfl, hd, _⟩, _⟩ := h
    exact pused_any w b bm l d hd hg
  waiting w p F d h hg := by
    obtain ⟨⟨_, b, bm, l, rfl, hd, _⟩, _⟩ := h
    exact pWaiting_any w b bm l d hd hg
  ops w p F d h _ := by
    obtain ⟨⟨_, b, bm, l, rfl, hd, _⟩, _⟩ := h
    exact (pops_any w b bm l d hd).mono (by rintro e w' ⟨rfl, rfl⟩; exact ⟨rfl, Below.refl _ _⟩)
  down w p F d h _ := by
    obtain ⟨⟨_, b, bm, l, rfl, hd, _⟩, _⟩ := h
    exact (pdown_any w b bm l d hd).mono (by rintro e w' ⟨rfl, rfl⟩; exact ⟨rfl, Below.refl _ _⟩)
end Go.Proofs.YtpoiapfgbbmekaaGreatDoor
namespace Go.Proofs.YtpoiapfgbbmekaaGreatDoor
open Go.RowKit
variable {DK : World → Addr → (Nat → Bool) → AD → Prop}
theorem parsed_some (l : List UInt8) : ∃ k n, parsed l k n := by
  by_cases h1 : isP l
  · obtain ⟨n, a1, a2, e⟩ := h1
    exact ⟨2, n, .inl ⟨rfl, a1, a2, e⟩⟩
  by_cases h2 : isW l
  · obtain ⟨n, a1, a2, e⟩ := h2
    exact ⟨1, n, .inr (.inl ⟨rfl, a1, a2, e⟩)⟩
  · exact ⟨0, 0, .inr (.inr ⟨rfl, rfl, h2, h1⟩)⟩
theorem sparse_of {s : ByteArray} (hs : s.size ≤ 281474976710656) {k n : Int} (hp : parsed s.data.toList k n) :
    Hid (∀ w, Vars w → Calls Tryz.prog 71 #[.string s] w fun e w' => e = .returned (.tuple #[.int .i64 k, .int .i64 n]) ∧ Below w.heap.size w w') :=
  Lib.hid fun w hv => by
    have := parse_list s.data.toList w (by rw [size_len]; exact hs) hv
    refine this.mono ?_
    rintro e w' ⟨k', n', rfl, hp', hb⟩
    obtain ⟨rfl, rfl⟩ := parsed_one hp' hp
    exact ⟨rfl, hb⟩
theorem name_size {f : AF} (hf : GF f) : f.name.size ≤ 281474976710656 := by
  have h := hf.name
  unfold rightB nameN at h
  simp only [Bool.and_eq_true, decide_eq_true_eq] at h
  rw [← size_len]
  omega
theorem epo_none {f : AF} {k n : Int} (hp : parsed f.name.data.toList k n) (h0 : k = 0) : epoF f = 0 := by
  unfold epoF; rw [parsed_live hp, if_neg (by simp [h0])]
theorem epo_some {f : AF} {k n : Int} (hp : parsed f.name.data.toList k n) (h0 : k ≠ 0) {x : Hdr} {e : Int} (hx : fstI f.las = (x, e)) : epoF f = x.e := by
  unfold epoF; rw [parsed_live hp, if_pos (by simp [h0]), hx]
set_option maxRecDepth 8000 in
set_option maxHeartbeats 4000000 in
theorem snewest_any (H : DiskSays DK) (w : World) (p : Addr) (F : Nat → Bool) (d : AD) (h : DK w p F d) (hg : Good d) (hvt : VT w) :
    Calls Tryz.prog 25 #[ptr p] w fun e w' => e = .returned (.int .u64 (newI d.L d.L.length)) ∧ Below w.heap.size w w' := by
  have hH := Lib.hid H
  have HG := Lib.hid hg
  have HV := Lib.hid hvt
  have HFL : Hid (∀ w p F, DK w p F d → Calls Tryz.prog 61 #[ptr p] w fun e w' => ∃ v, e = .returned v ∧ LA w' v d.files ∧ Below w.heap.size w w') := Lib.hid fun w p F h => H.files w p F d h hg
  have HK := Lib.hid h
  have hn : d.files.length = d.L.length := by simp [AD.files]
  obtain ⟨n, hnn⟩ : ∃ n, d.L.length = n := ⟨_, rfl⟩
  have hfew := hg.few
  rw [hnn] at hn hfew ⊢
  have HN := Lib.hid hnn
  have HFN := Lib.hid hn
  have hn63 : (n : Int) ≤ 64 := by omega
  clear h hg hvt hn hnn hfew
  go_enter Tryz.func25, Tryz.ntmps25
  go_wp2_with (first
    | (go_at_call 61; (with_reducible refine (HFL.out _ _ _ HK.out).mono ?_); rintro e w1 ⟨v1, rfl, hs1, hb⟩; obtain ⟨a1, c1, rfl, hc11, hc12, _⟩ := hs1.form; rw [HFN.out] at hs1 hc11 ⊢; have HF1 := Lib.hid hs1; have HB1 := Lib.hid hb; have HV1 := Lib.hid (HV.out.on hb); clear hb hs1))
  go_loopw [13, 3] (fun iv xv wr => ∃ (i : Nat) (x : Int), iv = .int .i64 i ∧ xv = .int .u64 x ∧ i ≤ n ∧ Hid (x = newI d.L i) ∧ 0 ≤ x ∧ x ≤ 18446744073709551615 ∧ Hid (Below w1.heap.size w1 wr)) (fun iv _ _ => n - (intOf iv).toNat)
  case atStart => exact ⟨0, 0, rfl, rfl, by omega, Lib.hid rfl, by omega, by omega, Lib.hid (Below.refl _ _)⟩
  case round =>
    obtain ⟨i, x, rfl, rfl, hi, HX, hx0, hx1, HB⟩ := hrel
    by_cases hlt : (i : Int) < (n : Int)
    · obtain ⟨f, hf⟩ : ∃ f, d.L[i]? = some f := row_some (by rw [HN.out]; omega)
      have hgf := HG.out.file f (List.mem_of_getElem? hf)
      obtain ⟨b2, off2, u1, v1, rfl, m0, m1, m2⟩ := (HF1.out.kin (Kin.below HB.out)).at_ i (f.name, f.n, f.las) (by simp [AD.files, hf])
      simp only at m0 m1 m2
      obtain ⟨k, kn, hp⟩ := parsed_some f.name.data.toList
      obtain ⟨⟨y, e⟩, hy⟩ : ∃ r, fstI f.las = r := ⟨_, rfl⟩
      have hyt : HdT y := by have := fstI_typed hgf.blas; rw [hy] at this; exact this
      have HPA := sparse_of (name_size hgf) hp
      have hl := hgf.las
      have hn1 := hgf.n1
      have HDC := sdec_of (by omega) hgf.blas hy
      have hstep := newI_step d.L i f hf
      have HMC := Lib.hid (And.intro m0 m1)
      have HFS := Lib.hid m2
      have HVR := Lib.hid (HV1.out.on HB.out)
      by_cases hk : k = 0
      · have HST := Lib.hid (show newI d.L (i + 1) = x from by rw [hstep, ← HX.out, epo_none hp hk]; omega)
        subst hk
        clear hp hy hyt hl hn1 hstep hf hgf HDC m2
        go_wp2_with (first
          | (go_at_call 71; (with_reducible refine (HPA.out _ (HVR.out.on (below_alloc wr _)).vars).mono ?_); rintro e w4 ⟨rfl, hb⟩; have HB4 := Lib.hid hb; clear hb))
        exact ⟨⟨i + 1, x, by go_num, rfl, by omega, Lib.hid HST.out.symm, hx0, hx1, Lib.hid (bch HB.out (bch (below_alloc wr _) HB4.out))⟩, by simp [intOf]; omega⟩
      · have HST := Lib.hid (show newI d.L (i + 1) = max x y.e from by rw [hstep, ← HX.out, epo_some hp hk hy])
        have bk : (k == 0) = false := by simpa using hk
        obtain ⟨bb, oo, rfl, hat⟩ := m2.at_ 0 (by omega)
        rw [Nat.zero_mul, Nat.add_zero, List.drop_zero] at hat
        have HAT := Lib.hid hat
        have hye := hyt.e
        have HYN := Lib.hid hyt.n
        have hf0 : (0 : Int) < (f.n : Int) := by omega
        clear hp hy hyt hl hn1 hstep hf hgf m2 hat
        go_wp2_with (first
          | (go_at_call 71; (with_reducible refine (HPA.out _ (HVR.out.on (below_alloc wr _)).vars).mono ?_); rintro e w4 ⟨rfl, hb⟩; have c4 := cell_keep hb (cell_of_row _ _ 1 _ _ _ (heap_alloc_last wr _)); simp at c4; have HB4 := Lib.hid (bch (below_alloc wr _) hb); have HV4 := Lib.hid (HVR.out.on HB4.out); clear hb)
          | (refine wpl_load_at rfl (.tmp 28) rfl bb oo rfl _ (HAT.out.keep HB4.out) ?_)
          | (go_at_call 72; (with_reducible refine (HDC.out _ HV4.out.tab).mono ?_); rintro e w5 ⟨rfl, hb⟩; have HB5 := Lib.hid (bch HB4.out hb); clear hb)
          | (refine wpl_store_newH rfl _ _ rfl rfl w5.heap.size rfl y HYN.out rfl rfl ?_; intro w6 HK6 HB6; have e6 := HK6.out.cells.1))
        unfold U64 at hye
        exact ⟨⟨i + 1, max x y.e, by go_num, rfl, by omega, Lib.hid HST.out.symm, by omega, by omega, Lib.hid (bch HB.out (bch HB5.out HB6.out))⟩, by simp [intOf]; omega⟩
    · have hq : i = n := by omega
      subst hq
      go_wp2_with fail
      go_ret
      exact ⟨by rw [HX.out]; rfl, bch HB1.out HB.out⟩
end Go.Proofs.YtpoiapfgbbmekaaGreatDoor
namespace Go.Proofs.YtpoiapfgbbmekaaGreatDoor
open Go.RowKit
variable {DK : World → Addr → (Nat → Bool) → AD → Prop}
def hA : Hdr := ⟨4, 1, 1, [0, 0, 0, 0]⟩
theorem hA_typed : HdT hA := ⟨by unfold U64 hA; simp, by unfold I63 hA; simp, by unfold I63 hA; simp, rfl, fun x hx => by
  simp only [hA, List.mem_cons, List.not_mem_nil, or_false] at hx
  unfold I63
  omega⟩
def aw1 : AD := ((AD.newD 17).beginR hA).1
theorem aw_lit : (AD.newD 17).beginR hA = (AD.newD 17).beginT hA ⟨#[119, 97, 108, 45, 49]⟩ := by
  unfold AD.beginR
  rw [show hA.s = 1 from rfl, wal_lits.1]
theorem aw_facts : ((AD.newD 17).beginT hA ⟨#[119, 97, 108, 45, 49]⟩).2 = 0 ∧ ((AD.newD 17).beginT hA ⟨#[119, 97, 108, 45, 49]⟩).1.ops = 4 ∧ ((AD.newD 17).beginT hA ⟨#[119, 97, 108, 45, 49]⟩).1.L.length = 1 := by
  decide +kernel
theorem aw_all : ((AD.newD 17).beginR hA).2 = 0 ∧ aw1.ops = 4 ∧ headI aw1 1 = (hA, 0) ∧ newI aw1.L aw1.L.length = 4 := by
  obtain ⟨e1, e2, e3⟩ := aw_facts
  rw [← aw_lit] at e1 e2 e3
  have hg := Good.new 17 (by unfold I63; omega)
  obtain ⟨hk, h1, h2, h3⟩ := begin_done hg hA_typed e1
  have hh := (done_tells (d := aw1) hA_typed hk h1 h2 h3).1
  refine ⟨e1, e2, hh, ?_⟩
  have hl : aw1.L.length = 1 := e3
  have hat := aw1.get_at _ h2
  have hi : idxN aw1.L (walB hA.s) = 0 := by have : idxN aw1.L (walB hA.s) < aw1.L.length := h2; omega
  rw [hi] at hat
  rw [hl, newI_step aw1.L 0 _ hat]
  have he : epoF (aw1.get (walB hA.s)) = 4 := by
    have h3' : aw1.get (walB hA.s) = _ := h3
    rw [h3']
    have hp : parsed (walB hA.s).data.toList 1 1 := .inr (.inl ⟨rfl, by omega, by omega, rfl⟩)
    rw [epo_some (f := ⟨walB hA.s, 17, layL hA 0 [], layL hA 0 [], List.replicate 17 false⟩) hp (by omega) (show fstI (layL hA 0 []) = (hA, 0) from by unfold fstI; rw [layL_take hA_typed.n]; exact hd_got hA_typed hk)]
    rfl
  rw [he]
  rfl
section
variable {o : Oper} {a : Act} {w : World} {Q : Exit → Act → World → Prop} {ops : Array Oper} {rest : List Oper}
theorem wpl_eq_hd (x y : Operand) (u : TypeId) (ho : o.op = .binOp .eql 34 x y u) {c d : Hdr} (hc : c.l.length = 4) (hd : d.l.length = 4) (hx : a.eval x = .agg (hv c)) (hye : a.eval y = .agg (hv d)) (hw : Region.wanted o (yielded ops a.tmps) = true)
    (hk : wpList Tryz.prog ops Q rest (a.put o.dst (.bool (decide (c = d)))) w) : wpList Tryz.prog ops Q (o :: rest) a w := wpl_valw hw (exec_eq_hd hc hd x y u ho hx hye) hk
end
set_option maxRecDepth 8000 in
set_option maxHeartbeats 2000000 in
theorem sawake_any (H : DiskSays DK) (w : World) (hvt : VT w) :
    Calls Tryz.prog 6 #[] w fun e w' => e = .returned (.bool true) ∧ Below w.heap.size w w' := by
  obtain ⟨e1, e2, e3, e4⟩ := aw_all
  have hH := Lib.hid H
  have HV := Lib.hid hvt
  have g0 := Good.new 17 (by unfold I63; omega)
  have g1 : Good aw1 := g0.begin hA_typed
  have H1 : Hid (∀ w, Calls Tryz.prog 7 #[.int .i64 17] w fun e w' => ∃ p F, e = .returned (ptr p) ∧ DK w' p F (AD.newD 17) ∧ Ext noF w w' F) := Lib.hid fun w => H.new 17 w (by unfold I63; omega)
  have H2 : Hid (∀ w1 p F, DK w1 p F (AD.newD 17) → Ext noF w w1 F → Calls Tryz.prog 9 #[ptr p, .agg (hv hA)] w1 fun e w' => ∃ F', e = .returned (.int .i64 0) ∧ DK w' p F' aw1 ∧ Ext F w1 w' F') := Lib.hid fun w1 p F h hx => by
    have := sbegin_any H w w1 p F _ hA h g0 hvt hx hA_typed; rwa [e1] at this
  have H3 : Hid (∀ w p F, DK w p F aw1 → VT w → Calls Tryz.prog 23 #[ptr p, .int .i64 1] w fun e w' => e = .returned (.tuple #[.agg (hv hA), .int .i64 0]) ∧ Below w.heap.size w w') := Lib.hid fun w p F h hv => by
    have := sheader_any H w p F aw1 1 h g1 hv (by unfold I63; omega); rwa [e3] at this
  have H4 : Hid (∀ w p F, DK w p F aw1 → Calls Tryz.prog 26 #[ptr p] w fun e w' => e = .returned (.int .i64 4) ∧ Below w.heap.size w w') := Lib.hid fun w p F h => by
    have := H.ops w p F aw1 h g1; rwa [e2] at this
  have H5 : Hid (∀ w p F, DK w p F aw1 → VT w → Calls Tryz.prog 25 #[ptr p] w fun e w' => e = .returned (.int .u64 4) ∧ Below w.heap.size w w') := Lib.hid fun w p F h hv => by
    have := snewest_any H w p F aw1 h g1 hv; rwa [e4] at this
  clear g0 g1 e1 e2 e3 e4 hvt
  go_enter Tryz.func6, Tryz.ntmps6
  go_wp2_with (first
    | (go_at_call 7; (with_reducible refine (H1.out _).mono ?_); rintro e w1 ⟨p, F1, rfl, k1, x1⟩; have K1 := Lib.hid k1; have X1 := Lib.hid x1; clear k1 x1)
    | (refine wpl_store_newH rfl _ _ rfl rfl w1.heap.size rfl hA rfl rfl rfl ?_; intro w2 HA2 HB2; have K2 := Lib.hid (hH.out.below K1.out HB2.out); have X2 := Lib.hid (X1.out.trans (Ext.below HB2.out)))
    | (refine wpl_load_hd (by rfl) (.tmp 2) rfl rfl HA2.out ?_)
    | (go_at_call 9; (with_reducible refine (H2.out _ _ _ K2.out X2.out).mono ?_); rintro e w3 ⟨F3, rfl, k3, x3⟩; have K3 := Lib.hid k3; have X3 := Lib.hid (X2.out.trans x3); have HA3 := Lib.hid (show HB w3 w1.heap.size hA from ⟨(x3.block _ HA2.out.lt (foot_off (hH.out.foot K1.out) (Nat.le_refl _))).trans HA2.out.1, HA2.out.2⟩); clear k3 x3)
    | (go_at_call 23; (with_reducible refine (H3.out _ _ _ K3.out (HV.out.ext X3.out)).mono ?_); rintro e w4 ⟨rfl, b4⟩; have K4 := Lib.hid (hH.out.below K3.out b4); have X4 := Lib.hid (X3.out.trans (Ext.below b4)); have HA4 := Lib.hid (HA3.out.keep b4); clear b4)
    | (refine wpl_store_newH rfl _ _ rfl rfl w4.heap.size rfl hA rfl rfl rfl ?_; intro w5 HC5 HB5; have K5 := Lib.hid (hH.out.below K4.out HB5.out); have X5 := Lib.hid (X4.out.trans (Ext.below HB5.out)); have HA5 := Lib.hid (HA4.out.keep HB5.out))
    | (refine wpl_load_hd (by rfl) (.tmp 4) rfl rfl HC5.out ?_)
    | (refine wpl_load_hd (by rfl) (.tmp 2) rfl rfl HA5.out ?_)
    | (refine wpl_eq_hd (.tmp 23) (.tmp 24) _ rfl hA_typed.n hA_typed.n rfl rfl (by rfl) ?_; rw [show decide (hA = hA) = true from by simp])
    | (go_at_call 26; (with_reducible refine (H4.out _ _ _ K5.out).mono ?_); rintro e w6 ⟨rfl, b6⟩; have K6 := Lib.hid (hH.out.below K5.out b6); have X6 := Lib.hid (X5.out.trans (Ext.below b6)); clear b6)
    | (go_at_call 25; (with_reducible refine (H5.out _ _ _ K6.out (HV.out.ext X6.out)).mono ?_); rintro e w7 ⟨rfl, b7⟩; have X7 := Lib.hid (X6.out.trans (Ext.below b7)); clear b7))
  go_ret
  exact ⟨rfl, X7.out.bel⟩
end Go.Proofs.YtpoiapfgbbmekaaGreatDoor
namespace Go.Proofs.YtpoiapfgbbmekaaGreatDoor
open Go.RowKit
def HAt (w : World) (b o : Nat) (h : Hdr) : Prop := h.l.length = 4 ∧ ∀ j, j < 7 → w.cell? ⟨b, o + j, none⟩ = (hv h)[j]?
theorem HAt.kin {w w' : World} {b o : Nat} {h : Hdr} (k : HAt w b o h) (hb : Kin w w') : HAt w' b o h :=
  ⟨k.1, fun j hj => by
    have h1 := k.2 j hj
    have h7 := hv_size k.1
    rw [Array.getElem?_eq_getElem (by omega)] at h1 ⊢
    exact hb _ _ h1⟩
theorem HAt.load {w : World} {b o : Nat} {h : Hdr} (k : HAt w b o h) : (loadVar 34 ⟨b, o, none⟩).run Tryz.prog w = .ok (.agg (hv h)) w := by
  have h7 := hv_size k.1
  have hlen : (hv h).toList.length = 7 := by simpa using h7
  have hl : (loadCells ⟨b, o, none⟩ (hv h).toList.length).run Tryz.prog w = .ok (hv h).toList.toArray w :=
    run_loadCells_list (P := Tryz.prog) w ⟨b, o, none⟩ (hv h).toList (fun j v hv' => by
      have hadd : (⟨b, o, none⟩ : Addr).add j = ⟨b, o + j, none⟩ := by unfold Addr.add; split <;> simp_all
      have hj : j < 7 := by have := (List.getElem?_eq_some_iff.1 hv').1; omega
      rw [hadd, k.2 j hj]
      simpa using hv')
  have hi : (Tryz.prog.info? 34).map (·.size) = some 7 := by kernel_rfl
  cases hq : Tryz.prog.info? 34 with
  | none => simp [hq] at hi
  | some i =>
    have hs : i.size = 7 := by simpa [hq] using hi
    have hagg : (isAgg 34).run Tryz.prog w = .ok true w := by
      unfold isAgg
      rw [Sem.run_bind, run_underlying Tryz.underlying34 w]
      rfl
    rw [hlen] at hl
    simp [loadVar, Sem.run_bind, hagg, sizeOf, typeInfo, hq, hs, hl]
section
variable {o : Oper} {a : Act} {w : World} {Q : Exit → Act → World → Prop} {ops : Array Oper} {rest : List Oper}
theorem exec_load_hat {b f : Nat} {h : Hdr} (x : Operand) (ho : o.op = .load 34 x) (hx : a.eval x = .pointer (some ⟨b, f, none⟩)) (k : HAt w b f h) :
    (execOp a.eval o).run Tryz.prog w = .ok (.value (.agg (hv h))) w := by
  unfold execOp
  simp only [ho, hx, Instr.loadAt, Instr.sureAddr, Sem.run_bind, Sem.run_pure, Result.andThen_ok, k.load]
theorem wpl_load_hat {b f : Nat} {h : Hdr} (hw : Region.wanted o (yielded ops a.tmps) = true) (x : Operand) (ho : o.op = .load 34 x) (hx : a.eval x = .pointer (some ⟨b, f, none⟩)) (k : HAt w b f h)
    (hk : wpList Tryz.prog ops Q rest (a.put o.dst (.agg (hv h))) w) : wpList Tryz.prog ops Q (o :: rest) a w := wpl_valw hw (exec_load_hat x ho hx k) hk
end
structure SAct where
  kind : Int
  name : ByteArray
  n : Int
  h : Hdr
  m : Nat
  fs : List Int
  klen : Nat
  kb : List Int
  torn : Int
  cut : Int
structure GSA (a : SAct) : Prop where
  k0 : 0 ≤ a.kind
  k1 : a.kind ≤ 18446744073709551615
  name : a.name.size ≤ 281474976710656
  n : I63 a.n
  h : HdT a.h
  fs : Bytes a.fs
  kb : Bytes a.kb
  torn : I63 a.torn
  cut : I63 a.cut
def RSA (w : World) (e : List Value) (a : SAct) : Prop :=
  ∃ vd vk, e = [.int .u64 a.kind, .string a.name, .int .i64 a.n] ++ (hv a.h).toList ++ [vd, vk, .int .i64 a.torn, .int .i64 a.cut] ∧ a.h.l.length = 4 ∧ FS w vd a.m a.fs ∧ RI .u8 w vk a.klen a.kb
theorem RSA.length {w : World} {e : List Value} {a : SAct} (h : RSA w e a) : e.length = 14 := by
  obtain ⟨_, _, rfl, h4, _⟩ := h
  have := hv_size h4
  simp; omega
def SAS (w : World) (v : Value) (l : List SAct) : Prop :=
  ∃ es : List (List Value), CS 14 w v l.length es.flatten ∧ es.length = l.length ∧ ∀ (i : Nat) (e : List Value) (a : SAct), es[i]? = some e → l[i]? = some a → RSA w e a
theorem SAS.form {w : World} {v : Value} {l : List SAct} (h : SAS w v l) : ∃ a cap, v = .slice a l.length cap ∧ l.length ≤ cap ∧ cap ≤ 9223372036854775807 ∧ (a = none → cap = 0) := by obtain ⟨_, h, _⟩ := h; exact h.form
structure SC (w : World) (b o : Nat) (al : Option Addr) (cl : Nat) (ak : Option Addr) (ck : Nat) (c : SAct) : Prop where
  kind : w.cell? ⟨b, o, none⟩ = some (.int .u64 c.kind)
  name : w.cell? ⟨b, o + 1, none⟩ = some (.string c.name)
  n : w.cell? ⟨b, o + 2, none⟩ = some (.int .i64 c.n)
  h : HAt w b (o + 3) c.h
  data : w.cell? ⟨b, o + 10, none⟩ = some (.slice al c.m cl)
  keep : w.cell? ⟨b, o + 11, none⟩ = some (.slice ak c.klen ck)
  torn : w.cell? ⟨b, o + 12, none⟩ = some (.int .i64 c.torn)
  cut : w.cell? ⟨b, o + 13, none⟩ = some (.int .i64 c.cut)
theorem SC.kin {w w' : World} {b o : Nat} {al : Option Addr} {cl : Nat} {ak : Option Addr} {ck : Nat} {c : SAct} (k : SC w b o al cl ak ck c) (hb : Kin w w') : SC w' b o al cl ak ck c :=
  ⟨hb _ _ k.kind, hb _ _ k.name, hb _ _ k.n, k.h.kin hb, hb _ _ k.data, hb _ _ k.keep, hb _ _ k.torn, hb _ _ k.cut⟩
theorem SAS.at_ {w : World} {a : Option Addr} {n cap : Nat} {l : List SAct} (h : SAS w (.slice a n cap) l) (i : Nat) (c : SAct) (hc : l[i]? = some c) :
    ∃ b off al cl ak ck, a = some ⟨b, off, none⟩ ∧ SC w b (off + i * 14) al cl ak ck c ∧ FS w (.slice al c.m cl) c.m c.fs ∧ RI .u8 w (.slice ak c.klen ck) c.klen c.kb := by
  obtain ⟨es, h1, h2, h3⟩ := h
  obtain ⟨hi, _⟩ := List.getElem?_eq_some_iff.1 hc
  have hi2 : i < es.length := by omega
  have hl : ∀ e ∈ es, e.length = 14 := by
    intro e he
    obtain ⟨j, hj, rfl⟩ := List.getElem_of_mem he
    exact (h3 j _ _ (List.getElem?_eq_getElem hj) (List.getElem?_eq_getElem (by omega))).length
  obtain ⟨vd, vk, he, h4, hf1, hf2⟩ := h3 i es[i] c (List.getElem?_eq_getElem hi2) hc
  have hn : n = l.length := by obtain ⟨_, _, hv, _⟩ := h1; simp at hv; exact hv.2.1
  subst hn
  obtain ⟨b, off, rfl, hcc⟩ := h1.at_ i hi
  have hg := fun j hj => (hcc j hj).trans (flat_get 14 es i j hl hj _ (List.getElem?_eq_getElem hi2))
  rw [he] at hg
  have h7 := hv_size h4
  have h7l : (hv c.h).toList.length = 7 := by simpa using h7
  obtain ⟨al, cl, rfl, _⟩ := id hf1
  obtain ⟨ak, ck, rfl, _⟩ := id hf2
  have hlo : ∀ j, j < 3 → w.cell? ⟨b, off + i * 14 + j, none⟩ = [Value.int .u64 c.kind, .string c.name, .int .i64 c.n][j]? := fun j hj => by
    rw [hg j (by omega), List.append_assoc, List.getElem?_append_left (by simpa using hj)]
  have hmi : ∀ j, j < 7 → w.cell? ⟨b, off + i * 14 + 3 + j, none⟩ = (hv c.h)[j]? := fun j hj => by
    rw [Nat.add_assoc, hg (3 + j) (by omega), List.append_assoc, List.getElem?_append_right (by simp), List.getElem?_append_left (by simp; omega)]
    simp
  have hhi : ∀ j, j < 4 → w.cell? ⟨b, off + i * 14 + (10 + j), none⟩ = [Value.slice al c.m cl, .slice ak c.klen ck, .int .i64 c.torn, .int .i64 c.cut][j]? := fun j hj => by
    rw [hg (10 + j) (by omega), List.getElem?_append_right (by simp; omega)]
    congr 1
    simp; omega
  exact ⟨b, off, al, cl, ak, ck, rfl, ⟨by simpa using hlo 0 (by omega), by simpa using hlo 1 (by omega), by simpa using hlo 2 (by omega), ⟨h4, hmi⟩, by simpa using hhi 0 (by omega), by simpa using hhi 1 (by omega), by simpa using hhi 2 (by omega), by simpa using hhi 3 (by omega)⟩, hf1, hf2⟩
end Go.Proofs.YtpoiapfgbbmekaaGreatDoor
namespace Go.Proofs.YtpoiapfgbbmekaaGreatDoor
open Go.RowKit Go.ChangeShapes Go.WideShapes
section
variable {H : Type} {enc : TypeId × Value → H} {W : World}
theorem sc_uint : Tryz.prog.cellsOf 30 = 1 := by kernel_rfl
theorem sc_string : Tryz.prog.cellsOf 9 = 1 := by kernel_rfl
theorem c_sact : Tryz.prog.cellsOf 40 = 14 := by kernel_rfl
set_option maxRecDepth 8000 in
theorem rdc_sact {cs : List Value} {d : DataW H} (h : RdC enc Tryz.prog W 40 cs d) (hr : Rch Tryz.prog 40 d) : ∃ a : SAct, RSA W cs a ∧ GSA a := by
  obtain ⟨ds, rfl, hn, hl, hf⟩ := rdc_struct Tryz.underlying40 h
  rw [c_sact] at hl
  have hn6 : ds.length = 6 := hn
  match cs, hl, ds, hn6, hf, hr with
  | [c0, c1, c2, c3, c4, c5, c6, c7, c8, c9, c10, c11, c12, c13], _, [x0, x1, x2, x3, x4, x5], _, hf, hr =>
    have h0 : RdC enc Tryz.prog W 30 (([c0, c1, c2, c3, c4, c5, c6, c7, c8, c9, c10, c11, c12, c13].drop 0).take (Tryz.prog.cellsOf 30)) x0 := hf 0 _ _ rfl rfl
    rw [sc_uint] at h0
    have h1 : RdC enc Tryz.prog W 9 (([c0, c1, c2, c3, c4, c5, c6, c7, c8, c9, c10, c11, c12, c13].drop 1).take (Tryz.prog.cellsOf 9)) x1 := hf 1 _ _ rfl rfl
    rw [sc_string] at h1
    have h2 : RdC enc Tryz.prog W 3 (([c0, c1, c2, c3, c4, c5, c6, c7, c8, c9, c10, c11, c12, c13].drop 2).take (Tryz.prog.cellsOf 3)) x2 := hf 2 _ _ rfl rfl
    rw [c_int] at h2
    have h3 : RdC enc Tryz.prog W 34 (([c0, c1, c2, c3, c4, c5, c6, c7, c8, c9, c10, c11, c12, c13].drop 3).take (Tryz.prog.cellsOf 34)) x3 := hf 3 _ _ rfl rfl
    rw [c_hd] at h3
    have h4 : RdC enc Tryz.prog W 35 (([c0, c1, c2, c3, c4, c5, c6, c7, c8, c9, c10, c11, c12, c13].drop 10).take (Tryz.prog.cellsOf 35)) x4 := hf 4 _ _ rfl rfl
    rw [c_secs] at h4
    have h5 : RdC enc Tryz.prog W 38 (([c0, c1, c2, c3, c4, c5, c6, c7, c8, c9, c10, c11, c12, c13].drop 11).take (Tryz.prog.cellsOf 38)) x5 := hf 5 _ _ rfl rfl
    rw [c_crash] at h5
    have q1 : Rch Tryz.prog 9 x1 := Rch.field (i := 1) Tryz.underlying40 hr rfl rfl
    obtain ⟨kd, e0, _, w0⟩ := rdc_int (cs := [c0]) Tryz.underlying30 h0
    obtain ⟨s, e1, rfl, _⟩ := rdc_string (cs := [c1]) Tryz.underlying9 h1
    obtain ⟨n, e2, _, w2⟩ := rdc_int (cs := [c2]) Tryz.underlying3 h2
    obtain ⟨g, e3, w3⟩ := rdc_hd (cs := [c3, c4, c5, c6, c7, c8, c9]) h3
    obtain ⟨vd, m, fs, e4, r4, b4⟩ := rdc_secs (cs := [c10]) h4
    obtain ⟨vk, klen, kb, tq, cq, e5, r5, b5, w5, w6⟩ := rdc_crash (cs := [c11, c12, c13]) h5
    simp only [List.cons.injEq, and_true] at e0 e1 e2 e4 e5
    subst e0; subst e1; subst e2; subst e4
    obtain ⟨rfl, rfl, rfl⟩ := e5
    have hu := u64_wf w0
    have e3' : (hv g).toList = [c3, c4, c5, c6, c7, c8, c9] := by rw [← e3]
    exact ⟨⟨kd, s, n, g, m, fs, klen, kb, tq, cq⟩, ⟨_, _, by simp only [e3']; rfl, w3.n, r4, r5⟩, ⟨hu.1, hu.2, q1.text, i63_wf w2, w3, b4, b5, w5, w6⟩⟩
set_option maxRecDepth 8000 in
theorem rd_sacts {r : Reach} {b : Nat} {v : Value} {d : DataW H} (ho : Value.okWide Tryz.prog W r b 22 v) (h : RdC enc Tryz.prog W 22 v.cells.toList d) (hr : Rch Tryz.prog 22 d) :
    ∃ l, SAS W v l ∧ ∀ a ∈ l, GSA a := by
  obtain ⟨a, len, cap, rfl⟩ := okWide_slice Tryz.underlying22 ho
  obtain ⟨v, n, es, ds, e1, hcs, hn, hd, h9, hel, hx⟩ := rdc_slice Tryz.underlying22 c_sact (by omega) h
  simp [Value.cells] at e1
  subst e1
  obtain ⟨l, hl, hR⟩ := pick (R := fun e a => RSA W e a ∧ GSA a) es fun e he => by
    obtain ⟨i, hi, rfl⟩ := List.getElem_of_mem he
    have hi2 : i < ds.length := by omega
    refine rdc_sact (hel i _ _ (List.getElem?_eq_getElem hi) (List.getElem?_eq_getElem hi2)) ?_
    rcases hx with h0 | ⟨rest, rfl⟩
    · omega
    · exact hr.elem Tryz.underlying22 (List.getElem_mem hi2)
  refine ⟨l, ⟨es, by rw [hl, hn]; exact hcs, by omega, fun i e a he ha => (hR i e a he ha).1⟩, fun a ha => ?_⟩
  obtain ⟨i, hi, rfl⟩ := List.getElem_of_mem ha
  exact (hR i es[i] _ (List.getElem?_eq_getElem (by omega)) (List.getElem?_eq_getElem hi)).2
end
end Go.Proofs.YtpoiapfgbbmekaaGreatDoor
namespace Go.Proofs.YtpoiapfgbbmekaaGreatDoor
open Go.RowKit
theorem rparse_of {s : ByteArray} (hs : s.size ≤ 281474976710656) {k n : Int} (hp : parsed s.data.toList k n) :
    Hid (∀ w, Calls Tryz.prog 94 #[.string s] w fun e w' => e = .returned (.tuple #[.int .i64 k, .int .i64 n]) ∧ w' = w) :=
  Lib.hid fun w => by
    have := rparse_list s.data.toList w (by rw [size_len]; exact hs)
    refine this.mono ?_
    rintro e w' ⟨k', n', rfl, hp', hb⟩
    obtain ⟨rfl, rfl⟩ := parsed_one hp' hp
    exact ⟨rfl, hb⟩
set_option maxRecDepth 8000 in
set_option maxHeartbeats 4000000 in
theorem rnewest_any (vd : Value) (d : AD) (w : World) (h : RD w vd d) (hg : Good d) :
    Calls Tryz.prog 65 #[vd] w fun e w' => e = .returned (.int .u64 (newI d.L d.L.length)) ∧ Below w.heap.size w w' := by
  obtain ⟨a, n, cap, rfl, hn, hc1, hc2⟩ := h.agg
  have hst := BR.start rfl h
  obtain ⟨w0, hw0⟩ : ∃ q, (w.alloc (.cells #[.slice a n cap, .int .i64 d.cap, .int .i64 d.ops, .bool d.down, .bool d.told, .int .i64 d.after] 28)) = q := ⟨_, rfl⟩
  rw [hw0] at hst
  have HS0 := Lib.hid hst
  have HG := Lib.hid hg
  have HN := Lib.hid hn
  have HR := Lib.hid h
  have hfew := hg.few
  have hn63 : (n : Int) ≤ 64 := by omega
  rw [hn]
  clear hst hn h hg hfew
  go_enter Tryz.func65, Tryz.ntmps65
  go_wp2
  go_loopw [4, 3] (fun iv xv wr => ∃ (i : Nat) (x : Int), iv = .int .i64 i ∧ xv = .int .u64 x ∧ i ≤ n ∧ Hid (x = newI d.L i) ∧ 0 ≤ x ∧ x ≤ 18446744073709551615 ∧ Hid (BR w #[.slice a n cap, .int .i64 d.cap, .int .i64 d.ops, .bool d.down, .bool d.told, .int .i64 d.after] d wr)) (fun iv _ _ => n - (intOf iv).toNat)
  case atStart => exact ⟨0, 0, rfl, rfl, by omega, Lib.hid rfl, by omega, by omega, HS0⟩
  case round =>
    obtain ⟨i, x, rfl, rfl, hi, HX, hx0, hx1, HS⟩ := hrel
    obtain ⟨z0, z1, z2, z3, z4, z5⟩ := HS.out.d0.six
    by_cases hlt : (i : Int) < (n : Int)
    · obtain ⟨f, hf⟩ : ∃ f, d.L[i]? = some f := row_some (by rw [HN.out]; omega)
      have hgf := HG.out.file f (List.mem_of_getElem? hf)
      obtain ⟨b, off, v1, b1, o1, c1, b2, o2, c2, v3, hfa⟩ := FA.of (HS.out.rd.fls) hf hgf
      obtain rfl := hfa.ha
      have HFA := Lib.hid hfa
      have y0 := hfa.k0
      have y1 := hfa.k1
      obtain rfl := hfa.e1
      obtain ⟨k, kn, hp⟩ := parsed_some f.name.data.toList
      obtain ⟨⟨y, e⟩, hy⟩ : ∃ r, fstI f.las = r := ⟨_, rfl⟩
      have hyt : HdT y := by have := fstI_typed hgf.blas; rw [hy] at this; exact this
      have hbad : e ≠ 0 → y = noH := by intro he; have := fst_bad (l := f.las) (by rw [hy]; exact he); rw [hy] at this; exact this
      have HPA := rparse_of (name_size hgf) hp
      have hl := hgf.las
      have hn1 := hgf.n1
      have HDC := rdec_of (by omega) hgf.blas hy
      have hstep := newI_step d.L i f hf
      have HYN := Lib.hid hyt.n
      have hye := hyt.e
      unfold U64 at hye
      have hf0 : (0 : Int) < (f.n : Int) := by omega
      have HNX : Hid (∀ x', newI d.L (i + 1) = x' → (k ≠ 0 ∧ e = 0 ∧ x < y.e → x' = y.e) ∧ (¬ (k ≠ 0 ∧ e = 0 ∧ x < y.e) → x' = x)) := Lib.hid fun x' hx' => by
        rw [hstep, ← HX.out] at hx'
        by_cases hk : k = 0
        · rw [epo_none hp hk] at hx'
          exact ⟨fun q => absurd hk q.1, fun _ => by omega⟩
        · rw [epo_some hp hk hy] at hx'
          by_cases he : e = 0
          · exact ⟨fun q => by omega, fun q => by
              have : ¬ x < y.e := fun q2 => q ⟨hk, he, q2⟩
              omega⟩
          · have h0 := hbad he
            subst h0
            have : noH.e = 0 := rfl
            exact ⟨fun q => absurd q.2.1 he, fun _ => by omega⟩
      clear hp hy hyt hl hn1 hstep hf hgf hbad hfa
      by_cases hk : k = 0
      · have HST := Lib.hid ((HNX.out _ rfl).2 (fun q => q.1 hk))
        subst hk
        go_wp2_with (first
          | (go_at_call 94; (with_reducible refine (HPA.out _).mono ?_); rintro e w4 ⟨rfl, rfl⟩)
          | (refine wpl_load_at rfl (.tmp 33) rfl b1 o1 rfl _ HFA.out.a1 ?_)
          | (go_at_call 95; (with_reducible refine (HDC.out _).mono ?_); rintro e w5 ⟨rfl, hb⟩; have HS5 := Lib.hid (HS.out.next hb); clear hb)
          | (refine wpl_store_newH rfl _ _ rfl rfl w5.heap.size rfl y HYN.out rfl rfl ?_; intro w6 HK6 HB6; have e6 := HK6.out.cells.1; have HS6 := Lib.hid (HS5.out.next HB6.out)))
        exact ⟨⟨i + 1, x, by go_num, rfl, by omega, Lib.hid (HST.out.symm), by omega, by omega, HS6⟩, by simp [intOf]; omega⟩
      · have bk : (k == 0) = false := by simpa using hk
        by_cases he : e = 0
        · by_cases hxy : x < y.e
          · have HST := Lib.hid ((HNX.out _ rfl).1 ⟨hk, he, hxy⟩)
            subst he
            go_wp2_with (first
              | (go_at_call 94; (with_reducible refine (HPA.out _).mono ?_); rintro e w4 ⟨rfl, rfl⟩)
              | (refine wpl_load_at rfl (.tmp 33) rfl b1 o1 rfl _ HFA.out.a1 ?_)
              | (go_at_call 95; (with_reducible refine (HDC.out _).mono ?_); rintro e w5 ⟨rfl, hb⟩; have HS5 := Lib.hid (HS.out.next hb); clear hb)
              | (refine wpl_store_newH rfl _ _ rfl rfl w5.heap.size rfl y HYN.out rfl rfl ?_; intro w6 HK6 HB6; have e6 := HK6.out.cells.1; have HS6 := Lib.hid (HS5.out.next HB6.out)))
            exact ⟨⟨i + 1, y.e, by go_num, rfl, by omega, Lib.hid (HST.out.symm), by omega, by omega, HS6⟩, by simp [intOf]; omega⟩
          · have HST := Lib.hid ((HNX.out _ rfl).2 (fun q => hxy q.2.2))
            subst he
            go_wp2_with (first
              | (go_at_call 94; (with_reducible refine (HPA.out _).mono ?_); rintro e w4 ⟨rfl, rfl⟩)
              | (refine wpl_load_at rfl (.tmp 33) rfl b1 o1 rfl _ HFA.out.a1 ?_)
              | (go_at_call 95; (with_reducible refine (HDC.out _).mono ?_); rintro e w5 ⟨rfl, hb⟩; have HS5 := Lib.hid (HS.out.next hb); clear hb)
              | (refine wpl_store_newH rfl _ _ rfl rfl w5.heap.size rfl y HYN.out rfl rfl ?_; intro w6 HK6 HB6; have e6 := HK6.out.cells.1; have HS6 := Lib.hid (HS5.out.next HB6.out)))
            exact ⟨⟨i + 1, x, by go_num, rfl, by omega, Lib.hid (HST.out.symm), by omega, by omega, HS6⟩, by simp [intOf]; omega⟩
        · have HST := Lib.hid ((HNX.out _ rfl).2 (fun q => he q.2.1))
          have be : (e == 0) = false := by simpa using he
          go_wp2_with (first
            | (go_at_call 94; (with_reducible refine (HPA.out _).mono ?_); rintro e w4 ⟨rfl, rfl⟩)
            | (refine wpl_load_at rfl (.tmp 33) rfl b1 o1 rfl _ HFA.out.a1 ?_)
            | (go_at_call 95; (with_reducible refine (HDC.out _).mono ?_); rintro e w5 ⟨rfl, hb⟩; have HS5 := Lib.hid (HS.out.next hb); clear hb)
            | (refine wpl_store_newH rfl _ _ rfl rfl w5.heap.size rfl y HYN.out rfl rfl ?_; intro w6 HK6 HB6; have e6 := HK6.out.cells.1; have HS6 := Lib.hid (HS5.out.next HB6.out)))
          exact ⟨⟨i + 1, x, by go_num, rfl, by omega, Lib.hid (HST.out.symm), by omega, by omega, HS6⟩, by simp [intOf]; omega⟩
    · have hq : i = n := by omega
      subst hq
      go_wp2_with fail
      go_ret
      exact ⟨by rw [HX.out]; rfl, HS.out.below⟩
end Go.Proofs.YtpoiapfgbbmekaaGreatDoor
namespace Go.Proofs.YtpoiapfgbbmekaaGreatDoor
open Go.RowKit
variable {DK : World → Addr → (Nat → Bool) → AD → Prop}
theorem head_zero (d : AD) : headI d 0 = (noH, 13) := if_pos (wal_out (by omega))
theorem head_fine {d : AD} {q : Int} (h : (headI d q).2 = 0) : d.has (walB q) ∧ (d.get (walB q)).n = 17 := by
  unfold headI at h
  split at h
  · simp at h
  split at h
  · simp at h
  split at h
  · simp at h
  rename_i hh
  split at h
  · simp at h
  rename_i h2
  exact ⟨Decidable.not_not.1 hh, Decidable.not_not.1 fun q => h2 (.inl q)⟩
theorem str_info4 : (Tryz.prog.info? 9).map (fun i => (i.zero, i.size)) = some (some (.string ⟨#[]⟩), 1) := by kernel_rfl
theorem wp_build_str4 {w : World} {o : Oper} {a : Act} {K : Act → World → Prop} {Q : Exit → Act → World → Prop} (s0 s1 s2 s3 : ByteArray) (ho : o.op = .buildSlice 110 4 #[(0, .const (.string s0)), (1, .const (.string s1)), (2, .const (.string s2)), (3, .const (.string s3))])
    (h : K (a.put o.dst (.slice (some ⟨w.heap.size, 0, none⟩) 4 4)) (w.alloc (.cells #[.string s0, .string s1, .string s2, .string s3] 9))) : o.wp Tryz.prog a w K Q := by
  obtain ⟨i, hi, e⟩ := Option.map_eq_some_iff.1 str_info4
  have hz0 : i.zero = some (.string ⟨#[]⟩) := congrArg Prod.fst e
  have hz1 : i.size = 1 := congrArg Prod.snd e
  refine wp_buildSlice 110 9 4 _ ho _ i (.string ⟨#[]⟩) Tryz.underlying110 hi hz0 (by rw [hz1]; omega) (by rw [hz1]; omega) ?_ h
  rw [hz1, show Array.range (4 * 1) = #[0, 1, 2, 3] from by decide]
  simp [Instr.fill, Act.eval, Value.cells]
set_option maxRecDepth 8000 in
set_option maxHeartbeats 8000000 in
theorem ssame_any (H : DiskSays DK) (F : Nat → Bool) (w : World) (p : Addr) (vd : Value) (d : AD) (hdk : DK w p F d) (hg : Good d) (hrd : RD w vd d) (hvt : VT w) :
    Calls Tryz.prog 21 #[ptr p, vd] w fun e w' => e = .returned (.bool true) ∧ Below w.heap.size w w' := by
  obtain ⟨a, n, c, rfl, hn, hc1, hc2⟩ := hrd.agg
  have hH := Lib.hid H
  have HG := Lib.hid hg
  have HN := Lib.hid hn
  have HV := Lib.hid hvt
  have HWT := Lib.hid (show waitingN d.L ≤ 1000000000000 from by have h1 := waiting_used d.L hg.file; have h2 := hg.used; have h3 := hg.cap1; omega)
  have HS0 := Lib.hid (SaS.start H hdk hrd rfl)
  have hfew := hg.few
  have hn63 : (n : Int) ≤ 64 := by omega
  obtain ⟨nw, hnw⟩ : ∃ k, newI d.L d.L.length = k := ⟨_, rfl⟩
  have HNP : Hid (∀ w, DK w p F d → VT w → Calls Tryz.prog 25 #[ptr p] w fun e w' => e = .returned (.int .u64 nw) ∧ Below w.heap.size w w') := Lib.hid fun w h hv => by rw [← hnw]; exact snewest_any H w p F d h hg hv
  have HNR : Hid (∀ w v, RD w v d → Calls Tryz.prog 65 #[v] w fun e w' => e = .returned (.int .u64 nw) ∧ Below w.heap.size w w') := Lib.hid fun w v h => by rw [← hnw]; exact rnewest_any v d w h hg
  clear hfew hn hdk hg hrd hvt hnw
  go_enter Tryz.func21, Tryz.ntmps21
  go_wp2_with (first
    | (go_at_call 61; (with_reducible refine (hH.out.files _ _ _ _ HS0.out.dk HG.out).mono ?_); rintro e w2 ⟨v2, rfl, hs2, hb⟩; have HS2 := Lib.hid (HS0.out.next hH.out hb); have HF2 := Lib.hid hs2; clear hb hs2))
  obtain ⟨a2, c2, rfl, hc21, hc22, _⟩ := HF2.out.form
  rw [show d.files.length = n from by rw [← HN.out]; simp [AD.files]] at HF2 hc21 ⊢
  have HS2D := Lib.hid (HS2.out.next hH.out (Below.refl _ _).drew)
  have HB2 : Hid (Below w2.heap.size w2 w2.drew) := Lib.hid (Below.refl _ _).drew
  refine wp_region_held_drew (S := (fun W' => DB W' w.heap.size #[.slice a n c, .int .i64 d.cap, .int .i64 d.ops, .bool d.down, .bool d.told, .int .i64 d.after])) (by kernel_rfl) HS2D.out.d0 (fun hS => ?_)
  refine rgw 0 ⟨some 16, .move (.tmp 0), 24, _, _, none⟩ hS ?_
  refine rgw 2 ⟨some 18, .fieldAddr 28 (.tmp 3) 2, 0, _, _, none⟩ hS ?_
  refine rgw 3 ⟨some 19, .load 3 (.tmp 18), 3, _, _, none⟩ hS ?_ (hy := by intro w hSw; (try dsimp only at hSw); obtain ⟨z0, z1, z2, z3, z4, z5⟩ := hSw.six; go_simp; try with_reducible rfl)
  refine rg_one 1 ⟨some 17, .call { callee := .value (.func 26), args := #[.tmp 16], argTypes := #[24] }, 3, _, _, none⟩ (by kernel_rfl) rfl (fun K hK => ?_)
  go_simp
  (go_at_call 26; (with_reducible refine (hH.out.ops _ _ _ _ HS2D.out.dk HG.out).mono ?_); rintro e w3 ⟨rfl, hb⟩; have HS3 := Lib.hid (HS2D.out.next hH.out hb); have HB3 := Lib.hid (chain HB2.out hb))
  refine hK.out _ _ ?_ (fun hS1 => ?_)
  · (first | exact hS | exact hS.next hb)
  clear hK K hS; have hS := hS1; clear hS1
  (try simp only [rgp])
  refine rgw 4 ⟨some 20, .binOp .neq 3 (.tmp 17) (.tmp 19) 3, 4, _, _, none⟩ hS ?_
  refine rgw 5 ⟨some 21, .move (.tmp 20), 4, _, _, none⟩ hS ?_
  refine rgw 6 ⟨some 22, .move (.tmp 0), 24, _, _, some (5, false)⟩ hS ?_
  refine rgw 8 ⟨some 24, .fieldAddr 28 (.tmp 3) 3, 0, _, _, some (5, false)⟩ hS ?_
  refine rgw 9 ⟨some 25, .load 4 (.tmp 24), 4, _, _, some (5, false)⟩ hS ?_ (hy := by intro w hSw; (try dsimp only at hSw); obtain ⟨z0, z1, z2, z3, z4, z5⟩ := hSw.six; go_simp; try with_reducible rfl)
  refine rg_one 7 ⟨some 23, .call { callee := .value (.func 62), args := #[.tmp 22], argTypes := #[24] }, 4, _, _, some (5, false)⟩ (by kernel_rfl) rfl (fun K hK => ?_)
  go_simp
  (go_at_call 62; (with_reducible refine (hH.out.down _ _ _ _ HS3.out.dk HG.out).mono ?_); rintro e w4 ⟨rfl, hb⟩; have HS4 := Lib.hid (HS3.out.next hH.out hb); have HB4 := Lib.hid (chain HB3.out hb))
  refine hK.out _ _ ?_ (fun hS1 => ?_)
  · (first | exact hS | exact hS.next hb)
  clear hK K hS; have hS := hS1; clear hS1
  (try simp only [rgp])
  refine rgw 10 ⟨some 26, .binOp .neq 4 (.tmp 23) (.tmp 25) 4, 4, _, _, some (5, false)⟩ hS ?_
  refine rgw 11 ⟨some 27, .pick (.tmp 21) (.const (.bool true)) (.tmp 26), 4, _, _, none⟩ hS ?_
  refine rgw 12 ⟨some 28, .move (.tmp 27), 4, _, _, none⟩ hS ?_
  refine rgw 13 ⟨some 29, .move (.tmp 0), 24, _, _, some (12, false)⟩ hS ?_
  refine rgw 15 ⟨some 31, .load 28 (.tmp 3), 28, _, _, some (12, false)⟩ hS ?_ (hy := by intro w hSw; (try dsimp only at hSw); refine exec_load_db (.tmp 3) ?_ ?_ hSw <;> rfl)
  refine rg_one 14 ⟨some 30, .call { callee := .value (.func 63), args := #[.tmp 29], argTypes := #[24] }, 3, _, _, some (12, false)⟩ (by kernel_rfl) rfl (fun K hK => ?_)
  go_simp
  (go_at_call 63; (with_reducible refine (hH.out.waiting _ _ _ _ HS4.out.dk HG.out).mono ?_); rintro e w5 ⟨rfl, hb⟩; have HS5 := Lib.hid (HS4.out.next hH.out hb); have HB5 := Lib.hid (chain HB4.out hb))
  refine hK.out _ _ ?_ (fun hS1 => ?_)
  · (first | exact hS | exact hS.next hb)
  clear hK K hS; have hS := hS1; clear hS1
  (try simp only [rgp])
  refine rg_one 16 ⟨some 32, .call { callee := .value (.func 64), args := #[.tmp 31], argTypes := #[28] }, 3, _, _, some (12, false)⟩ (by kernel_rfl) rfl (fun K hK => ?_)
  go_simp
  (go_at_call 64; (with_reducible refine (rwaiting_any _ d _ HS5.out.rd HWT.out).mono ?_); rintro e w6 ⟨rfl, hb⟩; have HS6 := Lib.hid (HS5.out.next hH.out hb); have HB6 := Lib.hid (chain HB5.out hb))
  refine hK.out _ _ ?_ (fun hS1 => ?_)
  · (first | exact hS | exact hS.next hb)
  clear hK K hS; have hS := hS1; clear hS1
  (try simp only [rgp])
  refine rgw 17 ⟨some 33, .binOp .neq 3 (.tmp 30) (.tmp 32) 3, 4, _, _, some (12, false)⟩ hS ?_
  refine rgw 18 ⟨some 34, .pick (.tmp 28) (.const (.bool true)) (.tmp 33), 4, _, _, none⟩ hS ?_
  refine rgw 19 ⟨some 35, .move (.tmp 34), 4, _, _, none⟩ hS ?_
  refine rgw 20 ⟨some 36, .move (.tmp 5), 103, _, _, some (19, false)⟩ hS ?_
  refine rgw 21 ⟨some 37, .call { callee := .builtin Builtin.len, args := #[.tmp 36], argTypes := #[103] }, 3, _, _, some (19, false)⟩ hS ?_
  refine rgw 22 ⟨some 38, .fieldAddr 28 (.tmp 3) 0, 0, _, _, some (19, false)⟩ hS ?_
  refine rgw 23 ⟨some 39, .load 26 (.tmp 38), 26, _, _, some (19, false)⟩ hS ?_ (hy := by intro w hSw; (try dsimp only at hSw); obtain ⟨z0, z1, z2, z3, z4, z5⟩ := hSw.six; go_simp; try with_reducible rfl)
  refine rgw 24 ⟨some 40, .call { callee := .builtin Builtin.len, args := #[.tmp 39], argTypes := #[26] }, 3, _, _, some (19, false)⟩ hS ?_
  refine rgw 25 ⟨some 41, .binOp .neq 3 (.tmp 37) (.tmp 40) 3, 4, _, _, some (19, false)⟩ hS ?_
  refine rgw 26 ⟨some 42, .pick (.tmp 35) (.const (.bool true)) (.tmp 41), 4, _, _, none⟩ hS ?_
  refine rgw 27 ⟨some 43, .move (.tmp 42), 4, _, _, none⟩ hS ?_
  refine rgw 28 ⟨some 44, .move (.tmp 0), 24, _, _, some (27, false)⟩ hS ?_
  refine rgw 30 ⟨some 46, .load 28 (.tmp 3), 28, _, _, some (27, false)⟩ hS ?_ (hy := by intro w hSw; (try dsimp only at hSw); refine exec_load_db (.tmp 3) ?_ ?_ hSw <;> rfl)
  refine rg_one 29 ⟨some 45, .call { callee := .value (.func 25), args := #[.tmp 44], argTypes := #[24] }, 31, _, _, some (27, false)⟩ (by kernel_rfl) rfl (fun K hK => ?_)
  go_simp
  (go_at_call 25; (with_reducible refine (HNP.out _ HS6.out.dk (HV.out.on HS6.out.below)).mono ?_); rintro e w7 ⟨rfl, hb⟩; have HS7 := Lib.hid (HS6.out.next hH.out hb); have HB7 := Lib.hid (chain HB6.out hb))
  refine hK.out _ _ ?_ (fun hS1 => ?_)
  · (first | exact hS | exact hS.next hb)
  clear hK K hS; have hS := hS1; clear hS1
  (try simp only [rgp])
  refine rg_one 31 ⟨some 47, .call { callee := .value (.func 65), args := #[.tmp 46], argTypes := #[28] }, 31, _, _, some (27, false)⟩ (by kernel_rfl) rfl (fun K hK => ?_)
  go_simp
  (go_at_call 65; (with_reducible refine (HNR.out _ _ HS7.out.rd).mono ?_); rintro e w8 ⟨rfl, hb⟩; have HS8 := Lib.hid (HS7.out.next hH.out hb); have HB8 := Lib.hid (chain HB7.out hb))
  refine hK.out _ _ ?_ (fun hS1 => ?_)
  · (first | exact hS | exact hS.next hb)
  clear hK K hS; have hS := hS1; clear hS1
  (try simp only [rgp])
  refine rgw 32 ⟨some 48, .binOp .neq 31 (.tmp 45) (.tmp 47) 31, 4, _, _, some (27, false)⟩ hS ?_
  refine rgw 33 ⟨some 49, .pick (.tmp 43) (.const (.bool true)) (.tmp 48), 4, _, _, none⟩ hS ?_
  refine wpAnyH_done (by kernel_rfl) ?_ _
  have HF4 := Lib.hid (HF2.out.below HB8.out)
  clear hS
  go_wp2_with fail
  go_loopw [6] (fun iv wr => ∃ i : Nat, iv = .int .i64 i ∧ i ≤ n ∧ Hid (SaS DK w p F #[.slice a n c, .int .i64 d.cap, .int .i64 d.ops, .bool d.down, .bool d.told, .int .i64 d.after] d wr) ∧ Hid (LA wr (.slice a2 n c2) d.files)) (fun iv _ => n - (intOf iv).toNat)
  case atStart => exact ⟨0, rfl, by omega, HS8, HF4⟩
  case round =>
    obtain ⟨i, rfl, hi, HS, HF⟩ := hrel
    by_cases hlt : (i : Int) < (n : Int)
    · obtain ⟨f, hf⟩ : ∃ f, d.L[i]? = some f := row_some (by rw [HN.out]; omega)
      obtain ⟨b, off, x1, y1, x2, y2, x3, y3, rfl, k0, k1, k2, k3, f1, f2, f3⟩ := HS.out.rd.fls.form4 i f hf
      obtain ⟨b2, off2, u1, v1, rfl, m0, m1, m2⟩ := HF.out.at_ i (f.name, f.n, f.las) (by simp [AD.files, hf])
      have HF1 := Lib.hid f1
      have HF2' := Lib.hid m2
      simp only at HF2' m0 m1
      have HCX := Lib.hid (And.intro k0 (And.intro k1 (And.intro m0 m1)))
      have HSD := Lib.hid (HS.out.next hH.out (Below.refl _ _).drew)
      have HBD : Hid (Below wr.heap.size wr wr.drew) := Lib.hid (Below.refl _ _).drew
      clear f1 f2 f3 m2 hf k0 k1 k2 k3 m0 m1
      go_wp2_with fail
      refine wp_region_held_drew (S := (fun W' => Below wr.heap.size wr W')) (by kernel_rfl) HBD.out (fun hS => ?_)
      refine rgw 0 ⟨some 56, .move (.tmp 5), 103, _, _, none⟩ hS ?_
      refine rgw 1 ⟨some 57, .move (.tmp 6), 3, _, _, none⟩ hS ?_
      refine rgw 2 ⟨some 58, .indexAddr 103 (.tmp 56) (.tmp 57), 0, _, _, none⟩ hS ?_
      refine rgw 3 ⟨some 59, .fieldAddr 107 (.tmp 58) 0, 0, _, _, none⟩ hS ?_
      refine rgw 4 ⟨some 60, .load 9 (.tmp 59), 9, _, _, none⟩ hS ?_ (hy := by intro w hSw; (try dsimp only at hSw); obtain ⟨y0, y1, y2, y3⟩ := HCX.out; have y0' := cell_keep hSw y0; have y1' := cell_keep hSw y1; have y2' := cell_keep hSw y2; have y3' := cell_keep hSw y3; obtain ⟨z0, z1, z2, z3, z4, z5⟩ := (HS.out.d0.next hSw).six; go_simp; try with_reducible rfl)
      refine rgw 5 ⟨some 61, .fieldAddr 28 (.tmp 3) 0, 0, _, _, none⟩ hS ?_
      refine rgw 6 ⟨some 62, .load 26 (.tmp 61), 26, _, _, none⟩ hS ?_ (hy := by intro w hSw; (try dsimp only at hSw); obtain ⟨y0, y1, y2, y3⟩ := HCX.out; have y0' := cell_keep hSw y0; have y1' := cell_keep hSw y1; have y2' := cell_keep hSw y2; have y3' := cell_keep hSw y3; obtain ⟨z0, z1, z2, z3, z4, z5⟩ := (HS.out.d0.next hSw).six; go_simp; try with_reducible rfl)
      refine rgw 7 ⟨some 63, .move (.tmp 6), 3, _, _, none⟩ hS ?_
      refine rgw 8 ⟨some 64, .indexAddr 26 (.tmp 62) (.tmp 63), 0, _, _, none⟩ hS ?_
      refine rgw 9 ⟨some 65, .fieldAddr 85 (.tmp 64) 0, 0, _, _, none⟩ hS ?_
      refine rgw 10 ⟨some 66, .load 9 (.tmp 65), 9, _, _, none⟩ hS ?_ (hy := by intro w hSw; (try dsimp only at hSw); obtain ⟨y0, y1, y2, y3⟩ := HCX.out; have y0' := cell_keep hSw y0; have y1' := cell_keep hSw y1; have y2' := cell_keep hSw y2; have y3' := cell_keep hSw y3; obtain ⟨z0, z1, z2, z3, z4, z5⟩ := (HS.out.d0.next hSw).six; go_simp; try with_reducible rfl)
      refine rgw 11 ⟨some 67, .binOp .neq 9 (.tmp 60) (.tmp 66) 9, 4, _, _, none⟩ hS ?_
      refine rgw 12 ⟨some 68, .move (.tmp 67), 4, _, _, none⟩ hS ?_
      refine rgw 13 ⟨some 69, .move (.tmp 5), 103, _, _, some (12, false)⟩ hS ?_
      refine rgw 14 ⟨some 70, .move (.tmp 6), 3, _, _, some (12, false)⟩ hS ?_
      refine rgw 15 ⟨some 71, .indexAddr 103 (.tmp 69) (.tmp 70), 0, _, _, some (12, false)⟩ hS ?_
      refine rgw 16 ⟨some 72, .fieldAddr 107 (.tmp 71) 1, 0, _, _, some (12, false)⟩ hS ?_
      refine rgw 17 ⟨some 73, .load 35 (.tmp 72), 35, _, _, some (12, false)⟩ hS ?_ (hy := by intro w hSw; (try dsimp only at hSw); obtain ⟨y0, y1, y2, y3⟩ := HCX.out; have y0' := cell_keep hSw y0; have y1' := cell_keep hSw y1; have y2' := cell_keep hSw y2; have y3' := cell_keep hSw y3; obtain ⟨z0, z1, z2, z3, z4, z5⟩ := (HS.out.d0.next hSw).six; go_simp; try with_reducible rfl)
      refine rgw 18 ⟨some 74, .fieldAddr 28 (.tmp 3) 0, 0, _, _, some (12, false)⟩ hS ?_
      refine rgw 19 ⟨some 75, .load 26 (.tmp 74), 26, _, _, some (12, false)⟩ hS ?_ (hy := by intro w hSw; (try dsimp only at hSw); obtain ⟨y0, y1, y2, y3⟩ := HCX.out; have y0' := cell_keep hSw y0; have y1' := cell_keep hSw y1; have y2' := cell_keep hSw y2; have y3' := cell_keep hSw y3; obtain ⟨z0, z1, z2, z3, z4, z5⟩ := (HS.out.d0.next hSw).six; go_simp; try with_reducible rfl)
      refine rgw 20 ⟨some 76, .move (.tmp 6), 3, _, _, some (12, false)⟩ hS ?_
      refine rgw 21 ⟨some 77, .indexAddr 26 (.tmp 75) (.tmp 76), 0, _, _, some (12, false)⟩ hS ?_
      refine rgw 22 ⟨some 78, .fieldAddr 85 (.tmp 77) 1, 0, _, _, some (12, false)⟩ hS ?_
      refine rgw 23 ⟨some 79, .load 35 (.tmp 78), 35, _, _, some (12, false)⟩ hS ?_ (hy := by intro w hSw; (try dsimp only at hSw); obtain ⟨y0, y1, y2, y3⟩ := HCX.out; have y0' := cell_keep hSw y0; have y1' := cell_keep hSw y1; have y2' := cell_keep hSw y2; have y3' := cell_keep hSw y3; obtain ⟨z0, z1, z2, z3, z4, z5⟩ := (HS.out.d0.next hSw).six; go_simp; try with_reducible rfl)
      refine rg_one 24 ⟨some 80, .call { callee := .value (.func 66), args := #[.tmp 73, .tmp 79], argTypes := #[35, 35] }, 4, _, _, some (12, false)⟩ (by kernel_rfl) rfl (fun K hK => ?_)
      go_simp
      (go_at_call 66; (with_reducible refine (same_true _ _ f.n f.las _ (HF2'.out.keep HBD.out) (HF1.out.keep HBD.out)).mono ?_); rintro e w3 ⟨rfl, hb⟩; have HS3 := Lib.hid (HSD.out.next hH.out hb))
      refine hK.out _ _ ?_ (fun hS1 => ?_)
      · (first | exact hS | exact chain hS hb)
      clear hK K hS; have hS := hS1; clear hS1
      (try simp only [rgp])
      refine rgw 25 ⟨some 81, .unOp .not 4 (.tmp 80), 4, _, _, some (12, false)⟩ hS ?_
      refine rgw 26 ⟨some 82, .pick (.tmp 68) (.const (.bool true)) (.tmp 81), 4, _, _, none⟩ hS ?_
      refine wpAnyH_done (by kernel_rfl) ?_ _
      have HBR := Lib.hid hS
      clear hS
      go_wp2_with fail
      exact ⟨⟨i + 1, by go_num, by omega, HS3, Lib.hid (HF.out.below HBR.out)⟩, by simp [intOf]; omega⟩
    · have hq : i = n := by omega
      subst hq
      go_wp2_with fail
      go_loopw [7] (fun iv wq => ∃ j : Nat, iv = .int .i64 j ∧ j ≤ 4 ∧ Hid (SaS DK w p F #[.slice a i c, .int .i64 d.cap, .int .i64 d.ops, .bool d.down, .bool d.told, .int .i64 d.after] d wq)) (fun iv _ => 4 - (intOf iv).toNat)
      case atStart => exact ⟨0, rfl, by omega, HS⟩
      case round =>
        rename World => wq
        obtain ⟨j, rfl, hj, HSQ⟩ := hrel
        by_cases hlt2 : (j : Int) < 4
        · have hj4 : j = 0 ∨ j = 1 ∨ j = 2 ∨ j = 3 := by omega
          have HVQ := Lib.hid (HV.out.on HSQ.out.below)
          obtain ⟨⟨x, e⟩, hx⟩ : ∃ r, headI d (j : Int) = r := ⟨_, rfl⟩
          have HHP : Hid (∀ w, DK w p F d → VT w → Calls Tryz.prog 23 #[ptr p, (.int .i64 (j : Int))] w fun r w' => r = .returned (.tuple #[.agg (hv x), .int .i64 e]) ∧ Below w.heap.size w w') := Lib.hid fun w h hv => by
            have := sheader_any hH.out w p F d (j : Int) h HG.out hv (by unfold I63; omega)
            rwa [hx] at this
          have HHR : Hid (∀ w v, RD w v d → Calls Tryz.prog 67 #[v, (.int .i64 (j : Int))] w fun r w' => r = .returned (.tuple #[.agg (hv x), .int .i64 e]) ∧ Below w.heap.size w w') := Lib.hid fun w v h => by
            have := rhead_any v d (j : Int) w h HG.out (by unfold I63; omega)
            rwa [hx] at this
          have HSE : Hid (∀ w, DK w p F d → VT w → Calls Tryz.prog 24 #[ptr p, (.int .i64 (j : Int))] w fun r w' => ∃ v, r = .returned (.tuple #[v, .int .i64 e]) ∧ (e = 0 → FS w' v 16 (dataI d (j : Int))) ∧ Below w.heap.size w w') := Lib.hid fun w h hv => by
            have := ssectors_any hH.out w p F d (j : Int) h HG.out hv (by unfold I63; omega)
            rwa [hx] at this
          have HXN := Lib.hid (show x.l.length = 4 from by have := (headI_typed HG.out (j : Int)).n; rwa [hx] at this)
          by_cases he : e = 0
          · have hok := head_fine (d := d) (q := (j : Int)) (by rw [hx]; exact he)
            have hj4 : j = 1 ∨ j = 2 ∨ j = 3 := by
              have : j ≠ 0 := by
                rintro rfl
                have h1 := head_zero d
                rw [show ((0 : Nat) : Int) = 0 from rfl] at hx
                rw [hx] at h1
                have := congrArg Prod.snd h1
                simp only at this
                omega
              omega
            subst he
            obtain ⟨lt, hlt3⟩ : ∃ s, walB (j : Int) = s := ⟨_, rfl⟩
            have HLT := Lib.hid (show (#[Value.string ⟨#[]⟩, .string ⟨#[119, 97, 108, 45, 49]⟩, .string ⟨#[119, 97, 108, 45, 50]⟩, .string ⟨#[119, 97, 108, 45, 51]⟩] : Array Value)[j]? = some (.string lt) from by
              rw [← hlt3]
              obtain ⟨l1, l2, l3⟩ := wal_lits
              rcases hj4 with rfl | rfl | rfl
              · rw [show ((1 : Nat) : Int) = 1 from rfl, l1]; rfl
              · rw [show ((2 : Nat) : Int) = 2 from rfl, l2]; rfl
              · rw [show ((3 : Nat) : Int) = 3 from rfl, l3]; rfl)
            rw [hlt3] at hok
            have hda : dataI d (j : Int) = (d.get lt).seen.drop 64 := by unfold dataI; rw [hlt3]
            rw [hda] at HSE
            obtain ⟨hh, h17⟩ := hok
            have hat := d.get_at _ hh
            have hgf := HG.out.file _ (get_mem hh)
            obtain ⟨fi, hfi⟩ : ∃ i, findI d.L lt = i := ⟨_, rfl⟩
            have HFD := rfind_of hfi
            have hii : fi = (idxN d.L lt : Nat) := by rw [← hfi]; unfold findI; exact if_pos hh
            obtain ⟨k, hk2⟩ : ∃ k, idxN d.L lt = k := ⟨_, rfl⟩
            rw [hk2] at hii hat
            obtain ⟨f, hf⟩ : ∃ f, d.get lt = f := ⟨_, rfl⟩
            rw [hf] at hat hgf h17 HSE
            have hkn : k < i := by have := (List.getElem?_eq_some_iff.1 hat).1; have := HN.out; omega
            have hk63 : (k : Int) < (i : Int) := by omega
            have hk0 : (0 : Int) ≤ (k : Int) := by omega
            subst hii
            clear hj4 hlt3
            go_wp2_with (first
              | (go_at_call 23; (with_reducible refine (HHP.out _ HSQ.out.dk HVQ.out).mono ?_); rintro r w5 ⟨rfl, hb⟩; have HS5 := Lib.hid (HSQ.out.next hH.out hb); clear hb)
              | (refine wpl_store_newH rfl _ _ rfl rfl w5.heap.size rfl x HXN.out rfl rfl ?_; intro w6 HK6 HB6; have HS6 := Lib.hid (HS5.out.next hH.out HB6.out))
              | (refine wpl_load_dbG (by rfl) _ rfl w.heap.size rfl _ HS6.out.d0 ?_)
              | (go_at_call 67; (with_reducible refine (HHR.out _ _ HS6.out.rd).mono ?_); rintro r w7 ⟨rfl, hb⟩; have HS7 := Lib.hid (HS6.out.next hH.out hb); have HK7 := Lib.hid (HK6.out.keep hb); clear hb)
              | (refine wpl_store_newH rfl _ _ rfl rfl w7.heap.size rfl x HXN.out rfl rfl ?_; intro w8 HL8 HB8; have HS8 := Lib.hid (HS7.out.next hH.out HB8.out); have HK8 := Lib.hid (HK7.out.keep HB8.out))
              | (go_at_call 24; (with_reducible refine (HSE.out _ HS8.out.dk (HV.out.on HS8.out.below)).mono ?_); rintro r w9 ⟨v9, rfl, hf9, hb⟩; have HF9 := Lib.hid hf9; have HS9 := Lib.hid (HS8.out.next hH.out hb); have HK9 := Lib.hid (HK8.out.keep hb); have HL9 := Lib.hid (HL8.out.keep hb); clear hb hf9)
              | (refine wpl_load_hd (by rfl) (.tmp 8) rfl rfl HK9.out ?_)
              | (refine wpl_load_hd (by rfl) (.tmp 10) rfl rfl HL9.out ?_)
              | (refine wpl_neq_hd (.tmp 105) (.tmp 106) _ rfl HXN.out HXN.out rfl rfl (by rfl) ?_; rw [show (!decide (x = x)) = false from by simp]))
            have HSR := Lib.hid (HS9.out.next hH.out (Below.refl _ _).drew)
            have HBR : Hid (Below w9.heap.size w9 w9.drew) := Lib.hid (Below.refl _ _).drew
            obtain ⟨b, off, v1, b1, o1, c1, b2, o2, c2', v3, hfa⟩ := FA.of HS9.out.rd.fls hat hgf
            obtain rfl := hfa.ha
            rw [show f = ⟨f.name, 17, f.las, f.seen, f.ws⟩ from by cases f; simp only at h17; subst h17; rfl] at hfa
            have HFA := Lib.hid hfa
            have hc217 : 17 ≤ c2' := by obtain ⟨_, _, e, _, q, _⟩ := hfa.s2; simp only [Value.slice.injEq, true_and] at e; obtain ⟨_, rfl⟩ := e; exact q
            have hcne : ¬ c2' = 1 := by omega
            have HF9X := Lib.hid (HF9.out (by first | exact trivial | rfl))
            have HFSL := Lib.hid (fun W (hW : Below w9.heap.size w9 W) => show FS W (.slice (some ⟨b2, o2 + 64, none⟩) 16 (c2' - 1)) 16 (f.seen.drop 64) from by
              have hs := (hfa.s2.keep hW)
              have hm := hs.mid 1 16 (by show 1 + 16 ≤ 17; omega)
              have hl : f.seen.length = 17 * 64 := hs.length
              rw [List.take_of_length_le (by rw [List.length_drop, hl]; omega), show sliced (some ⟨b2, o2, none⟩) 1 (1 + 16) c2' 64 = .slice (some ⟨b2, o2 + 64, none⟩) 16 (c2' - 1) from by unfold sliced; rw [if_neg (by omega)]; rfl] at hm
              exact hm)
            clear hfa hat hgf h17 hf hk2 hfi hh hx hda
            refine wp_region_held_drew (S := (fun W' => Below w9.heap.size w9 W')) (by kernel_rfl) HBR.out (fun hS => ?_)
            refine rgw 0 ⟨some 118, .move (.tmp 11), 41, _, _, none⟩ hS ?_
            refine rgw 1 ⟨some 119, .binOp .eql 41 (.tmp 118) (.const (.int .i64 0)) 41, 4, _, _, none⟩ hS ?_
            refine rgw 2 ⟨some 120, .move (.tmp 119), 4, _, _, none⟩ hS ?_
            refine rgw 3 ⟨some 121, .move (.tmp 12), 35, _, _, some (2, true)⟩ hS ?_
            refine rgw 4 ⟨some 122, .fieldAddr 28 (.tmp 3) 0, 0, _, _, some (2, true)⟩ hS ?_
            refine rgw 5 ⟨some 123, .load 26 (.tmp 122), 26, _, _, some (2, true)⟩ hS ?_ (hy := by intro w hSw; (try dsimp only at hSw); obtain ⟨z0, z1, z2, z3, z4, z5⟩ := (HS9.out.d0.next hSw).six; go_simp; try with_reducible rfl)
            refine rgw 6 ⟨some 124, .load 28 (.tmp 3), 28, _, _, some (2, true)⟩ hS ?_ (hy := by intro w hSw; (try dsimp only at hSw); refine exec_load_db (.tmp 3) ?_ ?_ (HS9.out.d0.next hSw) <;> rfl)
            refine rgw 8 ⟨some 126, .move (.tmp 7), 3, _, _, some (2, true)⟩ hS ?_
            refine rg_one 7 ⟨some 125, .buildSlice 110 4 #[(0, .const (.string { data := #[] })), (1, .const (.string { data := #[119, 97, 108, 45, 49] })), (2, .const (.string { data := #[119, 97, 108, 45, 50] })), (3, .const (.string { data := #[119, 97, 108, 45, 51] }))], 110, _, _, some (2, true)⟩ (by kernel_rfl) rfl (fun K hK => ?_)
            rw [if_pos (by rfl)]; refine wp_build_str4 _ _ _ _ rfl ?_; obtain ⟨wA, hwA⟩ : ∃ q, w9.drew.alloc (.cells #[.string ⟨#[]⟩, .string ⟨#[119, 97, 108, 45, 49]⟩, .string ⟨#[119, 97, 108, 45, 50]⟩, .string ⟨#[119, 97, 108, 45, 51]⟩] 9) = q := ⟨_, rfl⟩; rw [hwA]; have hN := chain HBR.out (show Below w9.drew.heap.size w9.drew wA from by rw [← hwA]; exact below_alloc _ _); have hcA : wA.cell? ⟨w9.heap.size, j, none⟩ = some (.string lt) := by rw [← hwA]; exact (cell_of_row _ _ j _ _ _ (heap_alloc_last _ _)).trans HLT.out
            refine hK.out _ _ ?_ (fun hS1 => ?_)
            · (first | exact hN | exact hS)
            clear hK K hS; have hS := hS1; clear hS1
            (try simp only [rgp])
            (apply rg_strong (S' := fun W' => Below w9.heap.size w9 W' ∧ W'.cell? ⟨w9.heap.size, j, none⟩ = some (.string lt)) (fun _ h => h.1); have hS2 := hS; clear hS; (try clear hN); have hS := And.intro hS2 hcA)
            refine rgw 9 ⟨some 127, .indexAddr 110 (.tmp 125) (.tmp 126), 0, _, _, some (2, true)⟩ hS ?_
            refine rgw 10 ⟨some 128, .load 9 (.tmp 127), 9, _, _, some (2, true)⟩ hS ?_ (hy := by intro w hSw; (try dsimp only at hSw); have z := hSw.2; go_simp; try with_reducible rfl)
            refine rg_one 11 ⟨some 129, .call { callee := .value (.func 35), args := #[.tmp 124, .tmp 128], argTypes := #[28, 9] }, 3, _, _, some (2, true)⟩ (by kernel_rfl) rfl (fun K hK => ?_)
            go_simp
            (go_at_call 35; (with_reducible refine (HFD.out _ _ (HS9.out.rd.below hS.1)).mono ?_); rintro r wB ⟨rfl, hb⟩; have hN := And.intro (chain hS.1 hb) (cell_keep hb hS.2); have HSB := Lib.hid hN)
            refine hK.out _ _ ?_ (fun hS1 => ?_)
            · (first | exact hN | exact hS)
            clear hK K hS; have hS := hS1; clear hS1
            (try simp only [rgp])
            refine rgw 12 ⟨some 130, .indexAddr 26 (.tmp 123) (.tmp 129), 0, _, _, some (2, true)⟩ hS ?_
            refine rgw 13 ⟨some 131, .fieldAddr 85 (.tmp 130) 2, 0, _, _, some (2, true)⟩ hS ?_
            refine rgw 14 ⟨some 132, .load 35 (.tmp 131), 35, _, _, some (2, true)⟩ hS ?_ (hy := by intro w hSw; (try dsimp only at hSw); have y2 := (HFA.out.next hSw.1).k2; go_simp; try with_reducible rfl)
            refine rgw 15 ⟨some 133, .slice 35 (.tmp 132) (some (.const (.int .i64 1))) none none, 35, _, _, some (2, true)⟩ hS ?_
            refine rg_one 16 ⟨some 134, .call { callee := .value (.func 66), args := #[.tmp 121, .tmp 133], argTypes := #[35, 35] }, 4, _, _, some (2, true)⟩ (by kernel_rfl) rfl (fun K hK => ?_)
            go_simp
            (go_at_call 66; (with_reducible refine (same_true _ _ 16 _ _ (HF9X.out.keep hS.1) (HFSL.out _ hS.1)).mono ?_); rintro r wC ⟨rfl, hb⟩; (try clear hN); have hN := And.intro (chain hS.1 hb) (cell_keep hb hS.2))
            refine hK.out _ _ ?_ (fun hS1 => ?_)
            · (first | exact hN | exact hS)
            clear hK K hS; have hS := hS1; clear hS1
            (try simp only [rgp])
            refine rgw 17 ⟨some 135, .unOp .not 4 (.tmp 134), 4, _, _, some (2, true)⟩ hS ?_
            refine rgw 18 ⟨some 136, .pick (.tmp 120) (.tmp 135) (.const (.bool false)), 4, _, _, none⟩ hS ?_
            refine wpAnyH_done (by kernel_rfl) ?_ _
            have HSF := Lib.hid (HS9.out.next hH.out hS.1)
            (try clear hN)
            clear hS
            go_wp2_with fail
            exact ⟨⟨j + 1, by go_num, by omega, HSF⟩, by simp [intOf]; omega⟩
          · have be : (e == 0) = false := by simpa using he
            clear hx
            go_wp2_with (first
              | (go_at_call 23; (with_reducible refine (HHP.out _ HSQ.out.dk HVQ.out).mono ?_); rintro r w5 ⟨rfl, hb⟩; have HS5 := Lib.hid (HSQ.out.next hH.out hb); clear hb)
              | (refine wpl_store_newH rfl _ _ rfl rfl w5.heap.size rfl x HXN.out rfl rfl ?_; intro w6 HK6 HB6; have HS6 := Lib.hid (HS5.out.next hH.out HB6.out))
              | (refine wpl_load_dbG (by rfl) _ rfl w.heap.size rfl _ HS6.out.d0 ?_)
              | (go_at_call 67; (with_reducible refine (HHR.out _ _ HS6.out.rd).mono ?_); rintro r w7 ⟨rfl, hb⟩; have HS7 := Lib.hid (HS6.out.next hH.out hb); have HK7 := Lib.hid (HK6.out.keep hb); clear hb)
              | (refine wpl_store_newH rfl _ _ rfl rfl w7.heap.size rfl x HXN.out rfl rfl ?_; intro w8 HL8 HB8; have HS8 := Lib.hid (HS7.out.next hH.out HB8.out); have HK8 := Lib.hid (HK7.out.keep HB8.out))
              | (go_at_call 24; (with_reducible refine (HSE.out _ HS8.out.dk (HV.out.on HS8.out.below)).mono ?_); rintro r w9 ⟨v9, rfl, hf9, hb⟩; have HF9 := Lib.hid hf9; have HS9 := Lib.hid (HS8.out.next hH.out hb); have HK9 := Lib.hid (HK8.out.keep hb); have HL9 := Lib.hid (HL8.out.keep hb); clear hb hf9)
              | (refine wpl_load_hd (by rfl) (.tmp 8) rfl rfl HK9.out ?_)
              | (refine wpl_load_hd (by rfl) (.tmp 10) rfl rfl HL9.out ?_)
              | (refine wpl_neq_hd (.tmp 105) (.tmp 106) _ rfl HXN.out HXN.out rfl rfl (by rfl) ?_; rw [show (!decide (x = x)) = false from by simp]))
            have HSR := Lib.hid (HS9.out.next hH.out (Below.refl _ _).drew)
            have HBR : Hid (Below w9.heap.size w9 w9.drew) := Lib.hid (Below.refl _ _).drew
            refine wp_region_held_drew (S := (fun W' => Below w9.heap.size w9 W')) (by kernel_rfl) HBR.out (fun hS => ?_)
            refine rgw 0 ⟨some 118, .move (.tmp 11), 41, _, _, none⟩ hS ?_
            refine rgw 1 ⟨some 119, .binOp .eql 41 (.tmp 118) (.const (.int .i64 0)) 41, 4, _, _, none⟩ hS ?_
            refine rgw 2 ⟨some 120, .move (.tmp 119), 4, _, _, none⟩ hS ?_
            refine rgt 3 (oi := ⟨some 121, .move (.tmp 12), 35, _, _, some (2, true)⟩) (v := undef) rfl (.inr ⟨by rfl, rfl⟩) hS ?_
            (try simp only [rgp])
            refine rgt 4 (oi := ⟨some 122, .fieldAddr 28 (.tmp 3) 0, 0, _, _, some (2, true)⟩) (v := undef) rfl (.inr ⟨by rfl, rfl⟩) hS ?_
            (try simp only [rgp])
            refine rgt 5 (oi := ⟨some 123, .load 26 (.tmp 122), 26, _, _, some (2, true)⟩) (v := undef) rfl (.inr ⟨by rfl, rfl⟩) hS ?_
            (try simp only [rgp])
            refine rgt 6 (oi := ⟨some 124, .load 28 (.tmp 3), 28, _, _, some (2, true)⟩) (v := undef) rfl (.inr ⟨by rfl, rfl⟩) hS ?_
            (try simp only [rgp])
            refine rgt 7 (oi := ⟨some 125, .buildSlice 110 4 #[(0, .const (.string { data := #[] })), (1, .const (.string { data := #[119, 97, 108, 45, 49] })), (2, .const (.string { data := #[119, 97, 108, 45, 50] })), (3, .const (.string { data := #[119, 97, 108, 45, 51] }))], 110, _, _, some (2, true)⟩) (v := undef) rfl (.inr ⟨by rfl, rfl⟩) hS ?_
            (try simp only [rgp])
            refine rgt 8 (oi := ⟨some 126, .move (.tmp 7), 3, _, _, some (2, true)⟩) (v := undef) rfl (.inr ⟨by rfl, rfl⟩) hS ?_
            (try simp only [rgp])
            refine rgt 9 (oi := ⟨some 127, .indexAddr 110 (.tmp 125) (.tmp 126), 0, _, _, some (2, true)⟩) (v := undef) rfl (.inr ⟨by rfl, rfl⟩) hS ?_
            (try simp only [rgp])
            refine rgt 10 (oi := ⟨some 128, .load 9 (.tmp 127), 9, _, _, some (2, true)⟩) (v := undef) rfl (.inr ⟨by rfl, rfl⟩) hS ?_
            (try simp only [rgp])
            refine rgt 11 (oi := ⟨some 129, .call { callee := .value (.func 35), args := #[.tmp 124, .tmp 128], argTypes := #[28, 9] }, 3, _, _, some (2, true)⟩) (v := undef) rfl (.inr ⟨by rfl, rfl⟩) hS ?_
            (try simp only [rgp])
            refine rgt 12 (oi := ⟨some 130, .indexAddr 26 (.tmp 123) (.tmp 129), 0, _, _, some (2, true)⟩) (v := undef) rfl (.inr ⟨by rfl, rfl⟩) hS ?_
            (try simp only [rgp])
            refine rgt 13 (oi := ⟨some 131, .fieldAddr 85 (.tmp 130) 2, 0, _, _, some (2, true)⟩) (v := undef) rfl (.inr ⟨by rfl, rfl⟩) hS ?_
            (try simp only [rgp])
            refine rgt 14 (oi := ⟨some 132, .load 35 (.tmp 131), 35, _, _, some (2, true)⟩) (v := undef) rfl (.inr ⟨by rfl, rfl⟩) hS ?_
            (try simp only [rgp])
            refine rgt 15 (oi := ⟨some 133, .slice 35 (.tmp 132) (some (.const (.int .i64 1))) none none, 35, _, _, some (2, true)⟩) (v := undef) rfl (.inr ⟨by rfl, rfl⟩) hS ?_
            (try simp only [rgp])
            refine rgt 16 (oi := ⟨some 134, .call { callee := .value (.func 66), args := #[.tmp 121, .tmp 133], argTypes := #[35, 35] }, 4, _, _, some (2, true)⟩) (v := undef) rfl (.inr ⟨by rfl, rfl⟩) hS ?_
            (try simp only [rgp])
            refine rgt 17 (oi := ⟨some 135, .unOp .not 4 (.tmp 134), 4, _, _, some (2, true)⟩) (v := undef) rfl (.inr ⟨by rfl, rfl⟩) hS ?_
            (try simp only [rgp])
            refine rgw 18 ⟨some 136, .pick (.tmp 120) (.tmp 135) (.const (.bool false)), 4, _, _, none⟩ hS ?_
            refine wpAnyH_done (by kernel_rfl) ?_ _
            clear hS
            go_wp2_with fail
            exact ⟨⟨j + 1, by go_num, by omega, HSR⟩, by simp [intOf]; omega⟩
        · have hq2 : j = 4 := by omega
          subst hq2
          go_wp2_with fail
          go_ret
          exact ⟨rfl, HSQ.out.below⟩
end Go.Proofs.YtpoiapfgbbmekaaGreatDoor
