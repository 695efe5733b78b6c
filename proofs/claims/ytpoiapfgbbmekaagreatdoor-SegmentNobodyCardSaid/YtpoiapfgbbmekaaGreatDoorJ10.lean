/-
  TEXTS JOINED: DkSays, SegNew, SegAwake. Each one's own words stand at its head.
-/
import Derived.Test.YtpoiapfgbbmekaaGreatDoorJ9
import Derived.Test.YtpoiapfgbbmekaaGreatDoorJ16
import Derived.Lib.MinMax
import Derived.Test.YtpoiapfgbbmekaaGreatDoorJ17
namespace Go.Proofs.YtpoiapfgbbmekaaGreatDoor
open Go.RowKit
theorem Calm.of_L {d d' : AD} (h : Calm d) (hl : d'.L = d.L) : Calm d' := by unfold Calm at *; rw [hl]; exact h
theorem Calm.op {d : AD} (h : Calm d) : Calm d.opd := h.of_L d.opd_L
theorem Calm.without {d : AD} (h : Calm d) (s : ByteArray) : Calm (d.without s) := fun f hf => h f (mem_without.1 hf).1
theorem Calm.put {d : AD} (h : Calm d) {f : AF} (hf : CalmF f) : Calm (d.withF f) := by
  intro g hg
  rcases mem_ins.1 hg with rfl | hg
  · exact hf
  · exact h g (mem_without.1 hg).1
theorem opR_calm {d : AD} (h : Calm d) (g : AD → AD) (hg : ∀ x : AD, x = d.opd → Calm x → Calm (g x)) : Calm (d.opR g).1 := by
  unfold AD.opR
  split
  · exact h.op
  · exact hg _ rfl h.op
theorem calm_new (s : ByteArray) (n : Nat) : CalmF (newF s n) := fun _ _ _ => rfl
theorem Calm.make {d : AD} (h : Calm d) (s : ByteArray) (n : Int) : Calm (d.makeR s n).1 := by
  unfold AD.makeR
  split
  · exact h
  split
  · exact h
  split
  · exact h
  split
  · exact h
  split
  · exact h
  · exact opR_calm h _ fun x _ hx => hx.put (calm_new _ _)
theorem Calm.sync {d : AD} (h : Calm d) (s : ByteArray) : Calm (d.syncR s).1 := by
  unfold AD.syncR
  split
  · exact h
  split
  · exact h
  · exact opR_calm h _ fun x _ hx => hx.put fun _ _ _ => rfl
theorem Calm.fail {d : AD} (h : Calm d) (n : Int) : Calm (d.failR n).1 := by
  unfold AD.failR
  split
  · exact h
  split
  · exact h
  · exact h
theorem Calm.rename {d : AD} (h : Calm d) (s t : ByteArray) : Calm (d.renameR s t).1 := by
  unfold AD.renameR
  split
  · exact h
  split
  · exact h
  rename_i hh
  split
  · exact h
  split
  · exact h
  · have hcf : CalmF (d.get s) := h _ (get_mem (Decidable.not_not.1 hh))
    exact opR_calm h _ fun x _ hx => (hx.without s).put (fun i hi hw => hcf i hi hw)
theorem calm_written {f : AF} (h : CalmF f) (p m : Nat) (fs : List Int) (hf : fs.length = m * 64) (hs : f.seen.length = f.n * 64) (hw : f.ws.length = f.n) (hp : p + m ≤ f.n) : CalmF (f.written p m fs) := by
  intro i hi hwi
  have h1 := wrS2_all f p m fs hf hs hw hp
  have h2 := wrS2_get f p fs m i hi
  rw [h1, secsOf_get (f.written p m fs) i hi] at h2
  by_cases hc : p ≤ i ∧ i < p + m
  · rw [if_pos hc] at h2
    simp only [Option.some.injEq, Sc.mk.injEq] at h2
    rw [h2.2.2] at hwi; simp at hwi
  · rw [if_neg hc] at h2
    simp only [Option.some.injEq, Sc.mk.injEq] at h2
    rw [h2.2.1, h2.1]
    exact h i hi (by rw [← h2.2.2]; exact hwi)
theorem Calm.write {d : AD} (h : Calm d) (hg : Good d) (s : ByteArray) (at_ : Int) (m : Nat) (fs : List Int) (hf : fs.length = m * 64) : Calm (d.writeR s at_ m fs).1 := by
  unfold AD.writeR
  split
  · exact h
  split
  · exact h
  rename_i hh
  split
  · exact h
  rename_i hc
  have hm := get_mem (Decidable.not_not.1 hh)
  have hgf := hg.file _ hm
  exact opR_calm h _ fun x _ hx => hx.put (calm_written (h _ hm) at_.toNat m fs hf hgf.seen hgf.ws (by omega))
theorem Calm.crash (d : AD) (kb : List Int) (torn cut : Int) : Calm (d.crashR kb torn cut) := by
  intro f hf
  have : ∀ k, ∀ f ∈ (crL kb torn cut d.L k).1, CalmF f := by
    intro k
    induction k with
    | zero => intro f hf; simp [crL] at hf
    | succ k ih =>
      intro f hf
      cases hq : d.L[k]? with
      | none => simp only [crL, hq] at hf; exact ih f hf
      | some g =>
        rw [crL_step kb torn cut d.L k g hq] at hf
        rcases List.mem_append.1 hf with hf | hf
        · exact ih f hf
        · simp only [List.mem_singleton] at hf
          subst hf
          intro _ _ _; rfl
  exact this _ f hf
def DKq (w : World) (p : Addr) (F : Nat → Bool) (d : AD) : Prop := DKp w p F d ∧ Calm d
theorem disk_says : DiskSays DKq where
  keep h hs hk := ⟨h.1.keep hs hk, h.2⟩
  foot h := h.1.1
  new c w hc := (pnew_any c w hc).mono (by
    rintro e w' ⟨b, bm, rfl, hl⟩
    obtain ⟨F, h1, h2⟩ := hl.dkp
    exact ⟨_, F, rfl, ⟨h1, fun f hf => by simp [AD.newD] at hf⟩, h2⟩)
  make w p F d s n h hg hs hn := (kmake_any w p F d s n h.1 hg hs hn).mono (by
    rintro e w' ⟨F', rfl, h1, h2⟩; exact ⟨F', rfl, ⟨h1, h.2.make s n⟩, h2⟩)
  write w p F d s at_ v m fs h hg hs ha hf _ hm := (kwrite_any w p F d s at_ v m fs h.1 hg hs ha hf hm).mono (by
    rintro e w' ⟨F', rfl, h1, h2⟩; exact ⟨F', rfl, ⟨h1, h.2.write hg s at_ m fs hf.length⟩, h2⟩)
  sync w p F d s h hg hs := (ksync_any w p F d s h.1 hg hs).mono (by
    rintro e w' ⟨F', rfl, h1, h2⟩; exact ⟨F', rfl, ⟨h1, h.2.sync s⟩, h2⟩)
  rename w p F d s t h hg hs ht := (krename_any w p F d s t h.1 hg hs ht).mono (by
    rintro e w' ⟨F', rfl, h1, h2⟩; exact ⟨F', rfl, ⟨h1, h.2.rename s t⟩, h2⟩)
  fail w p F d n h _ hn := (kfail_any w p F d n h.1 hn).mono (by
    rintro e w' ⟨F', rfl, h1, h2⟩; exact ⟨F', rfl, ⟨h1, h.2.fail n⟩, h2⟩)
  crash w p F d v len kb torn cut h hg hv hkb ht hc := (kcrash_any w p F d v len kb torn cut h.1 hg h.2 hv hkb ht hc).mono (by
    rintro e w' ⟨F', rfl, h1, h2⟩; exact ⟨F', rfl, ⟨h1, Calm.crash d kb torn cut⟩, h2⟩)
  read w p F d s at_ n h hg hs ha hn := kread_any w p F d s at_ n h.1 hg hs ha hn
  size w p F d s h hg hs := by
    obtain ⟨⟨_, b, bm, l, rfl, hd, _⟩, _⟩ := h
    exact (psize_any w b bm l d s hd hs).mono (by rintro e w' ⟨rfl, rfl⟩; exact ⟨rfl, Below.refl _ _⟩)
  list w p F d h hg := by
    obtain ⟨⟨_, b, bm, l, rfl, hd, _⟩, _⟩ := h
    exact plist_any w b bm l d hd hg
  files w p F d h hg := by
    obtain ⟨⟨_, b, bm, l, rfl, hd, _⟩, _⟩ := h
    exact pfiles_any w b bm l d hd hg
  used w p F d h hg := by
    obtain ⟨⟨_, b, bm, l, rfl, hd, _⟩, _⟩ := h
    exact pused_any w b bm l d hd hg
  waiting w p F d h hg := by
    obtain ⟨⟨_, b, bm, l, rfl, hd, _⟩, _⟩ := h
    exact pWaiting_any w b bm l d hd hg
  ops w p F d h _ := by
    obtain ⟨⟨_, b, bm, l, rfl, hd, _⟩, _⟩ := h
    exact (pops_any w b bm l d hd).mono (by rintro e w' ⟨rfl, rfl⟩; exact ⟨rfl, Below.refl _ _⟩)
  down w p F d h _ := by
    obtain ⟨⟨_, b, bm, l, rfl, hd, _⟩, _⟩ := h
    exact (pdown_any w b bm l d hd).mono (by rintro e w' ⟨rfl, rfl⟩; exact ⟨rfl, Below.refl _ _⟩)
end Go.Proofs.YtpoiapfgbbmekaaGreatDoor
namespace Go.Proofs.YtpoiapfgbbmekaaGreatDoor
open Go.RowKit
variable {DK : World → Addr → (Nat → Bool) → AD → Prop}
theorem parsed_some (l : List UInt8) : ∃ k n, parsed l k n := by
  by_cases h1 : isP l
  · obtain ⟨n, a1, a2, e⟩ := h1
    exact ⟨2, n, .inl ⟨rfl, a1, a2, e⟩⟩
  by_cases h2 : isW l
  · obtain ⟨n, a1, a2, e⟩ := h2
    exact ⟨1, n, .inr (.inl ⟨rfl, a1, a2, e⟩)⟩
  · exact ⟨0, 0, .inr (.inr ⟨rfl, rfl, h2, h1⟩)⟩
theorem sparse_of {s : ByteArray} (hs : s.size ≤ 281474976710656) {k n : Int} (hp : parsed s.data.toList k n) :
    Hid (∀ w, Vars w → Calls Tryz.prog 71 #[.string s] w fun e w' => e = .returned (.tuple #[.int .i64 k, .int .i64 n]) ∧ Below w.heap.size w w') :=
  Lib.hid fun w hv => by
    have := parse_list s.data.toList w (by rw [size_len]; exact hs) hv
    refine this.mono ?_
    rintro e w' ⟨k', n', rfl, hp', hb⟩
    obtain ⟨rfl, rfl⟩ := parsed_one hp' hp
    exact ⟨rfl, hb⟩
theorem name_size {f : AF} (hf : GF f) : f.name.size ≤ 281474976710656 := by
  have h := hf.name
  unfold rightB nameN at h
  simp only [Bool.and_eq_true, decide_eq_true_eq] at h
  rw [← size_len]
  omega
theorem epo_none {f : AF} {k n : Int} (hp : parsed f.name.data.toList k n) (h0 : k = 0) : epoF f = 0 := by
  unfold epoF; rw [parsed_live hp, if_neg (by simp [h0])]
theorem epo_some {f : AF} {k n : Int} (hp : parsed f.name.data.toList k n) (h0 : k ≠ 0) {x : Hdr} {e : Int} (hx : fstI f.las = (x, e)) : epoF f = x.e := by
  unfold epoF; rw [parsed_live hp, if_pos (by simp [h0]), hx]
set_option maxRecDepth 8000 in
set_option maxHeartbeats 4000000 in
theorem snewest_any (H : DiskSays DK) (w : World) (p : Addr) (F : Nat → Bool) (d : AD) (h : DK w p F d) (hg : Good d) (hvt : VT w) :
    Calls Tryz.prog 25 #[ptr p] w fun e w' => e = .returned (.int .u64 (newI d.L d.L.length)) ∧ Below w.heap.size w w' := by
  have hH := Lib.hid H
  have HG := Lib.hid hg
  have HV := Lib.hid hvt
  have HFL : Hid (∀ w p F, DK w p F d → Calls Tryz.prog 61 #[ptr p] w fun e w' => ∃ v, e = .returned v ∧ LA w' v d.files ∧ Below w.heap.size w w') := Lib.hid fun w p F h => H.files w p F d h hg
  have HK := Lib.hid h
  have hn : d.files.length = d.L.length := by simp [AD.files]
  obtain ⟨n, hnn⟩ : ∃ n, d.L.length = n := ⟨_, rfl⟩
  have hfew := hg.few
  rw [hnn] at hn hfew ⊢
  have HN := Lib.hid hnn
  have HFN := Lib.hid hn
  have hn63 : (n : Int) ≤ 64 := by omega
  clear h hg hvt hn hnn hfew
  go_enter Tryz.func25, Tryz.ntmps25
  go_wp2_with (first
    | (go_at_call 61; (with_reducible refine (HFL.out _ _ _ HK.out).mono ?_); rintro e w1 ⟨v1, rfl, hs1, hb⟩; obtain ⟨a1, c1, rfl, hc11, hc12, _⟩ := hs1.form; rw [HFN.out] at hs1 hc11 ⊢; have HF1 := Lib.hid hs1; have HB1 := Lib.hid hb; have HV1 := Lib.hid (HV.out.on hb); clear hb hs1))
  go_loopw [13, 3] (fun iv xv wr => ∃ (i : Nat) (x : Int), iv = .int .i64 i ∧ xv = .int .u64 x ∧ i ≤ n ∧ Hid (x = newI d.L i) ∧ 0 ≤ x ∧ x ≤ 18446744073709551615 ∧ Hid (Below w1.heap.size w1 wr)) (fun iv _ _ => n - (intOf iv).toNat)
  case atStart => exact ⟨0, 0, rfl, rfl, by omega, Lib.hid rfl, by omega, by omega, Lib.hid (Below.refl _ _)⟩
  case round =>
    obtain ⟨i, x, rfl, rfl, hi, HX, hx0, hx1, HB⟩ := hrel
    by_cases hlt : (i : Int) < (n : Int)
    · obtain ⟨f, hf⟩ : ∃ f, d.L[i]? = some f := row_some (by rw [HN.out]; omega)
      have hgf := HG.out.file f (List.mem_of_getElem? hf)
      obtain ⟨b2, off2, u1, v1, rfl, m0, m1, m2⟩ := (HF1.out.kin (Kin.below HB.out)).at_ i (f.name, f.n, f.las) (by simp [AD.files, hf])
      simp only at m0 m1 m2
      obtain ⟨k, kn, hp⟩ := parsed_some f.name.data.toList
      obtain ⟨⟨y, e⟩, hy⟩ : ∃ r, fstI f.las = r := ⟨_, rfl⟩
      have hyt : HdT y := by have := fstI_typed hgf.blas; rw [hy] at this; exact this
      have HPA := sparse_of (name_size hgf) hp
      have hl := hgf.las
      have hn1 := hgf.n1
      have HDC := sdec_of (by omega) hgf.blas hy
      have hstep := newI_step d.L i f hf
      have HMC := Lib.hid (And.intro m0 m1)
      have HFS := Lib.hid m2
      have HVR := Lib.hid (HV1.out.on HB.out)
      by_cases hk : k = 0
      · have HST := Lib.hid (show newI d.L (i + 1) = x from by rw [hstep, ← HX.out, epo_none hp hk]; omega)
        subst hk
        clear hp hy hyt hl hn1 hstep hf hgf HDC m2
        go_wp2_with (first
          | (go_at_call 71; (with_reducible refine (HPA.out _ (HVR.out.on (below_alloc wr _)).vars).mono ?_); rintro e w4 ⟨rfl, hb⟩; have HB4 := Lib.hid hb; clear hb))
        exact ⟨⟨i + 1, x, by go_num, rfl, by omega, Lib.hid HST.out.symm, hx0, hx1, Lib.hid (bch HB.out (bch (below_alloc wr _) HB4.out))⟩, by simp [intOf]; omega⟩
      · have HST := Lib.hid (show newI d.L (i + 1) = max x y.e from by rw [hstep, ← HX.out, epo_some hp hk hy])
        have bk : (k == 0) = false := by simpa using hk
        obtain ⟨bb, oo, rfl, hat⟩ := m2.at_ 0 (by omega)
        rw [Nat.zero_mul, Nat.add_zero, List.drop_zero] at hat
        have HAT := Lib.hid hat
        have hye := hyt.e
        have HYN := Lib.hid hyt.n
        have hf0 : (0 : Int) < (f.n : Int) := by omega
        clear hp hy hyt hl hn1 hstep hf hgf m2 hat
        go_wp2_with (first
          | (go_at_call 71; (with_reducible refine (HPA.out _ (HVR.out.on (below_alloc wr _)).vars).mono ?_); rintro e w4 ⟨rfl, hb⟩; have c4 := cell_keep hb (cell_of_row _ _ 1 _ _ _ (heap_alloc_last wr _)); simp at c4; have HB4 := Lib.hid (bch (below_alloc wr _) hb); have HV4 := Lib.hid (HVR.out.on HB4.out); clear hb)
          | (refine wpl_load_at rfl (.tmp 28) rfl bb oo rfl _ (HAT.out.keep HB4.out) ?_)
          | (go_at_call 72; (with_reducible refine (HDC.out _ HV4.out.tab).mono ?_); rintro e w5 ⟨rfl, hb⟩; have HB5 := Lib.hid (bch HB4.out hb); clear hb)
          | (refine wpl_store_newH rfl _ _ rfl rfl w5.heap.size rfl y HYN.out rfl rfl ?_; intro w6 HK6 HB6; have e6 := HK6.out.cells.1))
        unfold U64 at hye
        exact ⟨⟨i + 1, max x y.e, by go_num, rfl, by omega, Lib.hid HST.out.symm, by omega, by omega, Lib.hid (bch HB.out (bch HB5.out HB6.out))⟩, by simp [intOf]; omega⟩
    · have hq : i = n := by omega
      subst hq
      go_wp2_with fail
      go_ret
      exact ⟨by rw [HX.out]; rfl, bch HB1.out HB.out⟩
end Go.Proofs.YtpoiapfgbbmekaaGreatDoor
namespace Go.Proofs.YtpoiapfgbbmekaaGreatDoor
open Go.RowKit
variable {DK : World → Addr → (Nat → Bool) → AD → Prop}
def hA : Hdr := ⟨4, 1, 1, [0, 0, 0, 0]⟩
theorem hA_typed : HdT hA := ⟨by unfold U64 hA; simp, by unfold I63 hA; simp, by unfold I63 hA; simp, rfl, fun x hx => by
  simp only [hA, List.mem_cons, List.not_mem_nil, or_false] at hx
  unfold I63
  omega⟩
def aw1 : AD := ((AD.newD 17).beginR hA).1
theorem aw_lit : (AD.newD 17).beginR hA = (AD.newD 17).beginT hA ⟨#[119, 97, 108, 45, 49]⟩ := by
  unfold AD.beginR
  rw [show hA.s = 1 from rfl, wal_lits.1]
theorem aw_facts : ((AD.newD 17).beginT hA ⟨#[119, 97, 108, 45, 49]⟩).2 = 0 ∧ ((AD.newD 17).beginT hA ⟨#[119, 97, 108, 45, 49]⟩).1.ops = 4 ∧ ((AD.newD 17).beginT hA ⟨#[119, 97, 108, 45, 49]⟩).1.L.length = 1 := by
  decide +kernel
theorem aw_all : ((AD.newD 17).beginR hA).2 = 0 ∧ aw1.ops = 4 ∧ headI aw1 1 = (hA, 0) ∧ newI aw1.L aw1.L.length = 4 := by
  obtain ⟨e1, e2, e3⟩ := aw_facts
  rw [← aw_lit] at e1 e2 e3
  have hg := Good.new 17 (by unfold I63; omega)
  obtain ⟨hk, h1, h2, h3⟩ := begin_done hg hA_typed e1
  have hh := (done_tells (d := aw1) hA_typed hk h1 h2 h3).1
  refine ⟨e1, e2, hh, ?_⟩
  have hl : aw1.L.length = 1 := e3
  have hat := aw1.get_at _ h2
  have hi : idxN aw1.L (walB hA.s) = 0 := by have : idxN aw1.L (walB hA.s) < aw1.L.length := h2; omega
  rw [hi] at hat
  rw [hl, newI_step aw1.L 0 _ hat]
  have he : epoF (aw1.get (walB hA.s)) = 4 := by
    have h3' : aw1.get (walB hA.s) = _ := h3
    rw [h3']
    have hp : parsed (walB hA.s).data.toList 1 1 := .inr (.inl ⟨rfl, by omega, by omega, rfl⟩)
    rw [epo_some (f := ⟨walB hA.s, 17, layL hA 0 [], layL hA 0 [], List.replicate 17 false⟩) hp (by omega) (show fstI (layL hA 0 []) = (hA, 0) from by unfold fstI; rw [layL_take hA_typed.n]; exact hd_got hA_typed hk)]
    rfl
  rw [he]
  rfl
section
variable {o : Oper} {a : Act} {w : World} {Q : Exit → Act → World → Prop} {ops : Array Oper} {rest : List Oper}
theorem wpl_eq_hd (x y : Operand) (u : TypeId) (ho : o.op = .binOp .eql 34 x y u) {c d : Hdr} (hc : c.l.length = 4) (hd : d.l.length = 4) (hx : a.eval x = .agg (hv c)) (hye : a.eval y = .agg (hv d)) (hw : Region.wanted o (yielded ops a.tmps) = true)
    (hk : wpList Tryz.prog ops Q rest (a.put o.dst (.bool (decide (c = d)))) w) : wpList Tryz.prog ops Q (o :: rest) a w := wpl_valw hw (exec_eq_hd hc hd x y u ho hx hye) hk
end
set_option maxRecDepth 8000 in
set_option maxHeartbeats 2000000 in
theorem sawake_any (H : DiskSays DK) (w : World) (hvt : VT w) :
    Calls Tryz.prog 6 #[] w fun e w' => e = .returned (.bool true) ∧ Below w.heap.size w w' := by
  obtain ⟨e1, e2, e3, e4⟩ := aw_all
  have hH := Lib.hid H
  have HV := Lib.hid hvt
  have g0 := Good.new 17 (by unfold I63; omega)
  have g1 : Good aw1 := g0.begin hA_typed
  have H1 : Hid (∀ w, Calls Tryz.prog 7 #[.int .i64 17] w fun e w' => ∃ p F, e = .returned (ptr p) ∧ DK w' p F (AD.newD 17) ∧ Ext noF w w' F) := Lib.hid fun w => H.new 17 w (by unfold I63; omega)
  have H2 : Hid (∀ w1 p F, DK w1 p F (AD.newD 17) → Ext noF w w1 F → Calls Tryz.prog 9 #[ptr p, .agg (hv hA)] w1 fun e w' => ∃ F', e = .returned (.int .i64 0) ∧ DK w' p F' aw1 ∧ Ext F w1 w' F') := Lib.hid fun w1 p F h hx => by
    have := sbegin_any H w w1 p F _ hA h g0 hvt hx hA_typed; rwa [e1] at this
  have H3 : Hid (∀ w p F, DK w p F aw1 → VT w → Calls Tryz.prog 23 #[ptr p, .int .i64 1] w fun e w' => e = .returned (.tuple #[.agg (hv hA), .int .i64 0]) ∧ Below w.heap.size w w') := Lib.hid fun w p F h hv => by
    have := sheader_any H w p F aw1 1 h g1 hv (by unfold I63; omega); rwa [e3] at this
  have H4 : Hid (∀ w p F, DK w p F aw1 → Calls Tryz.prog 26 #[ptr p] w fun e w' => e = .returned (.int .i64 4) ∧ Below w.heap.size w w') := Lib.hid fun w p F h => by
    have := H.ops w p F aw1 h g1; rwa [e2] at this
  have H5 : Hid (∀ w p F, DK w p F aw1 → VT w → Calls Tryz.prog 25 #[ptr p] w fun e w' => e = .returned (.int .u64 4) ∧ Below w.heap.size w w') := Lib.hid fun w p F h hv => by
    have := snewest_any H w p F aw1 h g1 hv; rwa [e4] at this
  clear g0 g1 e1 e2 e3 e4 hvt
  go_enter Tryz.func6, Tryz.ntmps6
  go_wp2_with (first
    | (go_at_call 7; (with_reducible refine (H1.out _).mono ?_); rintro e w1 ⟨p, F1, rfl, k1, x1⟩; have K1 := Lib.hid k1; have X1 := Lib.hid x1; clear k1 x1)
    | (refine wpl_store_newH rfl _ _ rfl rfl w1.heap.size rfl hA rfl rfl rfl ?_; intro w2 HA2 HB2; have K2 := Lib.hid (hH.out.below K1.out HB2.out); have X2 := Lib.hid (X1.out.trans (Ext.below HB2.out)))
    | (refine wpl_load_hd (by rfl) (.tmp 2) rfl rfl HA2.out ?_)
    | (go_at_call 9; (with_reducible refine (H2.out _ _ _ K2.out X2.out).mono ?_); rintro e w3 ⟨F3, rfl, k3, x3⟩; have K3 := Lib.hid k3; have X3 := Lib.hid (X2.out.trans x3); have HA3 := Lib.hid (show HB w3 w1.heap.size hA from ⟨(x3.block _ HA2.out.lt (foot_off (hH.out.foot K1.out) (Nat.le_refl _))).trans HA2.out.1, HA2.out.2⟩); clear k3 x3)
    | (go_at_call 23; (with_reducible refine (H3.out _ _ _ K3.out (HV.out.ext X3.out)).mono ?_); rintro e w4 ⟨rfl, b4⟩; have K4 := Lib.hid (hH.out.below K3.out b4); have X4 := Lib.hid (X3.out.trans (Ext.below b4)); have HA4 := Lib.hid (HA3.out.keep b4); clear b4)
    | (refine wpl_store_newH rfl _ _ rfl rfl w4.heap.size rfl hA rfl rfl rfl ?_; intro w5 HC5 HB5; have K5 := Lib.hid (hH.out.below K4.out HB5.out); have X5 := Lib.hid (X4.out.trans (Ext.below HB5.out)); have HA5 := Lib.hid (HA4.out.keep HB5.out))
    | (refine wpl_load_hd (by rfl) (.tmp 4) rfl rfl HC5.out ?_)
    | (refine wpl_load_hd (by rfl) (.tmp 2) rfl rfl HA5.out ?_)
    | (refine wpl_eq_hd (.tmp 23) (.tmp 24) _ rfl hA_typed.n hA_typed.n rfl rfl (by rfl) ?_; rw [show decide (hA = hA) = true from by simp])
    | (go_at_call 26; (with_reducible refine (H4.out _ _ _ K5.out).mono ?_); rintro e w6 ⟨rfl, b6⟩; have K6 := Lib.hid (hH.out.below K5.out b6); have X6 := Lib.hid (X5.out.trans (Ext.below b6)); clear b6)
    | (go_at_call 25; (with_reducible refine (H5.out _ _ _ K6.out (HV.out.ext X6.out)).mono ?_); rintro e w7 ⟨rfl, b7⟩; have X7 := Lib.hid (X6.out.trans (Ext.below b7)); clear b7))
  go_ret
  exact ⟨rfl, X7.out.bel⟩
end Go.Proofs.YtpoiapfgbbmekaaGreatDoor
