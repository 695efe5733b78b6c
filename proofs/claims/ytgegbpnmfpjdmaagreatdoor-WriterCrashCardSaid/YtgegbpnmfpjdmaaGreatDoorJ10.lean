/-
  TEXTS JOINED: DkNil, DkSays, PoolMath, SegMath, SegFreshM, WrMath, CutGather. Each one's own words stand at its head.
-/
import Derived.Test.YtgegbpnmfpjdmaaGreatDoorJ9
import Derived.Test.YtgegbpnmfpjdmaaGreatDoorJ6
import Derived.Test.YtgegbpnmfpjdmaaGreatDoorJ11
import Derived.Test.YtgegbpnmfpjdmaaGreatDoorJ12
import Derived.Test.YtgegbpnmfpjdmaaGreatDoorJ13
import Derived.Lib.MinMax
namespace Go.Proofs.YtgegbpnmfpjdmaaGreatDoor
open Go.RowKit
end Go.Proofs.YtgegbpnmfpjdmaaGreatDoor
namespace Go.Proofs.YtgegbpnmfpjdmaaGreatDoor
open Go.RowKit
theorem Calm.of_L {d d' : AD} (h : Calm d) (hl : d'.L = d.L) : Calm d' := by unfold Calm at *; rw [hl]; exact h
theorem Calm.op {d : AD} (h : Calm d) : Calm d.opd := h.of_L d.opd_L
theorem Calm.without {d : AD} (h : Calm d) (s : ByteArray) : Calm (d.without s) := fun f hf => h f (mem_without.1 hf).1
theorem Calm.put {d : AD} (h : Calm d) {f : AF} (hf : CalmF f) : Calm (d.withF f) := by
  intro g hg
  rcases mem_ins.1 hg with rfl | hg
  · exact hf
  · exact h g (mem_without.1 hg).1
theorem opR_calm {d : AD} (h : Calm d) (g : AD → AD) (hg : ∀ x : AD, x = d.opd → Calm x → Calm (g x)) : Calm (d.opR g).1 := by
  unfold AD.opR
  split
  · exact h.op
  · exact hg _ rfl h.op
theorem calm_new (s : ByteArray) (n : Nat) : CalmF (newF s n) := fun _ _ _ => rfl
theorem Calm.make {d : AD} (h : Calm d) (s : ByteArray) (n : Int) : Calm (d.makeR s n).1 := by
  unfold AD.makeR
  split
  · exact h
  split
  · exact h
  split
  · exact h
  split
  · exact h
  split
  · exact h
  · exact opR_calm h _ fun x _ hx => hx.put (calm_new _ _)
theorem Calm.sync {d : AD} (h : Calm d) (s : ByteArray) : Calm (d.syncR s).1 := by
  unfold AD.syncR
  split
  · exact h
  split
  · exact h
  · exact opR_calm h _ fun x _ hx => hx.put fun _ _ _ => rfl
theorem Calm.fail {d : AD} (h : Calm d) (n : Int) : Calm (d.failR n).1 := by
  unfold AD.failR
  split
  · exact h
  split
  · exact h
  · exact h
theorem Calm.rename {d : AD} (h : Calm d) (s t : ByteArray) : Calm (d.renameR s t).1 := by
  unfold AD.renameR
  split
  · exact h
  split
  · exact h
  rename_i hh
  split
  · exact h
  split
  · exact h
  · have hcf : CalmF (d.get s) := h _ (get_mem (Decidable.not_not.1 hh))
    exact opR_calm h _ fun x _ hx => (hx.without s).put (fun i hi hw => hcf i hi hw)
theorem calm_written {f : AF} (h : CalmF f) (p m : Nat) (fs : List Int) (hf : fs.length = m * 64) (hs : f.seen.length = f.n * 64) (hw : f.ws.length = f.n) (hp : p + m ≤ f.n) : CalmF (f.written p m fs) := by
  intro i hi hwi
  have h1 := wrS2_all f p m fs hf hs hw hp
  have h2 := wrS2_get f p fs m i hi
  rw [h1, secsOf_get (f.written p m fs) i hi] at h2
  by_cases hc : p ≤ i ∧ i < p + m
  · rw [if_pos hc] at h2
    simp only [Option.some.injEq, Sc.mk.injEq] at h2
    rw [h2.2.2] at hwi; simp at hwi
  · rw [if_neg hc] at h2
    simp only [Option.some.injEq, Sc.mk.injEq] at h2
    rw [h2.2.1, h2.1]
    exact h i hi (by rw [← h2.2.2]; exact hwi)
theorem Calm.write {d : AD} (h : Calm d) (hg : Good d) (s : ByteArray) (at_ : Int) (m : Nat) (fs : List Int) (hf : fs.length = m * 64) : Calm (d.writeR s at_ m fs).1 := by
  unfold AD.writeR
  split
  · exact h
  split
  · exact h
  rename_i hh
  split
  · exact h
  rename_i hc
  have hm := get_mem (Decidable.not_not.1 hh)
  have hgf := hg.file _ hm
  exact opR_calm h _ fun x _ hx => hx.put (calm_written (h _ hm) at_.toNat m fs hf hgf.seen hgf.ws (by omega))
theorem Calm.crash (d : AD) (kb : List Int) (torn cut : Int) : Calm (d.crashR kb torn cut) := by
  intro f hf
  have : ∀ k, ∀ f ∈ (crL kb torn cut d.L k).1, CalmF f := by
    intro k
    induction k with
    | zero => intro f hf; simp [crL] at hf
    | succ k ih =>
      intro f hf
      cases hq : d.L[k]? with
      | none => simp only [crL, hq] at hf; exact ih f hf
      | some g =>
        rw [crL_step kb torn cut d.L k g hq] at hf
        rcases List.mem_append.1 hf with hf | hf
        · exact ih f hf
        · simp only [List.mem_singleton] at hf
          subst hf
          intro _ _ _; rfl
  exact this _ f hf
def DKq (w : World) (p : Addr) (F : Nat → Bool) (d : AD) : Prop := DKp w p F d ∧ Calm d
theorem disk_says : DiskSays DKq where
  keep h hs hk := ⟨h.1.keep hs hk, h.2⟩
  foot h := h.1.1
  new c w hc := (pnew_any c w hc).mono (by
    rintro e w' ⟨b, bm, rfl, hl⟩
    obtain ⟨F, h1, h2⟩ := hl.dkp
    exact ⟨_, F, rfl, ⟨h1, fun f hf => by simp [AD.newD] at hf⟩, h2⟩)
  make w p F d s n h hg hs hn := (kmake_any w p F d s n h.1 hg hs hn).mono (by
    rintro e w' ⟨F', rfl, h1, h2⟩; exact ⟨F', rfl, ⟨h1, h.2.make s n⟩, h2⟩)
  write w p F d s at_ v m fs h hg hs ha hf _ hm := (kwrite_any w p F d s at_ v m fs h.1 hg hs ha hf hm).mono (by
    rintro e w' ⟨F', rfl, h1, h2⟩; exact ⟨F', rfl, ⟨h1, h.2.write hg s at_ m fs hf.length⟩, h2⟩)
  sync w p F d s h hg hs := (ksync_any w p F d s h.1 hg hs).mono (by
    rintro e w' ⟨F', rfl, h1, h2⟩; exact ⟨F', rfl, ⟨h1, h.2.sync s⟩, h2⟩)
  rename w p F d s t h hg hs ht := (krename_any w p F d s t h.1 hg hs ht).mono (by
    rintro e w' ⟨F', rfl, h1, h2⟩; exact ⟨F', rfl, ⟨h1, h.2.rename s t⟩, h2⟩)
  crash w p F d v len kb torn cut h hg hv hkb ht hc := (kcrash_any w p F d v len kb torn cut h.1 hg h.2 hv hkb ht hc).mono (by
    rintro e w' ⟨F', rfl, h1, h2⟩; exact ⟨F', rfl, ⟨h1, Calm.crash d kb torn cut⟩, h2⟩)
  read w p F d s at_ n h hg hs ha hn := kread_any w p F d s at_ n h.1 hg hs ha hn
  size w p F d s h hg hs := by
    obtain ⟨⟨_, b, bm, l, rfl, hd, _⟩, _⟩ := h
    exact (psize_any w b bm l d s hd hs).mono (by rintro e w' ⟨rfl, rfl⟩; exact ⟨rfl, Below.refl _ _⟩)
  list w p F d h hg := by
    obtain ⟨⟨_, b, bm, l, rfl, hd, _⟩, _⟩ := h
    exact plist_any w b bm l d hd hg
  used w p F d h hg := by
    obtain ⟨⟨_, b, bm, l, rfl, hd, _⟩, _⟩ := h
    exact pused_any w b bm l d hd hg
  waiting w p F d h hg := by
    obtain ⟨⟨_, b, bm, l, rfl, hd, _⟩, _⟩ := h
    exact pWaiting_any w b bm l d hd hg
  down w p F d h _ := by
    obtain ⟨⟨_, b, bm, l, rfl, hd, _⟩, _⟩ := h
    exact (pdown_any w b bm l d hd).mono (by rintro e w' ⟨rfl, rfl⟩; exact ⟨rfl, Below.refl _ _⟩)
end Go.Proofs.YtgegbpnmfpjdmaaGreatDoor
namespace Go.Proofs.YtgegbpnmfpjdmaaGreatDoor
open Go.RowKit
def szI (d : AD) (s : ByteArray) : Int := if d.has s then ((d.get s).n : Int) else 0
abbrev noS : ByteArray := ⟨#[]⟩
abbrev fr0 : ByteArray := ⟨#[102, 114, 101, 101, 45, 48]⟩
abbrev fr1 : ByteArray := ⟨#[102, 114, 101, 101, 45, 49]⟩
abbrev fr2 : ByteArray := ⟨#[102, 114, 101, 101, 45, 50]⟩
def frN (k : Nat) : ByteArray := if k = 0 then fr0 else if k = 1 then fr1 else fr2
def firstI (d : AD) (n : Int) : ByteArray := if szI d fr1 = n then fr1 else if szI d fr2 = n then fr2 else noS
def AD.takeR (d : AD) : AD × ByteArray × Int :=
  if d.down = true then (d, noS, 9) else if firstI d 17 ≠ noS then (d, firstI d 17, 0) else if firstI d 0 = noS then (d, noS, 6)
  else if (d.makeR (firstI d 0) 17).2 = 0 then ((d.makeR (firstI d 0) 17).1, firstI d 0, 0) else ((d.makeR (firstI d 0) 17).1, noS, (d.makeR (firstI d 0) 17).2)
theorem sz_le {d : AD} (h : Good d) (s : ByteArray) : 0 ≤ szI d s ∧ szI d s ≤ 64 := by
  unfold szI
  split
  · rename_i hh
    have := (h.file _ (get_mem hh)).n64
    omega
  · omega
theorem first_size (d : AD) (n : Int) : (firstI d n).size ≤ 281474976710656 := by
  unfold firstI
  split
  · decide
  split <;> decide
theorem first_or (d : AD) (n : Int) : firstI d n = noS ∨ firstI d n = fr1 ∨ firstI d n = fr2 := by
  unfold firstI
  split
  · exact .inr (.inl rfl)
  split
  · exact .inr (.inr rfl)
  · exact .inl rfl
theorem frN_size (k : Nat) : (frN k).size ≤ 281474976710656 := by
  unfold frN
  split
  · decide
  split <;> decide
theorem Good.take {d : AD} (h : Good d) : Good d.takeR.1 := by
  unfold AD.takeR
  split
  · exact h
  split
  · exact h
  split
  · exact h
  split
  · exact h.make _ _
  · exact h.make _ _
end Go.Proofs.YtgegbpnmfpjdmaaGreatDoor
namespace Go.Proofs.YtgegbpnmfpjdmaaGreatDoor
open Go.RowKit
def walB (n : Int) : ByteArray := ⟨(walN n).toArray⟩
def layL (h : Hdr) (m : Nat) (fs : List Int) : List Int := secH h ++ fs ++ List.replicate ((16 - m) * 64) 0
def AD.laidR (d : AD) (s : ByteArray) (l : List Int) : AD × Int := if (d.writeR s 0 17 l).2 = 0 then (d.writeR s 0 17 l).1.syncR s else d.writeR s 0 17 l
def AD.prepR (d : AD) (s : ByteArray) (h : Hdr) (m : Nat) (fs : List Int) : AD × Int :=
  if hdOk h = false ∨ 16 < m then (d, 13) else if d.down = true then (d, 9) else if ¬ d.has s then (d, 7) else if (d.get s).n ≠ 17 then (d, 4) else d.laidR s (layL h m fs)
def AD.beginT (d : AD) (h : Hdr) (t : ByteArray) : AD × Int :=
  if hdOk h = false then (d, 13) else if d.down = true then (d, 9) else if d.has t then (d, 8)
  else if d.takeR.2.2 = 0 then (if (d.takeR.1.prepR d.takeR.2.1 h 0 []).2 = 0 then (d.takeR.1.prepR d.takeR.2.1 h 0 []).1.renameR d.takeR.2.1 t else d.takeR.1.prepR d.takeR.2.1 h 0 [])
  else (d.takeR.1, d.takeR.2.2)
def AD.beginR (d : AD) (h : Hdr) : AD × Int := d.beginT h (walB h.s)
def fstI (l : List Int) : Hdr × Int := headD (l.take 64)
def headI (d : AD) (q : Int) : Hdr × Int :=
  if walB q = noS then (noH, 13) else if d.down = true then (noH, 9) else if ¬ d.has (walB q) then (noH, 7)
  else if (d.get (walB q)).n ≠ 17 ∨ (fstI (d.get (walB q)).seen).2 ≠ 0 ∨ (fstI (d.get (walB q)).seen).1.s ≠ q then (noH, 12) else ((fstI (d.get (walB q)).seen).1, 0)
def dataI (d : AD) (q : Int) : List Int := (d.get (walB q)).seen.drop 64
theorem bytes_isB {l : List Int} (h : Bytes l) : isB l := (bytes_iff l).1 h
theorem isB_bytes {l : List Int} (h : isB l) : Bytes l := (bytes_iff l).2 h
theorem fstI_typed {l : List Int} (h : Bytes l) : HdT (fstI l).1 := headD_typed ((bytes_isB h).take 64)
theorem str_empty {s : ByteArray} (h : s ≠ noS) : (s.toList == ([] : List UInt8)) = false := by
  rw [beq_eq_false_iff_ne]
  intro e
  rw [Lib.toList_data] at e
  exact h (ByteArray.ext (Array.toList_eq_nil_iff.1 e))
theorem wal_size (n : Int) (h0 : -9223372036854775808 ≤ n) (h1 : n ≤ 9223372036854775807) : (walB n).size ≤ 281474976710656 := by
  show (walN n).toArray.size ≤ _
  have := itoa_short h0 h1
  unfold walN
  split
  · simp only [List.size_toArray, List.length_cons]; omega
  · simp
theorem wal_in {n : Int} (h1 : 1 ≤ n) (h2 : n ≤ 2147483647) : walB n ≠ noS := by
  intro h
  have h3 := congrArg (fun s : ByteArray => s.data.toList) h
  have h4 : walN n = [] := h3
  rw [walN_in h1 h2] at h4
  simp at h4
theorem wal_right {n : Int} (h1 : 1 ≤ n) (h2 : n ≤ 2147483647) : rightB (walB n) = true := name_wal h1 h2
theorem fr_pool : fr1 = ⟨(poolN 1).toArray⟩ ∧ fr2 = ⟨(poolN 2).toArray⟩ := by
  have e1 : Lib.itoa 1 = [49] := by rw [show (1 : Int) = ((1 : Nat) : Int) from rfl, itoa_nat, Lib.decDigits_one (by omega)]; rfl
  have e2 : Lib.itoa 2 = [50] := by rw [show (2 : Int) = ((2 : Nat) : Int) from rfl, itoa_nat, Lib.decDigits_one (by omega)]; rfl
  rw [poolN_in (by omega) (by omega), poolN_in (by omega) (by omega), e1, e2]
  exact ⟨rfl, rfl⟩
theorem wal_ne_fr {n : Int} (h1 : 1 ≤ n) (h2 : n ≤ 2147483647) {s : ByteArray} (hs : s = fr1 ∨ s = fr2) : s ≠ walB n := by
  intro h
  rcases hs with rfl | rfl
  · rw [fr_pool.1] at h
    exact pool_ne_wal (m := 1) (by omega) (by omega) h1 h2 (congrArg (fun s : ByteArray => s.data.toList) h)
  · rw [fr_pool.2] at h
    exact pool_ne_wal (m := 2) (by omega) (by omega) h1 h2 (congrArg (fun s : ByteArray => s.data.toList) h)
theorem layL_length {h : Hdr} (hn : h.l.length = 4) {m : Nat} (hm : m ≤ 16) {fs : List Int} (hf : fs.length = m * 64) : (layL h m fs).length = 17 * 64 := by
  unfold layL
  rw [List.length_append, List.length_append, secH_length hn, hf, List.length_replicate]
  omega
theorem layL_bytes (h : Hdr) (m : Nat) {fs : List Int} (hf : Bytes fs) : Bytes (layL h m fs) := ((isB_bytes (secH_bytes h)).app hf).app (Bytes.zeros _)
theorem Good.laid {d : AD} (h : Good d) (s : ByteArray) (l : List Int) (hl : l.length = 17 * 64) (hb : Bytes l) : Good (d.laidR s l).1 := by
  unfold AD.laidR
  split
  · exact (h.write s 0 17 l hl hb).sync s
  · exact h.write s 0 17 l hl hb
theorem Good.prep {d : AD} (h : Good d) (s : ByteArray) {x : Hdr} (hx : HdT x) {m : Nat} {fs : List Int} (hf : fs.length = m * 64) (hb : Bytes fs) : Good (d.prepR s x m fs).1 := by
  unfold AD.prepR
  split
  · exact h
  rename_i hk
  split
  · exact h
  split
  · exact h
  split
  · exact h
  · exact h.laid s _ (layL_length hx.n (by omega) hf) (layL_bytes x m hb)
theorem bytes_nil : Bytes [] := fun j => by simp
theorem Good.begin {d : AD} (h : Good d) {x : Hdr} (hx : HdT x) : Good (d.beginR x).1 := by
  unfold AD.beginR AD.beginT
  have hp := h.take.prep d.takeR.2.1 hx (m := 0) (fs := []) rfl bytes_nil
  split
  · exact h
  split
  · exact h
  split
  · exact h
  split
  · split
    · exact hp.rename _ _
    · exact hp
  · exact h.take
end Go.Proofs.YtgegbpnmfpjdmaaGreatDoor
namespace Go.Proofs.YtgegbpnmfpjdmaaGreatDoor
open Go.RowKit
end Go.Proofs.YtgegbpnmfpjdmaaGreatDoor
namespace Go.Proofs.YtgegbpnmfpjdmaaGreatDoor
open Go.RowKit
def lone (nm : ByteArray) (las seen : List Int) (ws : List Bool) (o : Int) : AD := ⟨[⟨nm, 17, las, seen, ws⟩], 17, o, false, false, 0⟩
def fs17 : List Bool := List.replicate 17 false
section
variable {nm : ByteArray} {las seen : List Int} {ws : List Bool} {o : Int}
theorem lone_idx : idxN (lone nm las seen ws o).L nm = 0 := by simp [lone, idxN, List.findIdx_cons]
theorem lone_has : (lone nm las seen ws o).has nm := by unfold AD.has; rw [lone_idx]; simp [lone]
theorem lone_get : (lone nm las seen ws o).get nm = ⟨nm, 17, las, seen, ws⟩ := by unfold AD.get; rw [lone_idx]; simp [lone]
theorem lone_op (g : AD → AD) : (lone nm las seen ws o).opR g = (g (lone nm las seen ws (wrap64 (o + 1))), 0) := by
  rw [AD.opR_done _ _ (by simp [AD.ope, lone])]; simp [AD.opd, lone]
theorem lone_without : (lone nm las seen ws o).without nm = ⟨[], 17, o, false, false, 0⟩ := by simp [AD.without, lone, withoutF]
theorem lone_with (f : AF) (hf : f.name = nm) : (lone nm las seen ws o).withF f = ⟨[f], 17, o, false, false, 0⟩ := by
  simp [AD.withF, lone, withoutF, hf, insF, insK]
theorem lone_write (k d : Nat) (hk : k + d ≤ 17) (fs : List Int) : (lone nm las seen ws o).writeR nm (k : Int) d fs =
    (lone nm las (seen.take (k * 64) ++ fs ++ seen.drop (k * 64 + d * 64)) (ws.take k ++ List.replicate d true ++ ws.drop (k + d)) (wrap64 (o + 1)), 0) := by
  unfold AD.writeR
  rw [if_neg (by simp [lone]), if_neg (Decidable.not_not.2 lone_has), lone_get, if_neg (by simp only; omega), lone_op, lone_with (nm := nm) _ rfl]
  rfl
theorem lone_write0 (l : List Int) (hs : seen.length = 17 * 64) (hw : ws.length = 17) : (lone nm las seen ws o).writeR nm 0 17 l = (lone nm las l (List.replicate 17 true) (wrap64 (o + 1)), 0) := by
  have h := lone_write (nm := nm) (las := las) (seen := seen) (ws := ws) (o := o) 0 17 (by omega) l
  rw [Nat.zero_mul, Nat.zero_add, Nat.zero_add, List.take_zero, List.take_zero, List.drop_of_length_le (by omega), List.drop_of_length_le (by omega), List.nil_append, List.nil_append, List.append_nil, List.append_nil] at h
  exact h
theorem lone_sync : (lone nm las seen ws o).syncR nm = (lone nm seen seen fs17 (wrap64 (o + 1)), 0) := by
  unfold AD.syncR
  rw [if_neg (by simp [lone]), if_neg (Decidable.not_not.2 lone_has), lone_get, lone_op, lone_with (nm := nm) _ rfl]
  rfl
theorem lone_rename (t : ByteArray) (ht : rightB t = true) (hne : nm ≠ t) : (lone nm las seen ws o).renameR nm t = (lone t las seen ws (wrap64 (o + 1)), 0) := by
  unfold AD.renameR
  rw [if_neg (by simp [lone]), if_neg (Decidable.not_not.2 lone_has), if_neg (by rw [ht]; simp), if_neg hne, lone_get, lone_op, lone_without]
  simp [AD.withF, withoutF, insF, insK, lone]
theorem lone_waits : waitingN (lone nm las seen ws o).L = waitsN ws := by simp [lone, waitingN]
theorem lone_crash (kb : List Int) (torn cut : Int) : (lone nm las seen ws o).crashR kb torn cut = lone nm (crS kb torn cut ⟨nm, 17, las, seen, ws⟩ 0 17).1 (crS kb torn cut ⟨nm, 17, las, seen, ws⟩ 0 17).1 fs17 o := rfl
end
theorem lone_tells {h : Hdr} (hT : HdT h) (hk : hdOk h = true) (las X : List Int) (ws : List Bool) (o : Int) :
    headI (lone (walB h.s) las (secH h ++ X) ws o) h.s = (h, 0) ∧ dataI (lone (walB h.s) las (secH h ++ X) ws o) h.s = X := by
  have hp := hdOk_parts hk
  have hl := secH_length (h := h) hT.n
  have hf : fstI (secH h ++ X) = (h, 0) := by
    unfold fstI
    rw [List.take_append_of_le_length (by omega), List.take_of_length_le (by omega)]
    exact hd_got hT hk
  constructor
  · unfold headI
    rw [if_neg (wal_in hp.2.1.1 hp.2.1.2), if_neg (by simp [lone]), if_neg (Decidable.not_not.2 lone_has), lone_get]
    simp only [hf]
    rw [if_neg (by simp)]
  · unfold dataI
    rw [lone_get]
    show (secH h ++ X).drop 64 = X
    rw [← hl, List.drop_left]
theorem take_new : (AD.newD 17).takeR = (lone fr1 (List.replicate (17 * 64) 0) (List.replicate (17 * 64) 0) fs17 1, fr1, 0) := by kernel_rfl
theorem lone_begin {h : Hdr} (hT : HdT h) (hk : hdOk h = true) : (AD.newD 17).beginR h = (lone (walB h.s) (layL h 0 []) (layL h 0 []) fs17 4, 0) := by
  have hp := hdOk_parts hk
  have hl := layL_length hT.n (m := 0) (by omega) (fs := []) rfl
  unfold AD.beginR AD.beginT
  rw [if_neg (by rw [hk]; simp), if_neg (by simp [AD.newD]), if_neg (by simp [AD.has, AD.newD]), take_new]
  simp only [if_true]
  have hpr : (lone fr1 (List.replicate (17 * 64) 0) (List.replicate (17 * 64) 0) fs17 1).prepR fr1 h 0 [] = (lone fr1 (layL h 0 []) (layL h 0 []) fs17 3, 0) := by
    have hw := lone_write0 (nm := fr1) (las := List.replicate (17 * 64) 0) (seen := List.replicate (17 * 64) 0) (ws := fs17) (o := 1) (layL h 0 []) List.length_replicate List.length_replicate
    unfold AD.prepR AD.laidR
    rw [if_neg (fun q => q.elim (fun q => by rw [hk] at q; cases q) (fun q => absurd q (by omega))), if_neg (show ¬ (lone fr1 (List.replicate (17 * 64) 0) (List.replicate (17 * 64) 0) fs17 1).down = true from Bool.false_ne_true), if_neg (Decidable.not_not.2 lone_has), if_neg (by rw [lone_get]; exact fun q => q rfl), hw, if_pos rfl, lone_sync]
    rw [show wrap64 (wrap64 (1 + 1) + 1) = 3 from by kernel_rfl]
  rw [hpr]
  simp only [if_true]
  rw [lone_rename _ (wal_right hp.2.1.1 hp.2.1.2) (wal_ne_fr hp.2.1.1 hp.2.1.2 (.inl rfl)), show wrap64 (3 + 1) = 4 from by kernel_rfl]
noncomputable def fitS (acc : List (List Int)) (z : List Int) : List (List Int) := if fitI (endF acc : Nat) z.length = true then acc ++ [z] else acc
noncomputable def fitF (ls : List (List Int)) : List (List Int) := ls.foldl fitS []
theorem fitF_snoc (ls : List (List Int)) (z : List Int) : fitF (ls ++ [z]) = fitS (fitF ls) z := by simp [fitF]
theorem fitF_next (ls : List (List Int)) (k : Nat) (hk : k < ls.length) : fitF (ls.take (k + 1)) = fitS (fitF (ls.take k)) (ls.getD k []) := by rw [take_next ls k hk, fitF_snoc]
theorem fitS_yes {acc : List (List Int)} {z : List Int} (h : fitI (endF acc : Nat) z.length = true) : fitS acc z = acc ++ [z] := if_pos h
theorem fitS_fits {acc : List (List Int)} (h : fitsF acc = true) (z : List Int) : fitsF (fitS acc z) = true := by
  unfold fitS
  split
  · rename_i hz
    rw [fitsF_snoc, h, hz]; rfl
  · exact h
theorem fitF_fits (ls : List (List Int)) : ∀ k, k ≤ ls.length → fitsF (fitF (ls.take k)) = true
  | 0, _ => rfl
  | k + 1, h => by rw [fitF_next ls k (by omega)]; exact fitS_fits (fitF_fits ls k (by omega)) _
theorem fitF_all {ls : List (List Int)} (h : GoodF ls ls.length) : ∀ k, k ≤ ls.length → fitF (ls.take k) = ls.take k
  | 0, _ => rfl
  | k + 1, hk => by
    have ih := fitF_all h k (by omega)
    rw [fitF_next ls k (by omega), ih, fitS_yes (h k (by omega)), ← take_next ls k (by omega)]
theorem sec_all {L M : List Int} {n : Nat} (hL : L.length = n * 64) (hM : M.length = n * 64) (h : ∀ i, i < n → secOf L i = secOf M i) : L = M := by
  refine List.ext_getElem (by omega) fun q h1 h2 => ?_
  have hq : q / 64 * 64 + q % 64 = q := by omega
  have e := congrArg (fun l => l[q % 64]?) (h (q / 64) (by omega))
  simp only [secOf, List.getElem?_take, show q % 64 < 64 by omega, if_true, List.getElem?_drop, hq] at e
  rw [List.getElem?_eq_getElem h1, List.getElem?_eq_getElem h2] at e
  exact Option.some.inj e
theorem secOf_left {P Q : List Int} {n i : Nat} (hP : P.length = n * 64) (hi : i < n) : secOf (P ++ Q) i = secOf P i := by
  unfold secOf
  rw [List.drop_append_of_le_length (by omega), List.take_append_of_le_length (by simp; omega)]
theorem secOf_right {P Q : List Int} {n : Nat} (hP : P.length = n * 64) (i : Nat) : secOf (P ++ Q) (n + i) = secOf Q i := by
  unfold secOf
  rw [show (n + i) * 64 = P.length + i * 64 from by omega, List.drop_append, List.drop_of_length_le (by omega), List.nil_append, Nat.add_sub_cancel_left]
theorem secOf_take (L : List Int) (n i : Nat) (hi : i < n) : secOf (L.take (n * 64)) i = secOf L i := by
  unfold secOf
  rw [List.drop_take, List.take_take, Nat.min_eq_left (by omega)]
theorem secOf_drop (L : List Int) (n i : Nat) : secOf (L.drop (n * 64)) i = secOf L (n + i) := by
  unfold secOf
  rw [List.drop_drop, show n * 64 + i * 64 = (n + i) * 64 from by omega]
theorem secOf_write (x : Int) (body : List Int) (a i : Nat) : ∀ d, i < d → secOf (writeB x body a d) i = sealed x ((a + i : Nat) : Int) (partB body (a + i))
  | 0, h => absurd h (by omega)
  | d + 1, h => by
    have hl := writeB_length x body a d
    rw [writeB]
    by_cases hid : i < d
    · rw [secOf_left hl hid]; exact secOf_write x body a i d hid
    · obtain rfl : i = d := by omega
      have := secOf_right (Q := sealed x ((a + i : Nat) : Int) (partB body (a + i))) hl 0
      rw [Nat.add_zero] at this
      rw [this]
      unfold secOf
      rw [Nat.zero_mul, List.drop_zero, List.take_of_length_le (by rw [sealed_length]; exact Nat.le_refl _)]
theorem partB_same {B B' : List Int} {e i : Nat} (h : B'.take e = B.take e) (hi : 52 * (i + 1) ≤ e) : partB B' i = partB B i := by
  have q : ∀ L : List Int, partB L i = ((L.take e).drop (52 * i)).take 52 := fun L => by
    unfold partB
    rw [List.drop_take, List.take_take, Nat.min_eq_left (by omega)]
  rw [q, q, h]
theorem touch_end (e i : Nat) : i < (touchN 0 e).2 ↔ 52 * i < e := by
  unfold touchN
  split
  · show i < (e - 1) / 52 + 1 ↔ _
    omega
  · show i < 0 ↔ _
    omega
theorem whole_step (x : Int) {B B' : List Int} {E E' : Nat} (hE : E < E') (h8 : E' ≤ 832) (hpre : B'.take E = B.take E) (a d : Nat) (ha : a = E / 52) (hd : a + d = (E' - 1) / 52 + 1) :
    (wholeK x B (touchN 0 E).2 16).take (a * 64) ++ writeB x B' a d ++ (wholeK x B (touchN 0 E).2 16).drop ((a + d) * 64) = wholeK x B' (touchN 0 E').2 16 := by
  have hl := wholeK_length x B (touchN 0 E).2 16
  have hl2 := wholeK_length x B' (touchN 0 E').2 16
  have hw := writeB_length x B' a d
  have had : a + d ≤ 16 := by omega
  have h1 : ((wholeK x B (touchN 0 E).2 16).take (a * 64)).length = a * 64 := by rw [List.length_take]; omega
  have h2 : ((wholeK x B (touchN 0 E).2 16).take (a * 64) ++ writeB x B' a d).length = (a + d) * 64 := by rw [List.length_append]; omega
  refine sec_all (n := 16) (by rw [List.length_append, h2, List.length_drop]; omega) hl2 fun i hi => ?_
  rw [secOf_whole x B' _ i 16 hi]
  have t1 := touch_end E i
  have t2 := touch_end E' i
  by_cases c1 : i < a
  · rw [secOf_left h2 (by omega), secOf_left h1 c1, secOf_take _ _ _ c1, secOf_whole x B _ i 16 hi, if_pos (t1.2 (by omega)), if_pos (t2.2 (by omega)), partB_same hpre (by omega)]
  by_cases c2 : i < a + d
  · obtain ⟨j, rfl⟩ : ∃ j, i = a + j := ⟨i - a, by omega⟩
    rw [secOf_left h2 c2, secOf_right h1, secOf_write x B' a j d (by omega), if_pos (t2.2 (by omega))]
  · obtain ⟨j, rfl⟩ : ∃ j, i = (a + d) + j := ⟨i - (a + d), by omega⟩
    rw [secOf_right h2, secOf_drop, secOf_whole x B _ _ 16 hi, if_neg (fun q => absurd (t1.1 q) (by omega)), if_neg (fun q => absurd (t2.1 q) (by omega))]
theorem whole_step_h (x : Int) {H B B' : List Int} (hH : H.length = 64) {E E' : Nat} (hE : E < E') (h8 : E' ≤ 832) (hpre : B'.take E = B.take E) (a d : Nat) (ha : a = E / 52) (hd : a + d = (E' - 1) / 52 + 1) :
    (H ++ wholeK x B (touchN 0 E).2 16).take ((1 + a) * 64) ++ writeB x B' a d ++ (H ++ wholeK x B (touchN 0 E).2 16).drop ((1 + a) * 64 + d * 64) = H ++ wholeK x B' (touchN 0 E').2 16 := by
  rw [← whole_step x hE h8 hpre a d ha hd]
  rw [show (1 + a) * 64 + d * 64 = H.length + (a + d) * 64 from by omega, show (1 + a) * 64 = H.length + a * 64 from by omega, List.take_append, List.drop_append, List.drop_of_length_le (show H.length ≤ H.length + (a + d) * 64 from by omega), List.take_of_length_le (show H.length ≤ H.length + a * 64 from by omega)]
  simp [List.append_assoc]
end Go.Proofs.YtgegbpnmfpjdmaaGreatDoor
namespace Go.Proofs.YtgegbpnmfpjdmaaGreatDoor
open Go.RowKit
structure GS (B : Nat) (W w : World) (g0 g1 g2 g3 : Nat) (p f n : Int) (v : Value) (m : Nat) (l : List PC) : Prop where
  below : Below B W w
  base : B ≤ W.heap.size
  ge : B ≤ g0 ∧ B ≤ g1 ∧ B ≤ g2 ∧ B ≤ g3
  ne : g0 ≠ g1 ∧ g0 ≠ g2 ∧ g0 ≠ g3 ∧ g1 ≠ g2 ∧ g1 ≠ g3 ∧ g2 ≠ g3
  k0 : w.heap[g0]? = some (.cells #[.int .i64 p] 3 (0, 0))
  k1 : w.heap[g1]? = some (.cells #[.int .i64 f] 3 (0, 0))
  k2 : w.heap[g2]? = some (.cells #[.int .i64 n] 3 (0, 0))
  k3 : w.heap[g3]? = some (.cells #[v] 39 (0, 0))
  own : w.ownsRow B 83 4 v m (pF l)
section
variable {B : Nat} {W w w' : World} {g0 g1 g2 g3 : Nat} {p f n : Int} {v : Value} {m : Nat} {l : List PC}
theorem GS.keep (h : GS B W w g0 g1 g2 g3 p f n v m l) (hb : Below w.heap.size w w') : GS B W w' g0 g1 g2 g3 p f n v m l :=
  have lt {g : Nat} {o : Obj} (hk : w.heap[g]? = some o) : g < w.heap.size := (Array.getElem?_eq_some_iff.1 hk).1
  ⟨h.below.trans (hb.mono (Nat.le_trans h.base h.below.size)), h.base, h.ge, h.ne, (hb.block _ (lt h.k0)).trans h.k0, (hb.block _ (lt h.k1)).trans h.k1, (hb.block _ (lt h.k2)).trans h.k2, (hb.block _ (lt h.k3)).trans h.k3, own_keep h.own hb⟩
theorem GS.cells (h : GS B W w g0 g1 g2 g3 p f n v m l) : w.cell? ⟨g0, 0, none⟩ = some (.int .i64 p) ∧ w.cell? ⟨g1, 0, none⟩ = some (.int .i64 f) ∧ w.cell? ⟨g2, 0, none⟩ = some (.int .i64 n) ∧ w.cell? ⟨g3, 0, none⟩ = some v :=
  ⟨cell_of_row w g0 0 _ _ _ h.k0, cell_of_row w g1 0 _ _ _ h.k1, cell_of_row w g2 0 _ _ _ h.k2, cell_of_row w g3 0 _ _ _ h.k3⟩
theorem GS.frozen (h : GS B W w g0 g1 g2 g3 p f n v m l) : w.frozen? ⟨g0, 0, none⟩ = false ∧ w.frozen? ⟨g1, 0, none⟩ = false ∧ w.frozen? ⟨g3, 0, none⟩ = false :=
  ⟨Joins.unfrozen_of_block h.k0 0, Joins.unfrozen_of_block h.k1 0, Joins.unfrozen_of_block h.k3 0⟩
theorem own_not {g : Nat} {c : Array Value} {t : TypeId} (hk : w.heap[g]? = some (.cells c t (0, 0))) (ht : t ≠ 83) (h : w.ownsRow B 83 4 v m (pF l)) : some g ≠ v.ownBlock := by
  intro e
  rcases h.2 with ⟨rfl, _⟩ | ⟨q, cap, cur, rfl, _, hcur, _⟩
  · simp [Value.ownBlock] at e
  · simp only [Value.ownBlock, Option.some.injEq] at e
    subst e
    rw [hk] at hcur
    simp only [Option.some.injEq, Obj.cells.injEq] at hcur
    exact ht hcur.2.1
theorem set_apart {g b : Nat} {o : Option Obj} (hk : w.heap[g]? = o) (hne : g ≠ b) (x : Value) : (w.setCell ⟨b, 0, none⟩ x).heap[g]? = o := (heap_setCell_other w ⟨b, 0, none⟩ g x hne).trans hk
theorem grown_set (w : World) (g : Nat) (x : Value) : w.grownBy (w.setCell ⟨g, 0, none⟩ x) (some g) := ⟨rfl, rfl, rfl, by simp, fun i _ hne => heap_setCell_other w ⟨g, 0, none⟩ i x (fun e => hne (by rw [e]))⟩
theorem GS.set0 (h : GS B W w g0 g1 g2 g3 p f n v m l) (p' : Int) : GS B W (w.setCell ⟨g0, 0, none⟩ (.int .i64 p')) g0 g1 g2 g3 p' f n v m l := by
  have hne := h.ne
  exact ⟨bset h.below h.ge.1 h.base 0 _, h.base, h.ge, hne, Joins.block_setCell h.k0 _, set_apart h.k1 (Ne.symm hne.1) _, set_apart h.k2 (Ne.symm hne.2.1) _, set_apart h.k3 (Ne.symm hne.2.2.1) _,
    own_over h.own (grown_set w g0 _) (fun g hg e => own_not h.k0 (by decide) h.own (by rw [hg, e]))⟩
theorem GS.set1 (h : GS B W w g0 g1 g2 g3 p f n v m l) (f' : Int) : GS B W (w.setCell ⟨g1, 0, none⟩ (.int .i64 f')) g0 g1 g2 g3 p f' n v m l := by
  have hne := h.ne
  exact ⟨bset h.below h.ge.2.1 h.base 0 _, h.base, h.ge, hne, set_apart h.k0 hne.1 _, Joins.block_setCell h.k1 _, set_apart h.k2 (Ne.symm hne.2.2.2.1) _, set_apart h.k3 (Ne.symm hne.2.2.2.2.1) _,
    own_over h.own (grown_set w g1 _) (fun g hg e => own_not h.k1 (by decide) h.own (by rw [hg, e]))⟩
theorem GS.turn (h : GS B W w g0 g1 g2 g3 p f n v m l) {v' : Value} {m' : Nat} {l' : List PC} (ho : w'.ownsRow B 83 4 v' m' (pF l')) (hg : w.grownBy w' v.ownBlock) :
    GS B W (w'.setCell ⟨g3, 0, none⟩ v') g0 g1 g2 g3 p f n v' m' l' := by
  have hne := h.ne
  have lt {g : Nat} {o : Obj} (hk : w.heap[g]? = some o) : g < w.heap.size := (Array.getElem?_eq_some_iff.1 hk).1
  have k0 := (hg.block _ (lt h.k0) (own_not h.k0 (by decide) h.own)).trans h.k0
  have k1 := (hg.block _ (lt h.k1) (own_not h.k1 (by decide) h.own)).trans h.k1
  have k2 := (hg.block _ (lt h.k2) (own_not h.k2 (by decide) h.own)).trans h.k2
  have k3 := (hg.block _ (lt h.k3) (own_not h.k3 (by decide) h.own)).trans h.k3
  have hb : Below B W w' := h.below.grown hg (Nat.le_trans h.base h.below.size) (fun q hq => (h.own.lt q hq).1)
  exact ⟨bset hb h.ge.2.2.2 h.base 0 _, h.base, h.ge, hne, set_apart k0 hne.2.2.1 _, set_apart k1 hne.2.2.2.2.1 _, set_apart k2 hne.2.2.2.2.2 _, Joins.block_setCell k3 _,
    own_over ho (grown_set w' g3 _) (fun g hg e => own_not k3 (by decide) ho (by rw [hg, e]))⟩
theorem GS.mid (h : GS B W w g0 g1 g2 g3 p f n v m l) (hg : w.grownBy w' v.ownBlock) : w'.cell? ⟨g0, 0, none⟩ = some (.int .i64 p) ∧ w'.cell? ⟨g1, 0, none⟩ = some (.int .i64 f) ∧ w'.cell? ⟨g2, 0, none⟩ = some (.int .i64 n) ∧ w'.cell? ⟨g3, 0, none⟩ = some v ∧ w'.frozen? ⟨g3, 0, none⟩ = false := by
  have lt {g : Nat} {o : Obj} (hk : w.heap[g]? = some o) : g < w.heap.size := (Array.getElem?_eq_some_iff.1 hk).1
  have k0 := (hg.block _ (lt h.k0) (own_not h.k0 (by decide) h.own)).trans h.k0
  have k1 := (hg.block _ (lt h.k1) (own_not h.k1 (by decide) h.own)).trans h.k1
  have k2 := (hg.block _ (lt h.k2) (own_not h.k2 (by decide) h.own)).trans h.k2
  have k3 := (hg.block _ (lt h.k3) (own_not h.k3 (by decide) h.own)).trans h.k3
  exact ⟨cell_of_row w' g0 0 _ _ _ k0, cell_of_row w' g1 0 _ _ _ k1, cell_of_row w' g2 0 _ _ _ k2, cell_of_row w' g3 0 _ _ _ k3, Joins.unfrozen_of_block k3 0⟩
end
end Go.Proofs.YtgegbpnmfpjdmaaGreatDoor
