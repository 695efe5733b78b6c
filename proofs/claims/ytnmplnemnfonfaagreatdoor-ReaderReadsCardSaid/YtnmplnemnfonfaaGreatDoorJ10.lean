/-
  TEXTS JOINED: DkNil, DkSays, PoolMath, SegMath, Digits, PoolCode, NameVars. Each one's own words stand at its head.
-/
import Derived.Test.YtnmplnemnfonfaaGreatDoorJ9
import Derived.Test.YtnmplnemnfonfaaGreatDoorJ6
import Derived.Test.YtnmplnemnfonfaaGreatDoorJ19
import Derived.Test.YtnmplnemnfonfaaGreatDoorJ1
import Derived.Test.YtnmplnemnfonfaaGreatDoorJ7
import Derived.WalkLawsBesides
import Derived.WalkSpells
import Derived.Lib.ItoaLen
import Derived.Test.YtnmplnemnfonfaaGreatDoorJ0
namespace Go.Proofs.YtnmplnemnfonfaaGreatDoor
open Go.RowKit
end Go.Proofs.YtnmplnemnfonfaaGreatDoor
namespace Go.Proofs.YtnmplnemnfonfaaGreatDoor
open Go.RowKit
theorem Calm.of_L {d d' : AD} (h : Calm d) (hl : d'.L = d.L) : Calm d' := by unfold Calm at *; rw [hl]; exact h
theorem Calm.op {d : AD} (h : Calm d) : Calm d.opd := h.of_L d.opd_L
theorem Calm.without {d : AD} (h : Calm d) (s : ByteArray) : Calm (d.without s) := fun f hf => h f (mem_without.1 hf).1
theorem Calm.put {d : AD} (h : Calm d) {f : AF} (hf : CalmF f) : Calm (d.withF f) := by
  intro g hg
  rcases mem_ins.1 hg with rfl | hg
  · exact hf
  · exact h g (mem_without.1 hg).1
theorem opR_calm {d : AD} (h : Calm d) (g : AD → AD) (hg : ∀ x : AD, x = d.opd → Calm x → Calm (g x)) : Calm (d.opR g).1 := by
  unfold AD.opR
  split
  · exact h.op
  · exact hg _ rfl h.op
theorem calm_new (s : ByteArray) (n : Nat) : CalmF (newF s n) := fun _ _ _ => rfl
theorem Calm.make {d : AD} (h : Calm d) (s : ByteArray) (n : Int) : Calm (d.makeR s n).1 := by
  unfold AD.makeR
  split
  · exact h
  split
  · exact h
  split
  · exact h
  split
  · exact h
  split
  · exact h
  · exact opR_calm h _ fun x _ hx => hx.put (calm_new _ _)
theorem Calm.sync {d : AD} (h : Calm d) (s : ByteArray) : Calm (d.syncR s).1 := by
  unfold AD.syncR
  split
  · exact h
  split
  · exact h
  · exact opR_calm h _ fun x _ hx => hx.put fun _ _ _ => rfl
theorem Calm.fail {d : AD} (h : Calm d) (n : Int) : Calm (d.failR n).1 := by
  unfold AD.failR
  split
  · exact h
  split
  · exact h
  · exact h
theorem Calm.rename {d : AD} (h : Calm d) (s t : ByteArray) : Calm (d.renameR s t).1 := by
  unfold AD.renameR
  split
  · exact h
  split
  · exact h
  rename_i hh
  split
  · exact h
  split
  · exact h
  · have hcf : CalmF (d.get s) := h _ (get_mem (Decidable.not_not.1 hh))
    exact opR_calm h _ fun x _ hx => (hx.without s).put (fun i hi hw => hcf i hi hw)
theorem calm_written {f : AF} (h : CalmF f) (p m : Nat) (fs : List Int) (hf : fs.length = m * 64) (hs : f.seen.length = f.n * 64) (hw : f.ws.length = f.n) (hp : p + m ≤ f.n) : CalmF (f.written p m fs) := by
  intro i hi hwi
  have h1 := wrS2_all f p m fs hf hs hw hp
  have h2 := wrS2_get f p fs m i hi
  rw [h1, secsOf_get (f.written p m fs) i hi] at h2
  by_cases hc : p ≤ i ∧ i < p + m
  · rw [if_pos hc] at h2
    simp only [Option.some.injEq, Sc.mk.injEq] at h2
    rw [h2.2.2] at hwi; simp at hwi
  · rw [if_neg hc] at h2
    simp only [Option.some.injEq, Sc.mk.injEq] at h2
    rw [h2.2.1, h2.1]
    exact h i hi (by rw [← h2.2.2]; exact hwi)
theorem Calm.write {d : AD} (h : Calm d) (hg : Good d) (s : ByteArray) (at_ : Int) (m : Nat) (fs : List Int) (hf : fs.length = m * 64) : Calm (d.writeR s at_ m fs).1 := by
  unfold AD.writeR
  split
  · exact h
  split
  · exact h
  rename_i hh
  split
  · exact h
  rename_i hc
  have hm := get_mem (Decidable.not_not.1 hh)
  have hgf := hg.file _ hm
  exact opR_calm h _ fun x _ hx => hx.put (calm_written (h _ hm) at_.toNat m fs hf hgf.seen hgf.ws (by omega))
def DKq (w : World) (p : Addr) (F : Nat → Bool) (d : AD) : Prop := DKp w p F d ∧ Calm d
theorem disk_says : DiskSays DKq where
  keep h hs hk := ⟨h.1.keep hs hk, h.2⟩
  foot h := h.1.1
  new c w hc := (pnew_any c w hc).mono (by
    rintro e w' ⟨b, bm, rfl, hl⟩
    obtain ⟨F, h1, h2⟩ := hl.dkp
    exact ⟨_, F, rfl, ⟨h1, fun f hf => by simp [AD.newD] at hf⟩, h2⟩)
  make w p F d s n h hg hs hn := (kmake_any w p F d s n h.1 hg hs hn).mono (by
    rintro e w' ⟨F', rfl, h1, h2⟩; exact ⟨F', rfl, ⟨h1, h.2.make s n⟩, h2⟩)
  write w p F d s at_ v m fs h hg hs ha hf _ hm := (kwrite_any w p F d s at_ v m fs h.1 hg hs ha hf hm).mono (by
    rintro e w' ⟨F', rfl, h1, h2⟩; exact ⟨F', rfl, ⟨h1, h.2.write hg s at_ m fs hf.length⟩, h2⟩)
  sync w p F d s h hg hs := (ksync_any w p F d s h.1 hg hs).mono (by
    rintro e w' ⟨F', rfl, h1, h2⟩; exact ⟨F', rfl, ⟨h1, h.2.sync s⟩, h2⟩)
  read w p F d s at_ n h hg hs ha hn := kread_any w p F d s at_ n h.1 hg hs ha hn
  size w p F d s h hg hs := by
    obtain ⟨⟨_, b, bm, l, rfl, hd, _⟩, _⟩ := h
    exact (psize_any w b bm l d s hd hs).mono (by rintro e w' ⟨rfl, rfl⟩; exact ⟨rfl, Below.refl _ _⟩)
  used w p F d h hg := by
    obtain ⟨⟨_, b, bm, l, rfl, hd, _⟩, _⟩ := h
    exact pused_any w b bm l d hd hg
end Go.Proofs.YtnmplnemnfonfaaGreatDoor
namespace Go.Proofs.YtnmplnemnfonfaaGreatDoor
open Go.RowKit
def szI (d : AD) (s : ByteArray) : Int := if d.has s then ((d.get s).n : Int) else 0
abbrev noS : ByteArray := ⟨#[]⟩
abbrev fr1 : ByteArray := ⟨#[102, 114, 101, 101, 45, 49]⟩
abbrev fr2 : ByteArray := ⟨#[102, 114, 101, 101, 45, 50]⟩
def firstI (d : AD) (n : Int) : ByteArray := if szI d fr1 = n then fr1 else if szI d fr2 = n then fr2 else noS
def AD.takeR (d : AD) : AD × ByteArray × Int :=
  if d.down = true then (d, noS, 9) else if firstI d 17 ≠ noS then (d, firstI d 17, 0) else if firstI d 0 = noS then (d, noS, 6)
  else if (d.makeR (firstI d 0) 17).2 = 0 then ((d.makeR (firstI d 0) 17).1, firstI d 0, 0) else ((d.makeR (firstI d 0) 17).1, noS, (d.makeR (firstI d 0) 17).2)
theorem sz_le {d : AD} (h : Good d) (s : ByteArray) : 0 ≤ szI d s ∧ szI d s ≤ 64 := by
  unfold szI
  split
  · rename_i hh
    have := (h.file _ (get_mem hh)).n64
    omega
  · omega
theorem Good.take {d : AD} (h : Good d) : Good d.takeR.1 := by
  unfold AD.takeR
  split
  · exact h
  split
  · exact h
  split
  · exact h
  split
  · exact h.make _ _
  · exact h.make _ _
end Go.Proofs.YtnmplnemnfonfaaGreatDoor
namespace Go.Proofs.YtnmplnemnfonfaaGreatDoor
open Go.RowKit
def walB (n : Int) : ByteArray := ⟨(walN n).toArray⟩
def layL (h : Hdr) (m : Nat) (fs : List Int) : List Int := secH h ++ fs ++ List.replicate ((16 - m) * 64) 0
def AD.laidR (d : AD) (s : ByteArray) (l : List Int) : AD × Int := if (d.writeR s 0 17 l).2 = 0 then (d.writeR s 0 17 l).1.syncR s else d.writeR s 0 17 l
def AD.prepR (d : AD) (s : ByteArray) (h : Hdr) (m : Nat) (fs : List Int) : AD × Int :=
  if hdOk h = false ∨ 16 < m then (d, 13) else if d.down = true then (d, 9) else if ¬ d.has s then (d, 7) else if (d.get s).n ≠ 17 then (d, 4) else d.laidR s (layL h m fs)
def fstI (l : List Int) : Hdr × Int := headD (l.take 64)
def headI (d : AD) (q : Int) : Hdr × Int :=
  if walB q = noS then (noH, 13) else if d.down = true then (noH, 9) else if ¬ d.has (walB q) then (noH, 7)
  else if (d.get (walB q)).n ≠ 17 ∨ (fstI (d.get (walB q)).seen).2 ≠ 0 ∨ (fstI (d.get (walB q)).seen).1.s ≠ q then (noH, 12) else ((fstI (d.get (walB q)).seen).1, 0)
def dataI (d : AD) (q : Int) : List Int := (d.get (walB q)).seen.drop 64
theorem bytes_isB {l : List Int} (h : Bytes l) : isB l := (bytes_iff l).1 h
theorem isB_bytes {l : List Int} (h : isB l) : Bytes l := (bytes_iff l).2 h
theorem fstI_typed {l : List Int} (h : Bytes l) : HdT (fstI l).1 := headD_typed ((bytes_isB h).take 64)
theorem str_empty {s : ByteArray} (h : s ≠ noS) : (s.toList == ([] : List UInt8)) = false := by
  rw [beq_eq_false_iff_ne]
  intro e
  rw [Lib.toList_data] at e
  exact h (ByteArray.ext (Array.toList_eq_nil_iff.1 e))
theorem wal_size (n : Int) (h0 : -9223372036854775808 ≤ n) (h1 : n ≤ 9223372036854775807) : (walB n).size ≤ 281474976710656 := by
  show (walN n).toArray.size ≤ _
  have := itoa_short h0 h1
  unfold walN
  split
  · simp only [List.size_toArray, List.length_cons]; omega
  · simp
theorem wal_in {n : Int} (h1 : 1 ≤ n) (h2 : n ≤ 2147483647) : walB n ≠ noS := by
  intro h
  have h3 := congrArg (fun s : ByteArray => s.data.toList) h
  have h4 : walN n = [] := h3
  rw [walN_in h1 h2] at h4
  simp at h4
theorem wal_out {n : Int} (h : ¬ (1 ≤ n ∧ n ≤ 2147483647)) : walB n = noS := by unfold walB; rw [walN_out h]
theorem layL_length {h : Hdr} (hn : h.l.length = 4) {m : Nat} (hm : m ≤ 16) {fs : List Int} (hf : fs.length = m * 64) : (layL h m fs).length = 17 * 64 := by
  unfold layL
  rw [List.length_append, List.length_append, secH_length hn, hf, List.length_replicate]
  omega
theorem layL_bytes (h : Hdr) (m : Nat) {fs : List Int} (hf : Bytes fs) : Bytes (layL h m fs) := ((isB_bytes (secH_bytes h)).app hf).app (Bytes.zeros _)
theorem Good.laid {d : AD} (h : Good d) (s : ByteArray) (l : List Int) (hl : l.length = 17 * 64) (hb : Bytes l) : Good (d.laidR s l).1 := by
  unfold AD.laidR
  split
  · exact (h.write s 0 17 l hl hb).sync s
  · exact h.write s 0 17 l hl hb
theorem Good.prep {d : AD} (h : Good d) (s : ByteArray) {x : Hdr} (hx : HdT x) {m : Nat} {fs : List Int} (hf : fs.length = m * 64) (hb : Bytes fs) : Good (d.prepR s x m fs).1 := by
  unfold AD.prepR
  split
  · exact h
  rename_i hk
  split
  · exact h
  split
  · exact h
  split
  · exact h
  · exact h.laid s _ (layL_length hx.n (by omega) hf) (layL_bytes x m hb)
end Go.Proofs.YtnmplnemnfonfaaGreatDoor
namespace Go.Proofs.YtnmplnemnfonfaaGreatDoor
open Go.Proofs Go.RowKit
open Go.Lib (toList_data size_eq)
def Pow (w : World) : Prop := Lib.TabIs Tryz.prog w "internal/strconv.uint64pow10" .u64 Lib.pow10Tab
theorem var_stays {P : Program} {w w' : World} {n : String} {cs : Array Value} (h : w.var? P n = some cs) (hb : ∀ k, k < w.heap.size → w'.heap[k]? = w.heap[k]?) : w'.var? P n = some cs := by
  unfold World.var? at *
  cases hg : P.globalNamed n with
  | none => simp [hg] at h
  | some g =>
    simp only [hg, Option.bind_some] at h ⊢
    have hlt : g < w.heap.size := by
      rcases Nat.lt_or_ge g w.heap.size with h' | h'
      · exact h'
      · simp [Array.getElem?_eq_none h'] at h
    rw [hb g hlt]; exact h
theorem Pow.on {w w' : World} (h : Pow w) (hb : Below w.heap.size w w') : Pow w' := var_stays h fun k hk => hb.block k hk
theorem Pow.ext {W w : World} {F : Nat → Bool} (h : Pow W) (hx : Ext (fun _ => false) W w F) : Pow w := var_stays h fun k hk => hx.block k hk rfl
end Go.Proofs.YtnmplnemnfonfaaGreatDoor
namespace Go.Proofs.YtnmplnemnfonfaaGreatDoor
open Go.RowKit
variable {DK : World → Addr → (Nat → Bool) → AD → Prop}
theorem psize_of (H : DiskSays DK) {d : AD} {s : ByteArray} {x : Int} (hg : Good d) (hs : s.size ≤ 281474976710656) (hx : szI d s = x) :
    Hid (∀ w p F, DK w p F d → Calls Tryz.prog 24 #[ptr p, .string s] w fun e w' => e = .returned (.int .i64 x) ∧ Below w.heap.size w w') :=
  Lib.hid fun w p F h => by rw [← hx]; exact H.size w p F d s h hg hs
structure LK (DK : World → Addr → (Nat → Bool) → AD → Prop) (w : World) (p : Addr) (F : Nat → Bool) (d : AD) (W : World) : Prop where
  dk : DK W p F d
  below : Below w.heap.size w W
  pow : Pow W
theorem LK.next (H : DiskSays DK) {w : World} {p : Addr} {F : Nat → Bool} {d : AD} {W W' : World} (h : LK DK w p F d W) (hb : Below W.heap.size W W') : LK DK w p F d W' :=
  ⟨H.below h.dk hb, h.below.trans (hb.mono h.below.size), h.pow.on hb⟩
end Go.Proofs.YtnmplnemnfonfaaGreatDoor
namespace Go.Proofs.YtnmplnemnfonfaaGreatDoor
open Go.Proofs Go.RowKit
open Go.Lib (toList_data size_eq)
def Sent (w : World) (n : String) : Prop := (Tryz.prog.globalNamed n).isSome = true → ∃ tp p, w.var? Tryz.prog n = some #[.iface tp p]
def Vars (w : World) : Prop := Lib.TabIs Tryz.prog w "internal/strconv.uint64pow10" .u64 Lib.pow10Tab ∧ Sent w "strconv.ErrSyntax" ∧ Sent w "strconv.ErrRange"
theorem pow10_tab {w : World} (h : Lib.TabIs Tryz.prog w "internal/strconv.uint64pow10" .u64 [1, 10, 100, 1000, 10000, 100000, 1000000, 10000000, 100000000, 1000000000, 10000000000, 100000000000, 1000000000000, 10000000000000, 100000000000000, 1000000000000000, 10000000000000000, 100000000000000000, 1000000000000000000, 10000000000000000000]) : Lib.TabIs Tryz.prog w "internal/strconv.uint64pow10" .u64 Lib.pow10Tab := by
  rw [show Lib.pow10Tab = [1, 10, 100, 1000, 10000, 100000, 1000000, 10000000, 100000000, 1000000000, 10000000000, 100000000000, 1000000000000, 10000000000000, 100000000000000, 1000000000000000, 10000000000000000, 100000000000000000, 1000000000000000000, 10000000000000000000] from by decide +kernel]
  exact h
theorem var_below {P : Program} {w w' : World} {n : String} {cs : Array Value} (h : w.var? P n = some cs) (hb : Below w.heap.size w w') : w'.var? P n = some cs := by
  unfold World.var? at *
  cases hg : P.globalNamed n with
  | none => simp [hg] at h
  | some g =>
    simp only [hg, Option.bind_some] at h ⊢
    have hlt : g < w.heap.size := by
      rcases Nat.lt_or_ge g w.heap.size with h' | h'
      · exact h'
      · simp [Array.getElem?_eq_none h'] at h
    rw [hb.block g hlt]; exact h
theorem Vars.on {w w' : World} (h : Vars w) (hb : Below w.heap.size w w') : Vars w' := by
  obtain ⟨h1, h2, h3⟩ := h
  exact ⟨var_below h1 hb, fun q => (h2 q).imp fun t ⟨p, e⟩ => ⟨p, var_below e hb⟩, fun q => (h3 q).imp fun t ⟨p, e⟩ => ⟨p, var_below e hb⟩⟩
theorem Vars.pow {w : World} (h : Vars w) : Pow w := h.1
theorem Vars.ext {W w : World} {F : Nat → Bool} (h : Vars W) (hx : Ext (fun _ => false) W w F) : Vars w := by
  obtain ⟨h1, h2, h3⟩ := h
  exact ⟨var_stays h1 fun k hk => hx.block k hk rfl, fun q => (h2 q).imp fun t ⟨p, e⟩ => ⟨p, var_stays e fun k hk => hx.block k hk rfl⟩, fun q => (h3 q).imp fun t ⟨p, e⟩ => ⟨p, var_stays e fun k hk => hx.block k hk rfl⟩⟩
theorem below_itoa {w w' : World} (h : ∃ (k : Nat) (os : Array Obj), w' = Sort.grow (w.drewN k) os) : Below w.heap.size w w' := by
  obtain ⟨k, os, rfl⟩ := h
  refine ⟨rfl, rfl, rfl, ?_, fun j hj => ?_⟩
  · show w.heap.size ≤ (w.heap ++ os).size
    simp
  · show (w.heap ++ os)[j]? = w.heap[j]?
    rw [Array.getElem?_append_left hj]
theorem digits_any (n : Int) (h0 : -9223372036854775808 ≤ n) (h1 : n ≤ 9223372036854775807) (w : World) (hv : Vars w) :
    Calls Tryz.prog 114 #[.int .i64 n] w fun e w' => e = .returned (.string ⟨(Lib.itoa n).toArray⟩) ∧ Below w.heap.size w w' := by
  have HV := Lib.hid hv
  clear hv
  go_enter Tryz.func114, Tryz.ntmps114
  go_wp2_with (first
    | (go_at_call 123; (refine (Tryz.strconv_Itoa n h0 h1 _ HV.out.1).mono ?_); rintro e w' ⟨rfl, hb⟩; have HB := Lib.hid (below_itoa hb); clear hb))
  go_ret
  exact ⟨rfl, HB.out⟩
theorem app_text (a b : List UInt8) : (⟨a.toArray⟩ ++ ⟨b.toArray⟩ : ByteArray) = ⟨(a ++ b).toArray⟩ := by
  apply ByteArray.ext
  simp
theorem wal_any (n : Int) (h0 : -9223372036854775808 ≤ n) (h1 : n ≤ 9223372036854775807) (w : World) (hv : Vars w) :
    Calls Tryz.prog 96 #[.int .i64 n] w fun e w' => e = .returned (.string ⟨(walN n).toArray⟩) ∧ Below w.heap.size w w' := by
  have HV := Lib.hid hv
  clear hv
  by_cases hn : 1 ≤ n
  · by_cases hm : n ≤ 2147483647
    · have hl : ¬ 9223372036854775807 < 4 + (Lib.itoa n).length := by have := itoa_short h0 h1; omega
      have HW := Lib.hid (walN_in hn hm)
      go_enter Tryz.func96, Tryz.ntmps96
      go_wp2_with (first
        | (go_at_call 114; (refine (digits_any n h0 h1 _ HV.out).mono ?_); rintro e w' ⟨rfl, hb⟩; have HB := Lib.hid hb; clear hb))
      go_ret
      refine ⟨?_, HB.out⟩
      rw [HW.out]
      exact congrArg (fun x => Ending.returned (.string x)) (app_text [119, 97, 108, 45] (Lib.itoa n))
    · have hw := walN_out (n := n) (by omega)
      rw [hw]
      clear hw
      go_enter Tryz.func96, Tryz.ntmps96
      go_wp2
      go_ret
      exact ⟨rfl, Below.refl _ _⟩
  · have hw := walN_out (n := n) (by omega)
    rw [hw]
    clear hw
    go_enter Tryz.func96, Tryz.ntmps96
    go_wp2
    go_ret
    exact ⟨rfl, Below.refl _ _⟩
end Go.Proofs.YtnmplnemnfonfaaGreatDoor
