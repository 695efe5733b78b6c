/-
  LAYER 8 (disk), the program's own disk, joined: New, Lay, Clone, nil; it is what the laws ask for. No condition.
-/
import Derived.Test.YtpnialanmidekaaDkJe
import Derived.Test.YtpnialanmidekaaDiskLaysMath
import Derived.Lib.SliceRun
/-
  LAYER 8 (disk), the program's own disk: New and Lay, as the laws' walks ask for them. No condition.
-/
namespace Go.Proofs.Ytpnialanmidekaa
open Go.RowKit
/-- a disk's own blocks, as a test -/
def ownF (b bm : Nat) (l : List MF) : Nat → Bool := fun k => k == b || k == bm || l.any fun x => x.g == k
theorem ownF_iff (b bm : Nat) (l : List MF) (k : Nat) : ownF b bm l k = true ↔ own b bm l k := by
  unfold ownF own
  simp [List.any_eq_true, or_assoc]
/-- a disk that a call makes -/
structure LyS (w : World) (b bm : Nat) (l : List MF) (d : AD) (wr : World) : Prop where
  below : Below w.heap.size w wr
  dk : Dk wr b bm l d
  new : ∀ k, own b bm l k → w.heap.size ≤ k
theorem LyS.next {w wr w1 : World} {b bm : Nat} {l : List MF} {d : AD} (h : LyS w b bm l d wr) (hb : Below wr.heap.size wr w1) : LyS w b bm l d w1 := ⟨chain h.below hb, h.dk.below hb, h.new⟩
theorem LyS.done {w wr w1 : World} {b bm : Nat} {l : List MF} {d d' : AD} (h : LyS w b bm l d wr) (hd : Done (ownF b bm l) wr b bm l d' w1) : ∃ l', LyS w b bm l' d' w1 ∧ ∀ q, q < wr.heap.size → ¬ own b bm l q → w1.heap[q]? = wr.heap[q]? ∧ ¬ own b bm l' q ∧ q < w1.heap.size := by
  obtain ⟨l', h1, h2, h3⟩ := hd
  have hf : ∀ q, ¬ own b bm l q → ownF b bm l q = false := fun q hq => by
    cases hc : ownF b bm l q with
    | false => rfl
    | true => exact absurd ((ownF_iff _ _ _ _).1 hc) hq
  refine ⟨l', ⟨⟨h2.os.trans h.below.os, h2.tape.trans h.below.tape, h2.output.trans h.below.output, Nat.le_trans h.below.size h2.size, fun k hk => ?_⟩, h1, fun k hk => ?_⟩, fun q hq hn => ⟨h2.block q hq (hf q hn), fun ho => hn (h3 q ho hq), Nat.lt_of_lt_of_le hq h2.size⟩⟩
  · have hlt := Nat.lt_of_lt_of_le hk h.below.size
    exact (h2.block k hlt (hf k (fun ho => by have := h.new k ho; omega))).trans (h.below.block k hk)
  · by_cases hlt : k < wr.heap.size
    · exact h.new k (h3 k hk hlt)
    · have := h.below.size; omega
/-- what came in lies apart from it -/
theorem LyS.apart {w wr : World} {b bm : Nat} {l : List MF} {d : AD} (h : LyS w b bm l d wr) (M : Nat → Bool) : Kin (mask M w) (mask (ownF b bm l) wr) := by
  intro a v hx
  have hx2 := unmask M w a v hx
  have hlt := World.block_lt_of_cell? w _ hx2
  have hf : ownF b bm l a.block = false := by
    cases hc : ownF b bm l a.block with
    | false => rfl
    | true => have := h.new _ ((ownF_iff _ _ _ _).1 hc); omega
  have hw := cell_keep h.below (a := a) (v := v) hx2
  unfold World.cell? at hw ⊢
  rw [mask_heap]
  cases hq : wr.heap[a.block]? with
  | none => simp [hq] at hw
  | some o => simpa [hq, hf] using hw
theorem LyS.dkp {w wr : World} {b bm : Nat} {l : List MF} {d : AD} (h : LyS w b bm l d wr) : ∃ F, DKp wr ⟨b, 0, none⟩ F d ∧ Ext noF w wr F :=
  DKp.done (Foot.none _) (Ext.below h.below) h.dk fun k hk hl => by have := h.new k hk; omega
/-! New -/
set_option maxRecDepth 8000 in
theorem pnew_any (c : Int) (w : World) (hc : I63 c) : Calls Try.prog 8 #[.int .i64 c] w fun e w' => ∃ b bm, e = .returned (ptr ⟨b, 0, none⟩) ∧ LyS w b bm [] (AD.newD c) w' := by
  have HC := Lib.hid hc
  have HM := Lib.hid (show I63 1048576 from ⟨by omega, by omega⟩)
  have HN : Hid (∀ g, w.heap.size = g → LyS w (g + 1) g [] (AD.newD c) ((w.alloc (.map #[] 0)).alloc (.cells #[.int .i64 (min (max c 0) 1048576), .map (some g), .int .i64 0, .bool false, .bool false, .int .i64 0] 71))) := Lib.hid fun g hg => by
    subst hg
    have h1 : Below w.heap.size w (w.alloc (.map #[] 0)) := below_alloc w _
    have hm : MapOf ((w.alloc (.map #[] 0)).alloc (.cells #[.int .i64 (min (max c 0) 1048576), .map (some w.heap.size), .int .i64 0, .bool false, .bool false, .int .i64 0] 71)) w.heap.size [] :=
      MO.keep (MO.made _ w) (heap_alloc_old _ _ (by rw [alloc_size]; omega))
    refine ⟨chain h1 (below_alloc _ _), ⟨⟨false, 0, ?_, fun _ => ⟨rfl, rfl⟩⟩, hm, fun x hx => by simp at hx, by simp, rfl⟩, ?_⟩
    · have := heap_alloc_last (w.alloc (.map #[] 0)) (.cells #[.int .i64 (min (max c 0) 1048576), .map (some w.heap.size), .int .i64 0, .bool false, .bool false, .int .i64 0] 71)
      rw [alloc_size] at this; exact this
    · rintro k (rfl | rfl | ⟨x, hx, _⟩)
      · omega
      · omega
      · simp at hx
  have hmm := @run_makeMap Try.prog
  clear hc
  go_enter Try.func8, Try.ntmps8
  go_wp2_with (first
    | (go_at_call 30; (with_reducible refine (nearer_any c 1048576 HC.out HM.out _).mono ?_); rintro e w1 ⟨rfl, rfl⟩))
  go_ret
  exact ⟨_, _, rfl, HN.out _ rfl⟩
end Go.Proofs.Ytpnialanmidekaa
/-
  LAYER 8 (disk), the program's own disk: Lay. No condition.
-/
namespace Go.Proofs.Ytpnialanmidekaa
open Go.RowKit
/-- what keeps a file from being made -/
def mkY (d : AD) (s : ByteArray) (n : Int) : Int := if rightB s = false then 10 else if d.has s then 8 else if n < 1 ∨ 64 < n then 4 else if d.cap < (usedN d.L : Int) + n ∨ 64 ≤ d.L.length then 6 else 0
theorem make_still {d : AD} (h : Still d) (s : ByteArray) (n : Int) : d.makeR s n = if mkY d s n ≠ 0 then (d, mkY d s n) else (d.opd.withF (newF s n.toNat), 0) := by
  have ho : d.ope = 0 := by unfold AD.ope; rw [if_neg (by rw [h.told]; simp)]
  unfold AD.makeR mkY
  rw [if_neg (by rw [h.down]; simp)]
  split
  · rfl
  split
  · rfl
  split
  · rfl
  split
  · rfl
  · rw [AD.opR_done _ _ ho]; rfl
/-- a disk without ops -/
def AD.z0 (d : AD) : AD := { d with ops := 0 }
theorem mkY_z0 (d : AD) (s : ByteArray) (n : Int) : mkY d.z0 s n = mkY d s n := rfl
theorem Good.z0 {d : AD} (h : Good d) : Good d.z0 := ⟨h.asc, h.file, h.few, h.cap0, h.cap1, h.used, by show I63 0; unfold I63; omega, h.after⟩
theorem without_ins (L : List AF) (f : AF) : withoutF (insF (withoutF L f.name) f) f.name = withoutF L f.name := by
  unfold insF
  have h1 : ∀ L' : List AF, withoutF (withoutF L' f.name) f.name = withoutF L' f.name := fun L' => without_not fun g hg => (mem_without.1 hg).2
  have h2 : withoutF (f :: (withoutF L f.name).drop (insK (withoutF L f.name) f)) f.name = withoutF ((withoutF L f.name).drop (insK (withoutF L f.name) f)) f.name := by
    unfold withoutF; rw [List.filter_cons, if_neg (by simp)]
  have h3 : ∀ a b : List AF, withoutF (a ++ b) f.name = withoutF a f.name ++ withoutF b f.name := fun a b => by unfold withoutF; rw [List.filter_append]
  rw [h3, h2, ← h3, List.take_append_drop, h1]
theorem withF_twice (d : AD) (f g : AF) (h : g.name = f.name) : (d.withF f).withF g = d.withF g := by
  unfold AD.withF
  rw [h]
  show { d with L := insF (withoutF (insF (withoutF d.L f.name) f) f.name) g } = _
  rw [without_ins]
theorem withF_has (d : AD) (f : AF) : (d.withF f).has f.name := by
  unfold AD.has idxN
  exact List.findIdx_lt_length.2 ⟨f, mem_ins.2 (.inl rfl), by simp⟩
theorem withF_get (d : AD) (f : AF) : (d.withF f).get f.name = f := by
  have h1 := get_mem (withF_has d f)
  have h2 := (d.withF f).get_name f.name (withF_has d f)
  rcases mem_ins.1 h1 with h | h
  · exact h
  · exact absurd h2 (mem_without.1 h).2
theorem written_new (s : ByteArray) (n : Nat) (fs : List Int) : ((newF s n).written 0 n fs).synced = ⟨s, n, fs, fs, List.replicate n false⟩ := by
  unfold AF.written AF.synced newF
  simp
/-- a file more was laid -/
theorem laid_more {d : AD} (h : Still d) (s : ByteArray) (n : Nat) (fs : List Int) (hy : mkY d s n = 0) : ((d.makeR s n).1.withF ⟨s, n, fs, fs, List.replicate n false⟩).z0 = ((d.z0.withF (newF s n)).withF ((newF s n).written 0 n fs)).withF ((newF s n).written 0 n fs).synced := by
  rw [make_still h, if_neg (by rw [hy]; simp), written_new]
  simp only [Int.toNat_natCast]
  have e1 := withF_twice d.opd (newF s n) ⟨s, n, fs, fs, List.replicate n false⟩ rfl
  have e2 := withF_twice d.z0 (newF s n) ((newF s n).written 0 n fs) rfl
  have e3 := withF_twice d.z0 ((newF s n).written 0 n fs) ⟨s, n, fs, fs, List.replicate n false⟩ rfl
  rw [e1, e2, e3]
  have ht := h.told
  unfold AD.opd
  rw [if_neg (by rw [ht]; simp)]
  obtain ⟨L, cap, ops, down, told, after⟩ := d
  simp only at ht
  subst ht
  rfl
theorem mkY_zero {d : AD} {s : ByteArray} {n : Int} (h : mkY d s n = 0) : rightB s = true ∧ ¬ d.has s ∧ 1 ≤ n ∧ n ≤ 64 ∧ (usedN d.L : Int) + n ≤ d.cap ∧ d.L.length < 64 := by
  unfold mkY at h
  split at h
  · simp at h
  split at h
  · simp at h
  split at h
  · simp at h
  split at h
  · simp at h
  rename_i h1 h2 h3 h4
  exact ⟨by simpa using h1, h2, by omega, by omega, by omega, by omega⟩
theorem good_new {d : AD} (h : Good d) {s : ByteArray} {n : Nat} (hy : mkY d s n = 0) : Good (d.withF (newF s n)) := by
  obtain ⟨h1, h2, h3, h4, h5, h6⟩ := mkY_zero hy
  have hL : withoutF d.L (newF s n).name = d.L := without_not (has_mem h2)
  refine h.put ⟨h1, by show 1 ≤ n; omega, by show n ≤ 64; omega, by simp [newF], by simp [newF], by simp [newF], Bytes.zeros _, Bytes.zeros _⟩ ?_ ?_
  · rw [hL]; show ((usedN d.L + n : Nat) : Int) ≤ d.cap; omega
  · rw [hL]; omega
theorem good_written {d : AD} (h : Good d) {s : ByteArray} {n : Nat} {fs : List Int} (hy : mkY d s n = 0) (hl : fs.length = n * 64) (hb : Bytes fs) : Good ((d.withF (newF s n)).withF ((newF s n).written 0 n fs)) := by
  obtain ⟨h1, h2, h3, h4, _⟩ := mkY_zero hy
  have e : (newF s n).written 0 n fs = ⟨s, n, List.replicate (n * 64) 0, fs, List.replicate n true⟩ := by unfold AF.written newF; simp
  rw [e]
  exact (good_new h hy).re (f := newF s n) (mem_ins.2 (.inl rfl)) rfl ⟨h1, by show 1 ≤ n; omega, by show n ≤ 64; omega, by simp, hl, by simp, Bytes.zeros _, hb⟩ rfl
theorem get_new (d : AD) (s : ByteArray) (n : Nat) : (d.withF (newF s n)).get s = newF s n := withF_get d (newF s n)
theorem has_new (d : AD) (s : ByteArray) (n : Nat) : (d.withF (newF s n)).has s := withF_has d (newF s n)
theorem get_wr (d : AD) (s : ByteArray) (n : Nat) (fs : List Int) : (d.withF ((newF s n).written 0 n fs)).get s = (newF s n).written 0 n fs := withF_get d ((newF s n).written 0 n fs)
theorem has_wr (d : AD) (s : ByteArray) (n : Nat) (fs : List Int) : (d.withF ((newF s n).written 0 n fs)).has s := withF_has d ((newF s n).written 0 n fs)
theorem layE_eq {c : Int} {l : List LFile} {i : Nat} {f : LFile} {y : Int} (h : Still (layD c l i)) (hf : l[i]? = some f) (hy : mkY (layD c l i) f.1 f.2.1 = y) : layE c l i = y := by
  unfold layE
  rw [hf]
  show ((layD c l i).makeR f.1 f.2.1).2 = y
  rw [make_still h, hy]
  split
  · rfl
  · rename_i h0; exact (Decidable.not_not.1 h0).symm
theorem job_info : (Try.prog.info? 84).map (·.size) = some 6 := by kernel_rfl
set_option maxRecDepth 8000 in
set_option maxHeartbeats 2000000 in
theorem klay_any (M : Nat → Bool) (c : Int) (v : Value) (l : List LFile) (w : World) (_hM : Foot M w.heap.size) (h : LA (mask M w) v l) (hc : I63 c) (hll : l.length ≤ 1000) (hlf : ∀ f ∈ l, f.2.1 ≤ 1000000 ∧ f.1.size ≤ 281474976710656 ∧ Bytes f.2.2) :
    Calls Try.prog 12 #[.int .i64 c, v] w fun e w' => ((layR c l).2 ≠ 0 ∧ e = .returned (.tuple #[.pointer none, .int .i64 (layR c l).2]) ∧ Below w.heap.size w w') ∨ ((layR c l).2 = 0 ∧ ∃ b bm lm, e = .returned (.tuple #[ptr ⟨b, 0, none⟩, .int .i64 0]) ∧ LyS w b bm lm (layR c l).1 w') := by
  have HLA := Lib.hid h
  have HLF := Lib.hid hlf
  have HC := Lib.hid hc
  have HG0 := Lib.hid (Good.new c hc)
  obtain ⟨a, k, rfl, _⟩ := h.form
  have hl1 : (l.length : Int) ≤ 1000 := by omega
  clear h hlf hc hll
  go_enter Try.func12, Try.ntmps12
  go_wp2_with (first
    | (go_at_call 8; (with_reducible refine (pnew_any c _ HC.out).mono ?_); rintro e w1 ⟨b, bm, rfl, hls⟩; have HS1 := Lib.hid hls; clear hls))
  go_loopw [15] (fun iv wr => ∃ (i : Nat) (lm : List MF), iv = .int .i64 i ∧ i ≤ l.length ∧ Hid (LyS w b bm lm (layD c l i).z0 wr) ∧ Hid (Good (layD c l i)) ∧ Hid (Still (layD c l i)) ∧ Hid (layR c l = layFrom c l i (l.length - i))) (fun iv _ => l.length - (intOf iv).toNat)
  case atStart => exact ⟨0, [], rfl, by omega, HS1, HG0, Lib.hid (Still.new c), Lib.hid rfl⟩
  case round =>
    obtain ⟨i, lm, rfl, hi, HS, HG, HST, HLR⟩ := hrel
    by_cases hlt : (i : Int) < (l.length : Int)
    · obtain ⟨f, hf⟩ := row_some (L := l) (i := i) (by omega)
      obtain ⟨hf1, hf2, hf3⟩ := HLF.out f (List.mem_of_getElem? hf)
      have hkw : Kin (mask M w) wr := (unmask M w).trans (Kin.below HS.out.below)
      obtain ⟨lb, lo, a1, c1, rfl, hcA0, hcB0, hfs⟩ := HLA.out.at_ i f hf
      have hcA := hkw _ _ hcA0
      have hcB := hkw _ _ hcB0
      have HFM := Lib.hid hfs
      clear hkw hcA0 hcB0
      have HF := Lib.hid hf
      have HSF := Lib.hid hf2
      have HBY := Lib.hid hf3
      obtain ⟨y, hy⟩ : ∃ y, mkY (layD c l i) f.1 f.2.1 = y := ⟨_, rfl⟩
      have HY := Lib.hid hy
      have HLE : Hid (layE c l i = y) := Lib.hid (layE_eq HST.out hf hy)
      have hb2 := below2 wr (.cells #[.string f.1, .slice a1 f.2.1 c1] 44) (.cells (jobC ⟨b, 0, none⟩ f.1 eS 0 (f.2.1 : Int) (.slice a1 f.2.1 c1)) 84)
      have HS2 := Lib.hid (HS.out.next hb2)
      have HJ2 : Hid (JB ((wr.alloc (.cells #[.string f.1, .slice a1 f.2.1 c1] 44)).alloc (.cells (jobC ⟨b, 0, none⟩ f.1 eS 0 (f.2.1 : Int) (.slice a1 f.2.1 c1)) 84)) (wr.heap.size + 1) (jobC ⟨b, 0, none⟩ f.1 eS 0 (f.2.1 : Int) (.slice a1 f.2.1 c1))) := Lib.hid (alloc2_last wr _ _)
      have HNO : Hid (¬ own b bm lm (wr.heap.size + 1)) := Lib.hid (fun ho => by have := HS.out.dk.lt _ ho; omega)
      have HMM := Lib.hid (mayMake_any _ b bm lm _ f.1 eS 0 (f.2.1 : Int) a1 f.2.1 c1 HS2.out.dk HG.out.z0 hf2 ⟨by omega, by omega⟩ y hy)
      obtain ⟨s, n, fs, rfl⟩ : ∃ s n fs, f = (s, n, fs) := ⟨_, _, _, rfl⟩
      dsimp only at *
      clear hf hf2 hf3 hy hb2 hfs
      by_cases h0 : y = 0
      · subst h0
        have HLR2 : Hid (layR c l = layFrom c l (i + 1) (l.length - (i + 1))) := Lib.hid (by
          rw [HLR.out, show l.length - i = (l.length - (i + 1)) + 1 by omega, layFrom, if_neg (by rw [HLE.out]; simp)])
        obtain ⟨z1, z2, z3, z4, z5, z6⟩ := mkY_zero HY.out
        have hn64 : n ≤ 64 := by omega
        have HLN : Hid (lm.length ≤ 64) := Lib.hid (by have := HG.out.few; rw [show (layD c l i).L = lm.map MF.f from HS.out.dk.files, List.length_map] at this; exact this)
        have HFL := Lib.hid HFM.out.length
        have HG1 := Lib.hid (good_new HG.out.z0 HY.out)
        have HG2 := Lib.hid (good_written HG.out.z0 HY.out HFL.out HBY.out)
        have HNX : Hid ((layD c l (i + 1)).z0 = (((layD c l i).z0.withF (newF s n)).withF ((newF s n).written 0 n fs)).withF ((newF s n).written 0 n fs).synced) := Lib.hid (by
          rw [layD_step c l i _ HF.out]; exact laid_more HST.out s n fs HY.out)
        have HGS : Hid (Good (layD c l (i + 1)) ∧ Still (layD c l (i + 1))) := Lib.hid (by
          rw [layD_step c l i _ HF.out]
          exact lay_step HG.out HST.out s n fs (by rw [make_still HST.out, if_neg (by rw [HY.out]; simp)]) HFL.out HBY.out)
        clear z1 z2 z3 z4 z5 z6
        go_wp2_with (first
          | (refine wpList_load_row rfl 84 (.tmp 9) rfl (wr.heap.size + 1) rfl _ (jobC ⟨b, 0, none⟩ s eS 0 (n : Int) (.slice a1 n c1)) (0, 0) _ HJ5.out Try.underlying84 rfl job_info ?_)
          | (refine wpList_load_row rfl 84 (.tmp 9) rfl (wr.heap.size + 1) rfl _ (jobC ⟨b, 0, none⟩ s eS 0 (n : Int) (.slice a1 n c1)) (0, 0) _ HJ4.out Try.underlying84 rfl job_info ?_)
          | (refine wpList_load_row rfl 84 (.tmp 9) rfl (wr.heap.size + 1) rfl _ (jobC ⟨b, 0, none⟩ s eS 0 (n : Int) (.slice a1 n c1)) (0, 0) _ HJ3.out Try.underlying84 rfl job_info ?_)
          | (refine wpList_load_row rfl 84 (.tmp 9) rfl (wr.heap.size + 1) rfl _ (jobC ⟨b, 0, none⟩ s eS 0 (n : Int) (.slice a1 n c1)) (0, 0) _ HJ2.out Try.underlying84 rfl job_info ?_)
          | (go_at_call 43; (with_reducible refine HMM.out.mono ?_); rintro e w3 ⟨rfl, hb3⟩; have HS3 := Lib.hid (HS2.out.next hb3); have HJ3 := Lib.hid (HJ2.out.below hb3); clear hb3)
          | (go_at_call 44; go_loud (refine (pcreate_any (ownF b bm lm) w3 b bm lm _ s eS 0 n a1 n c1 HS3.out.dk (fun k hk => (ownF_iff _ _ _ _).2 hk) HSF.out HLN.out hn64).mono ?_); rintro e w4 ⟨rfl, hd4⟩; obtain ⟨l4, hs4, hq4⟩ := HS3.out.done hd4; have HS4 := Lib.hid hs4; obtain ⟨hj4, hn4, hz4⟩ := hq4 _ (Array.getElem?_eq_some_iff.1 HJ3.out).1 HNO.out; have HJ4 := Lib.hid (hj4.trans HJ3.out); have HN4 := Lib.hid hn4; clear hd4 hs4 hq4 hj4 hn4 hz4)
          | (go_at_call 45; go_loud (refine (pwrite_any (ownF b bm l4) w4 b bm l4 _ s eS 0 n n a1 c1 fs HS4.out.dk HG1.out (fun k hk => (ownF_iff _ _ _ _).2 hk) HSF.out (has_new _ s n) (by rw [get_new]; exact Nat.le_of_eq (Nat.zero_add _)) (HFM.out.kin (HS4.out.apart M))).mono ?_); rintro e w5 ⟨rfl, hd5⟩; rw [get_new] at hd5; obtain ⟨l5, hs5, hq5⟩ := HS4.out.done hd5; have HS5 := Lib.hid hs5; obtain ⟨hj5, hn5, hz5⟩ := hq5 _ (Array.getElem?_eq_some_iff.1 HJ4.out).1 HN4.out; have HJ5 := Lib.hid (hj5.trans HJ4.out); have HN5 := Lib.hid hn5; clear hd5 hs5 hq5 hj5 hn5 hz5)
          | (go_at_call 46; go_loud (refine (psync_any (ownF b bm l5) w5 b bm l5 _ s eS 0 n a1 n c1 HS5.out.dk HG2.out (fun k hk => (ownF_iff _ _ _ _).2 hk) HSF.out (has_wr _ s n fs)).mono ?_); rintro e w6 ⟨rfl, hd6⟩; rw [get_wr, ← HNX.out] at hd6; obtain ⟨l6, hs6, _⟩ := HS5.out.done hd6; have HS6 := Lib.hid hs6; clear hd6 hs6))
        go_roundw
        case rel => exact ⟨i + 1, l6, by go_num, by omega, HS6, HGS.out.1, HGS.out.2, HLR2⟩
        case measure => simp [intOf]; omega
      · have HR : Hid (layR c l = (zeroD, y)) := Lib.hid (by
          rw [HLR.out, show l.length - i = (l.length - i - 1) + 1 by omega, layFrom, if_pos (by rw [HLE.out]; exact h0), HLE.out])
        go_wp2_with (first
          | (refine wpList_load_row rfl 84 (.tmp 9) rfl (wr.heap.size + 1) rfl _ (jobC ⟨b, 0, none⟩ s eS 0 (n : Int) (.slice a1 n c1)) (0, 0) _ HJ2.out Try.underlying84 rfl job_info ?_)
          | (go_at_call 43; (with_reducible refine HMM.out.mono ?_); rintro e w3 ⟨rfl, hb3⟩; have HS3 := Lib.hid (HS2.out.next hb3); clear hb3))
        go_ret2
        rw [HR.out]
        exact .inl ⟨h0, rfl, HS3.out.below⟩
    · obtain rfl : i = l.length := by omega
      have HR : Hid (layR c l = ((layD c l l.length).z0, 0)) := Lib.hid (by
        rw [HLR.out, Nat.sub_self]; rfl)
      go_wp2
      go_ret2
      rw [HR.out]
      exact .inr ⟨rfl, b, rfl, bm, lm, HS.out⟩
end Go.Proofs.Ytpnialanmidekaa
/-
  LAYER 8 (disk), the program's own disk: Clone, as the laws' walks ask for it. No condition.
-/
namespace Go.Proofs.Ytpnialanmidekaa
open Go.RowKit
theorem flat_len : ∀ S : List Sc, (∀ s ∈ S, s.ok) → (S.flatMap Sc.cells).length = S.length * 129
  | [], _ => rfl
  | s :: S, h => by
    rw [List.flatMap_cons, List.length_append, flat_len S (fun t ht => h t (List.mem_cons_of_mem _ ht)), (h s (List.mem_cons_self ..)).len, List.length_cons]; omega
theorem flat_at : ∀ (S : List Sc) (i j : Nat) (s : Sc), (∀ s ∈ S, s.ok) → S[i]? = some s → j < 129 → (S.flatMap Sc.cells)[i * 129 + j]? = s.cells[j]?
  | t :: S, 0, j, s, h, hs, hj => by
    simp at hs; subst hs
    rw [List.flatMap_cons, Nat.zero_mul, Nat.zero_add, List.getElem?_append_left (by rw [(h t (List.mem_cons_self ..)).len]; exact hj)]
  | t :: S, i + 1, j, s, h, hs, hj => by
    have ht := (h t (List.mem_cons_self ..)).len
    rw [List.flatMap_cons, List.getElem?_append_right (by rw [ht]; omega), ht, show (i + 1) * 129 + j - 129 = i * 129 + j from by omega]
    exact flat_at S i j s (fun u hu => h u (List.mem_cons_of_mem _ hu)) (by simpa using hs) hj
theorem SR.flat {w : World} {g c : Nat} {S : List Sc} (h : SR w g c S) : ∀ (j : Nat) (v : Value), (S.flatMap Sc.cells)[j]? = some v → w.cell? ⟨g, j, none⟩ = some v := by
  intro j v hv
  have hok : ∀ s ∈ S, s.ok := fun s hs => by obtain ⟨i, hi⟩ := List.getElem?_of_mem hs; exact h.ok hi
  have hlt : j < S.length * 129 := by rw [← flat_len S hok]; exact (List.getElem?_eq_some_iff.1 hv).1
  obtain ⟨s, hs⟩ := row_some (L := S) (i := j / 129) (by omega)
  have hj : j = j / 129 * 129 + j % 129 := by omega
  rw [hj, flat_at S (j / 129) (j % 129) s hok hs (by omega)] at hv
  rw [hj]
  exact h.cell hs hv
theorem SR.of_own {w : World} {base g c : Nat} {S : List Sc} (hok : ∀ s ∈ S, s.ok) (h : w.ownsRow base 95 129 (.slice (some ⟨g, 0, none⟩) S.length c) S.length (S.flatMap Sc.cells)) : SR w g c S := by
  rcases h.2 with ⟨e, _⟩ | ⟨g', c', cur, e, _, hg, h1, h2, h3, h4⟩
  · simp at e
  · simp only [Value.slice.injEq, Option.some.injEq, Addr.mk.injEq, and_true, true_and] at e
    obtain ⟨rfl, rfl⟩ := e
    refine ⟨cur.toList, hg, by simpa using h3, h1, h2, fun i s hs => ⟨hok s (List.mem_of_getElem? hs), fun j v hv => ?_⟩⟩
    have hi := (List.getElem?_eq_some_iff.1 hs).1
    have hj : j < 129 := by have := (List.getElem?_eq_some_iff.1 hv).1; rw [(hok s (List.mem_of_getElem? hs)).len] at this; exact this
    have hlt : i * 129 + j < S.length * 129 := by have : (i + 1) * 129 ≤ S.length * 129 := Nat.mul_le_mul_right _ hi; omega
    rw [← flat_at S i j s hok hs hj, ← h4, List.getElem?_take_of_lt hlt] at hv
    exact hv
theorem own_emptyS {w : World} {e : TypeId} {base b : Nat} (hb : w.heap.size = b) (h : base ≤ b) : Hid ((w.alloc (.cells #[] e)).ownsRow base e 129 (.slice (some ⟨b, 0, none⟩) 0 0) 0 []) := by
  subst hb
  exact ⟨rfl, .inr ⟨w.heap.size, 0, #[], rfl, h, heap_alloc_last w _, Nat.le_refl _, by unfold maxLen; omega, rfl, rfl⟩⟩
theorem zc_cells : (Value.agg Try.zeroCells95).cells.size = 129 := sz_size
set_option maxRecDepth 8000 in
theorem sclone_any (w : World) (g c n : Nat) (S : List Sc) (h : SR w g c S) (hn : S.length = n) (h1 : 1 ≤ n) (h64 : n ≤ 64) :
    Calls Try.prog 51 #[.slice (some ⟨g, 0, none⟩) n c] w fun e w' => ∃ g' c', e = .returned (.slice (some ⟨g', 0, none⟩) n c') ∧ SR w' g' c' S ∧ w.heap.size ≤ g' ∧ Below w.heap.size w w' := by
  have hok : ∀ s ∈ S, s.ok := fun s hs => by obtain ⟨i, hi⟩ := List.getElem?_of_mem hs; exact h.ok hi
  have HOK := Lib.hid hok
  have HS := Lib.hid (h.keep (w' := w.alloc (.cells #[] 95)) ((below_alloc w _).block _ h.lt))
  have HFL := Lib.hid (flat_len S hok)
  have HON : Hid (∀ u ∈ S.flatMap Sc.cells, u.oneCell' = true) := Lib.hid fun u hu => by
    obtain ⟨s, _, hu⟩ := List.mem_flatMap.1 hu
    exact s.one u hu
  have HN := Lib.hid hn
  have hnc : n ≤ c := by obtain ⟨_, _, _, h3, _⟩ := h; omega
  have he : (binOp .eql 92 (.slice (some ⟨g, 0, none⟩) n c) (.slice none 0 0)).run Try.prog w = .ok (.bool false) w := Lib.run_eql_slice_nil w _ _ (some ⟨g, 0, none⟩) n c 0 0 Try.underlying92
  obtain ⟨i0, hi0, hz0, hz1, hz2⟩ := info_parts sct_parts
  have HI := Lib.hid hi0
  have HZ0 := Lib.hid hz0
  have HZ1 := Lib.hid hz1
  have HZ2 := Lib.hid hz2
  have HH1 := Lib.hid h1
  clear h hn hok hi0 hz0 hz1 hz2
  go_enter Try.func51, Try.ntmps51
  go_wp2_with (first
    | (at_builtin; go_loud (refine wpList_append_own_wide _ rfl (.tmp 5) (.tmp 6) 92 rfl w.heap.size 95 i0 _ 129 129 Try.underlying92 HI.out HZ0.out HZ1.out HZ2.out zc_cells (by omega) _ 0 [] rfl (own_emptyS rfl (Nat.le_refl _)).out ⟨g, 0, none⟩ n c (S.flatMap Sc.cells) rfl (by rw [HFL.out, HN.out]) (fun j u hu => by have := HS.out.flat j u hu; rw [Addr.add_mid, Nat.zero_add]; exact this) HON.out (by unfold maxLen; omega) (by omega) (by rw [alloc_size]; omega) ?_; intro v1 w1 ho hgr _; rw [Nat.zero_add, List.nil_append] at ho; have HO := Lib.hid ho; have HB := Lib.hid (((Below.refl w.heap.size w).alloc (Nat.le_refl _) _).grown hgr (by rw [alloc_size]; omega) (fun q hq => Nat.le_of_eq (Option.some.inj (show some w.heap.size = some q from hq)))); clear ho hgr)))
  obtain ⟨g1, k1, rfl, hg1, _⟩ := own_form HO.out HH1.out
  go_ret
  refine ⟨g1, k1, rfl, SR.of_own (base := w.heap.size) HOK.out ?_, hg1, HB.out⟩
  have := HO.out
  rwa [HN.out]
/-- names that rise, put in one by one -/
theorem in_asc {α : Type} {nm : α → ByteArray} : ∀ {l : List α}, l.Pairwise (fun x y => gtN (nm y) (nm x) = true) → ∀ (y : α), (∀ x ∈ l, nm x ≠ nm y) → (inBy nm l y).Pairwise (fun x y => gtN (nm y) (nm x) = true)
  | [], _, y, _ => by rw [in_nil]; simp
  | z :: r, h, y, hn => by
    rw [List.pairwise_cons] at h
    rw [in_cons]
    by_cases h1 : gtN (nm z) (nm y) = true
    · rw [if_pos h1, List.pairwise_cons]
      refine ⟨fun q hq => ?_, List.pairwise_cons.2 h⟩
      rcases List.mem_cons.1 hq with rfl | hq
      · exact h1
      · exact gtN_trans (h.1 q hq) h1
    · rw [if_neg h1, List.pairwise_cons]
      have h2 : gtN (nm y) (nm z) = true := gtN_total (by simpa using h1) (hn z (List.mem_cons_self ..))
      refine ⟨fun q hq => ?_, in_asc h.2 y (fun x hx => hn x (List.mem_cons_of_mem _ hx))⟩
      have hp : (inBy nm r y).Perm (y :: r) := by
        unfold inBy
        refine List.perm_middle.trans ?_
        rw [List.take_append_drop]
      rcases List.mem_cons.1 (hp.mem_iff.1 hq) with rfl | hq
      · exact h2
      · exact h.1 q hq
/-- rows that rise and are the same in some order are the same -/
theorem asc_perm {L L' : List AF} (h : Asc L) (h' : Asc L') (hp : L.Perm L') : L = L' := by
  refine List.Perm.eq_of_pairwise (le := fun f g => gtN g.name f.name = true) (fun a b _ _ h1 h2 => absurd h2 (gtN_asymm h1)) (show L.Pairwise (fun f g => gtN g.name f.name = true) from h) (show L'.Pairwise (fun f g => gtN g.name f.name = true) from h') hp
/-- where a clone stands -/
structure ClK (w : World) (cb cm : Nat) (lc : List MF) (d : AD) (l todo : List MF) (wr : World) : Prop where
  ly : LyS w cb cm lc { d with L := lc.map MF.f } wr
  asc : lc.Pairwise fun x y => gtN (MF.nm y) (MF.nm x) = true
  perm : (lc.map MF.f ++ todo.map MF.f).Perm (l.map MF.f)
theorem ClK.below {w : World} {cb cm : Nat} {lc : List MF} {d : AD} {l todo : List MF} {wr w1 : World} (h : ClK w cb cm lc d l todo wr) (hb : Below wr.heap.size wr w1) : ClK w cb cm lc d l todo w1 := ⟨h.ly.next hb, h.asc, h.perm⟩
/-- the iterator of a range is no map and no row -/
theorem RPk.iterm {w : World} {bm r cnt : Nat} {l todo : List MF} (h : RPk w bm r l todo cnt) : ∀ es ck, w.heap[r]? ≠ some (.map es ck) := by
  obtain ⟨_, h, _⟩ := h
  obtain ⟨_, _, _, _, _, _, _, _, _, hit, _⟩ := h
  intro es ck e
  rw [hit] at e; cases e
theorem ClK.iter {w : World} {cb cm : Nat} {lc : List MF} {d : AD} {l todo : List MF} {wr w1 : World} (h : ClK w cb cm lc d l todo wr) {bm r cnt : Nat} {l2 todo2 : List MF} (hr : RPk wr bm r l2 todo2 cnt) (hg : wr.grownBy w1 (some r)) (hw : w.heap.size ≤ r) : ClK w cb cm lc d l todo w1 := by
  refine ⟨⟨h.ly.below.grown hg h.ly.below.size (fun j hj => by rw [← Option.some.inj hj]; exact hw), h.ly.dk.keep fun k hk => hg.block k (h.ly.dk.lt k hk) (fun e => ?_), h.ly.new⟩, h.asc, h.perm⟩
  obtain rfl := Option.some.inj e
  rcases hk with rfl | rfl | ⟨x, hx, rfl⟩
  · obtain ⟨fl, lf, hb, _⟩ := h.ly.dk.blk
    exact hr.iter _ _ _ hb
  · obtain ⟨es, ck, hm⟩ := h.ly.dk.map.obj
    exact RPk.iterm hr _ _ hm
  · obtain ⟨cur, hc, _⟩ := h.ly.dk.row x hx
    exact hr.iter _ _ _ hc
/-- one file more -/
theorem ClK.more {w : World} {cb cm : Nat} {lc : List MF} {d : AD} {l todo : List MF} {wr w1 : World} (h : ClK w cb cm lc d l todo wr) (hn : (l.map MF.nm).Nodup) (hnt : (todo.map MF.nm).Nodup) {x : MF} (hx : x ∈ todo) (g c : Nat) (hr : SR wr g c (secsOf x.f)) (hg : w.heap.size ≤ g) (hne : ∀ k, own cb cm lc k → k ≠ g)
    (hm : MapOf w1 cm (inBy MF.nm (outBy MF.nm lc (MF.nm x)) ⟨x.f, g, c⟩)) (hgr : wr.grownBy w1 (some cm)) : ∃ lc', ClK w cb cm lc' d l (outBy MF.nm todo (MF.nm x)) w1 := by
  have hp := out_perm hnt hx
  have hnl : ∀ y ∈ lc, MF.nm y ≠ MF.nm x := by
    intro y hy e
    have h1 := h.perm.map AF.name
    rw [List.map_append, List.map_map, List.map_map, List.map_map] at h1
    have h2 : ((l.map MF.nm)).Nodup := hn
    have h3 := h1.nodup_iff.2 (show (l.map (AF.name ∘ MF.f)).Nodup from h2)
    rw [List.nodup_append] at h3
    exact h3.2.2 _ (List.mem_map_of_mem hy) _ (List.mem_map_of_mem hx) e
  have ho : outBy MF.nm lc (MF.nm x) = lc := by
    unfold outBy
    rw [List.filter_eq_self]
    intro y hy
    rw [Bool.not_eq_true', decide_eq_false_iff_not]
    exact hnl y hy
  rw [ho] at hm
  have hap : ∀ y ∈ lc, y.g ≠ g := fun y hy => hne _ (.inr (.inr ⟨y, hy, rfl⟩))
  refine ⟨inBy MF.nm lc ⟨x.f, g, c⟩, ⟨?_, ?_, ?_⟩, in_asc h.asc _ hnl, ?_⟩
  · have := h.ly.below.grown hgr h.ly.below.size (fun j hj => by
      rw [← Option.some.inj hj]; exact h.ly.new cm (.inr (.inl rfl)))
    exact this
  · refine h.ly.dk.turn ⟨rfl, rfl, rfl, rfl, rfl⟩ hgr hm ?_ (nodup_in h.ly.dk.nodup _ hap) rfl
    intro y hy
    rcases mem_in.1 hy with rfl | hy
    · exact hr
    · exact h.ly.dk.row y hy
  · rintro k (rfl | rfl | ⟨y, hy, rfl⟩)
    · exact h.ly.new _ (.inl rfl)
    · exact h.ly.new _ (.inr (.inl rfl))
    · rcases mem_in.1 hy with rfl | hy
      · exact hg
      · exact h.ly.new _ (.inr (.inr ⟨y, hy, rfl⟩))
  · refine List.Perm.trans ?_ h.perm
    have h1 := (in_perm lc ⟨x.f, g, c⟩).map MF.f
    have h2 := hp.map MF.f
    rw [List.map_cons] at h1 h2
    refine (h1.append_right _).trans ?_
    refine List.Perm.trans ?_ ((List.Perm.append_left (lc.map MF.f) h2).symm)
    exact List.perm_middle.symm
theorem disk_info6 : (Try.prog.info? 71).map (·.size) = some 6 := by kernel_rfl
/-- a disk is stored into a variable that was made for it -/
theorem wpl_store_dk {w w1 : World} {ops : Array Oper} {rest : List Oper} {o : Oper} {a : Act} {Q : Exit → Act → World → Prop} {z : Array Value} (hgd : o.guard = none) (x y : Operand) (ho : o.op = .store 71 x y) (hw : w = w1.alloc (.cells z 71)) (hz : z.size = 6) (g : Nat) (hg : w1.heap.size = g)
    (bm : Nat) (d : AD) (fl : Bool) (lf : Int) (hx : a.eval x = .pointer (some ⟨g, 0, none⟩)) (hy : a.eval y = .agg (dCells bm d fl lf)) (h : ∀ w', Hid (DBk w' g bm d fl lf) → Hid (Below w1.heap.size w1 w') → Hid (g < w'.heap.size) → wpList Try.prog ops Q rest (a.put o.dst undef) w') : wpList Try.prog ops Q (o :: rest) a w := by
  subst hw; subst hg
  have hk : (w1.alloc (.cells z 71)).heap[w1.heap.size]? = some (.cells z 71 (0, 0)) := heap_alloc_last w1 _
  refine wpList_store_row hgd 71 x y ho w1.heap.size (dCells bm d fl lf) hx hy _ z hk (by rw [show (dCells bm d fl lf).size = 6 from rfl]; exact disk_info6) (by rw [hz]; rfl) (by simp [dCells, Value.oneCell']) ?_
  exact h _ (setRow_heap _ _ _ _ _ _ hk) (below_row (below_alloc w1 _) (Nat.le_refl _) _) (Lib.hid (by simp))
theorem clone_size (w1 : World) (cb : Nat) (v : Value) : ((w1.alloc (.map #[] 0)).setCell ⟨cb, 1, none⟩ v).heap.size = w1.heap.size + 1 := by simp
/-- where a clone begins -/
theorem clone_start {w w1 : World} {b bm cb : Nat} {l : List MF} {d : AD} {fl : Bool} {lf : Int} (hd : Dk w b bm l d) (ht : d.down = false → fl = d.told ∧ lf = d.after) (hb : Below w.heap.size w w1) (hc : DBk w1 cb bm d fl lf) (hcb : w.heap.size ≤ cb) :
    (w1.alloc (.map #[] 0)).cell? ⟨cb, 1, none⟩ = some (.map (some bm)) ∧ (w1.alloc (.map #[] 0)).frozen? ⟨cb, 1, none⟩ = false ∧ ((w1.alloc (.map #[] 0)).setCell ⟨cb, 1, none⟩ (.map (some w1.heap.size))).cell? ⟨b, 1, none⟩ = some (.map (some bm)) ∧
    Hid (MapOf ((w1.alloc (.map #[] 0)).setCell ⟨cb, 1, none⟩ (.map (some w1.heap.size))) bm l) ∧ Hid (ClK w cb w1.heap.size [] d l l ((w1.alloc (.map #[] 0)).setCell ⟨cb, 1, none⟩ (.map (some w1.heap.size)))) := by
  have hlt := (Array.getElem?_eq_some_iff.1 hc).1
  have hcA : DBk (w1.alloc (.map #[] 0)) cb bm d fl lf := by unfold DBk at *; rw [heap_alloc_old _ _ hlt]; exact hc
  have hbl : Below w.heap.size w ((w1.alloc (.map #[] 0)).setCell ⟨cb, 1, none⟩ (.map (some w1.heap.size))) := (chain hb (below_alloc w1 _)).setCell hcb _
  have hk := hd.below hbl
  obtain ⟨fl2, lf2, hb2, _⟩ := hk.blk
  refine ⟨hcA.cells.2.1, hcA.frozen 1, hb2.cells.2.1, hk.map, ⟨hbl, ⟨⟨fl, lf, ?_, ht⟩, ?_, fun x hx => by simp at hx, by simp, rfl⟩, ?_⟩, by simp, by simp⟩
  · have := hcA.set 1 (.map (some w1.heap.size))
    exact this
  · exact MO.keep (MO.made _ w1) (Below.heap_setCell (w1.alloc (.map #[] 0)) ⟨cb, 1, none⟩ _ _ (by show w1.heap.size ≠ cb; omega))
  · rintro k (rfl | rfl | ⟨x, hx, _⟩)
    · exact hcb
    · exact hb.size
    · simp at hx
set_option maxRecDepth 8000 in
set_option maxHeartbeats 2000000 in
theorem kclone_any (w : World) (b bm : Nat) (l : List MF) (d : AD) (h : Dk w b bm l d) (hg : Good d) :
    Calls Try.prog 15 #[ptr ⟨b, 0, none⟩] w fun e w' => ∃ cb cm lc, e = .returned (ptr ⟨cb, 0, none⟩) ∧ LyS w cb cm lc d w' := by
  have HN := Lib.hid (h.names hg)
  have HD := Lib.hid h
  have HA : Hid (Asc (l.map MF.f)) := Lib.hid (by rw [← h.files]; exact hg.asc)
  have HGF : Hid (∀ x ∈ l, GF x.f) := Lib.hid fun x hx => hg.file _ (by rw [h.files]; exact List.mem_map_of_mem hx)
  have HFL := Lib.hid h.files
  obtain ⟨fl, lf, hb, ht⟩ := h.blk
  have HB := Lib.hid hb
  have HT := Lib.hid ht
  have HZM := Lib.hid h.map.lt
  have HLN : Hid (l.length ≤ 64) := Lib.hid (by have := hg.few; rwa [h.files, List.length_map] at this)
  have hmm := @run_makeMap Try.prog
  clear hb ht h hg
  go_enter Try.func15, Try.ntmps15
  go_wp2_with (first
    | (refine wpList_load_row rfl 71 (.tmp 9) rfl b rfl _ (dCells bm d fl lf) (0, 0) _ HB.out Try.underlying71 rfl disk_info6 ?_)
    | (refine wpl_store_dk rfl (.tmp 3) (.tmp 10) rfl rfl rfl w.heap.size rfl bm d fl lf rfl rfl ?_; intro w1 HC1 HB1 HL1; obtain ⟨c1, z1, cb1, HM3, HCK⟩ := clone_start HD.out HT.out HB1.out HC1.out (Nat.le_refl _))
    | (refine wpl_range rfl (.tmp 16) 69 rfl 9 92 Try.underlying9 Try.underlying69 bm l rfl HM3.out ?_; go_loud (intro w4 HR4 hG4 HS4; have HCK4 := Lib.hid (HCK.out.below ((Below.refl _ _).grown hG4.out (Nat.le_refl _) (fun j hj => by cases hj))); rw [clone_size] at HR4 ⊢; clear hG4)))
  obtain ⟨cm, hcm⟩ : ∃ cm, w1.heap.size = cm := ⟨_, rfl⟩
  rw [hcm] at HR4 HCK4 ⊢
  have HRW : Hid (w.heap.size ≤ cm) := Lib.hid (by have h2 := HB1.out.size; omega)
  have HLT : Hid (bm < cm) := Lib.hid (by have h1 := HZM.out; have h2 := HB1.out.size; omega)
  obtain ⟨cb, hcb⟩ : ∃ cb, w.heap.size = cb := ⟨_, rfl⟩
  rw [hcb] at HCK4 ⊢
  have HCB := Lib.hid hcb
  clear hcm hcb HCK HM3 c1 z1 cb1
  go_frame
  go_loopw [4] (fun _ wr => ∃ (todo lc : List MF) (cnt : Nat), Hid (RPk wr bm (cm + 1) l todo cnt) ∧ Hid (ClK w cb cm lc d l todo wr)) (fun _ wr => wr.rangeLeft bm (cm + 1))
  case atStart => exact ⟨l, [], l.length, HR4, HCK4⟩
  case round =>
    obtain ⟨todo, lc, cnt, HR, HK⟩ := hrel
    go_wp2_with (first
      | (refine wpl_next secE rfl (.tmp 17) rfl 9 Try.underlying9 bm (cm + 1) l todo cnt rfl HR.out ?_ ?_))
    · intro h0
      subst h0
      have HFN : Hid (LyS w cb cm lc d wr) := Lib.hid (by
        have h1 := HK.out.perm
        rw [List.map_nil, List.append_nil] at h1
        have h2 : lc.map MF.f = d.L := by
          rw [HFL.out]
          refine asc_perm ?_ HA.out h1
          show (lc.map MF.f).Pairwise _
          rw [List.pairwise_map]; exact HK.out.asc
        have h3 := HK.out.ly
        rw [h2] at h3
        exact h3)
      go_wp2
      go_ret
      exact ⟨cb, cm, lc, rfl, HFN.out⟩
    · intro x w5 cnt5 hx HR5 hlt hG5 hs5 hen
      have hnd : (todo.map MF.nm).Nodup := HN.out.sublist (HR.out.sub.map _)
      have HND := Lib.hid hnd
      have hxl := HR.out.sub.subset hx.out
      have HX := Lib.hid hx.out
      have HXF := Lib.hid (HGF.out x hxl)
      have HE := Lib.hid (HR.out.left_eq)
      have HK5 := Lib.hid (HK.out.iter HR.out hG5.out (by have h1 := HCB.out; have h2 := HRW.out; omega))
      have HLL : Hid (lc.length < maxLen) := Lib.hid (by
        have h1 := HK.out.perm.length_eq
        rw [List.length_append, List.length_map, List.length_map, List.length_map] at h1
        have h2 := HLN.out
        unfold maxLen; omega)
      have HD5 := Lib.hid (HD.out.below HK5.out.ly.below)
      have HSR := Lib.hid (HD5.out.row x hxl)
      have HSZ := Lib.hid (size_name HXF.out.name)
      obtain ⟨fl5, lf5, hb5, _⟩ := HK5.out.ly.dk.blk
      have c5 := hb5.cells.2.1
      obtain ⟨n, hn⟩ : ∃ n, x.f.n = n := ⟨_, rfl⟩
      have hv : x.v = .slice (some ⟨x.g, 0, none⟩) n x.c := by rw [← hn]; rfl
      rw [hv] at hen ⊢
      have HXN := Lib.hid hn
      have HN1 : Hid (1 ≤ n ∧ n ≤ 64) := Lib.hid (by rw [← hn]; exact ⟨HXF.out.n1, HXF.out.n64⟩)
      clear hnd hxl hx hb5 hn hv hs5 hG5 HK HR
      go_wp2
      refine wp_region_held_drew (S := (fun w' => w'.cell? ⟨cb, 1, none⟩ = some (.map (some cm)))) (by kernel_rfl) c5 (fun hS => ?_)
      refine wpAnyH_take (i := 0) (oi := ({ dst := some 23, op := Op.fieldAddr 71 (Operand.tmp 3) 1, type := 0, pos := "disk.go:181", after := #[], guard := none } : Oper)) (v := ?_) rfl (by kernel_rfl) (by kernel_rfl) (by kernel_rfl) (fun _ _ _ h => h) (Or.inl ⟨by rfl, ?_⟩) hS ?_
      rotate_left
      · (intro w hSw; (try dsimp only at hSw); go_simp; try with_reducible rfl)
      (try simp only [Act.put, List.setIfInBounds_toArray, List.set_cons_zero, List.set_cons_succ])
      refine wpAnyH_take (i := 1) (oi := ({ dst := some 24, op := Op.load 69 (Operand.tmp 23), type := 69, pos := "disk.go:181", after := #[{ on := 0, ground := Ground.data }], guard := none } : Oper)) (v := ?_) rfl (by kernel_rfl) (by kernel_rfl) (by kernel_rfl) (fun _ _ _ h => h) (Or.inl ⟨by rfl, ?_⟩) hS ?_
      rotate_left
      · (intro w hSw; (try dsimp only at hSw); go_simp; try with_reducible rfl)
      (try simp only [Act.put, List.setIfInBounds_toArray, List.set_cons_zero, List.set_cons_succ])
      refine wpAnyH_take (i := 2) (oi := ({ dst := some 25, op := Op.move (Operand.tmp 4), type := 9, pos := "disk.go:181", after := #[], guard := none } : Oper)) (v := ?_) rfl (by kernel_rfl) (by kernel_rfl) (by kernel_rfl) (fun _ _ _ h => h) (Or.inl ⟨by rfl, ?_⟩) hS ?_
      rotate_left
      · (intro w hSw; (try dsimp only at hSw); go_simp; try with_reducible rfl)
      (try simp only [Act.put, List.setIfInBounds_toArray, List.set_cons_zero, List.set_cons_succ])
      refine wpAnyH_take (i := 3) (oi := ({ dst := some 26, op := Op.move (Operand.tmp 5), type := 92, pos := "disk.go:181", after := #[], guard := none } : Oper)) (v := ?_) rfl (by kernel_rfl) (by kernel_rfl) (by kernel_rfl) (fun _ _ _ h => h) (Or.inl ⟨by rfl, ?_⟩) hS ?_
      rotate_left
      · (intro w hSw; (try dsimp only at hSw); go_simp; try with_reducible rfl)
      (try simp only [Act.put, List.setIfInBounds_toArray, List.set_cons_zero, List.set_cons_succ])
      refine rg_one 4 ({ dst := some 27, op := Op.call { callee := Callee.value (Operand.func 51), args := #[Operand.tmp 26], argTypes := #[92] }, type := 92, pos := "disk.go:181", after := #[{ on := 3, ground := Ground.data }], guard := none } : Oper) (by kernel_rfl) rfl (fun K hK => ?_)
      go_simp
      (go_at_call 51; (with_reducible refine (sclone_any w5.drew x.g x.c n (secsOf x.f) (HSR.out.keep rfl) (by rw [secsOf_length]; exact HXN.out) HN1.out.1 HN1.out.2).mono ?_); rintro e w6 ⟨g6, c6, rfl, hsr6, hge6, hb6⟩; have HSR6 := Lib.hid hsr6; have HB6 := Lib.hid hb6; have HGE := Lib.hid hge6; have HK6 := Lib.hid ((HK5.out.below (Below.refl _ _).drew).below hb6); have HR6 := Lib.hid ((HR5.out.below (Below.refl _ _).drew).below hb6); have hN := cell_keep hb6 hS; clear hsr6 hge6 hb6)
      refine hK.out _ _ ?_ (fun hS1 => ?_)
      · (exact hN)
      clear hK K hS; have hS := hS1; clear hS1
      (try simp only [Act.put, List.setIfInBounds_toArray, List.set_cons_zero, List.set_cons_succ])
      refine rg_one 5 ({ dst := none, op := Op.mapUpdate 69 (Operand.tmp 24) (Operand.tmp 25) (Operand.tmp 27), type := 0, pos := "disk.go:181", after := #[{ on := 1, ground := Ground.data }, { on := 2, ground := Ground.data }, { on := 4, ground := Ground.data }, { on := 4, ground := Ground.chain }, { on := 0, ground := Ground.phase }, { on := 1, ground := Ground.phase }, { on := 2, ground := Ground.phase }, { on := 3, ground := Ground.phase }, { on := 4, ground := Ground.phase }], guard := none } : Oper) (by kernel_rfl) rfl (fun K hK => ?_)
      rw [if_pos (by rfl)]; refine wp_put secE (.tmp 24) (.tmp 25) (.tmp 27) 69 rfl 9 92 Try.underlying9 Try.underlying69 cm lc rfl HK6.out.ly.dk.map HLL.out ⟨x.f, g6, c6⟩ rfl HSZ.out (by show _ = Value.slice (some ⟨g6, 0, none⟩) x.f.n c6; rw [HXN.out]; rfl) ?_; intro w7 HM7 hG7; obtain ⟨lc7, hk7⟩ := HK6.out.more HN.out HND.out HX.out g6 c6 HSR6.out (Nat.le_trans HK5.out.ly.below.size HGE.out) (fun k hk e => by have h1 := HK5.out.ly.dk.lt k hk; have h2 := HGE.out; have h3 : w5.drew.heap.size = w5.heap.size := rfl; omega) HM7.out hG7.out; have HK7 := Lib.hid hk7; have HR7 := Lib.hid (HR6.out.kept hG7.out (fun e => by have := HLT.out; have := Option.some.inj e; omega) (fun e => by have := Option.some.inj e; omega)); clear hN; obtain ⟨_, _, hb7, _⟩ := hk7.ly.dk.blk; have hN := hb7.cells.2.1; clear hk7 hb7 hG7
      refine hK.out _ _ ?_ (fun hS1 => ?_)
      · (exact hN)
      clear hK K hS; have hS := hS1; clear hS1
      (try simp only [Act.put])
      refine wpAnyH_done (by kernel_rfl) ?_ _
      have HE7 := Lib.hid (HR7.out.left_eq)
      clear hS
      go_wp2
      go_roundw
      case rel => exact ⟨_, lc7, cnt5, HR7, HK7⟩
      case measure => rw [HE.out, HE7.out]; exact hlt.out
end Go.Proofs.Ytpnialanmidekaa
/-
  LAYER 8 (disk), the program's own disk: what is answered of nil. No condition.
-/
namespace Go.Proofs.Ytpnialanmidekaa
open Go.RowKit
theorem nask (v : Value) (w : World) : Calls Try.prog 52 #[.pointer none, v] w fun e w' => e = .returned (.int .i64 11) ∧ w = w' := by
  go_enter Try.func52, Try.ntmps52
  go_wp2
  go_ret
  exact ⟨rfl, rfl⟩
theorem ntell (v u : Value) (w : World) : Calls Try.prog 55 #[.pointer none, v, u] w fun e w' => e = .returned (.int .i64 11) ∧ w = w' := by
  go_enter Try.func55, Try.ntmps55
  go_wp2_with (first
    | (go_at_call 52; (with_reducible refine (nask _ _).mono ?_); rintro e w1 ⟨rfl, rfl⟩))
  go_ret
  exact ⟨rfl, rfl⟩
theorem nmake (w : World) (s : ByteArray) (n : Int) : Calls Try.prog 17 #[.pointer none, .string s, .int .i64 n] w fun e w' => e = .returned (.int .i64 11) ∧ Below w.heap.size w w' := by
  have hmf := mf_run
  go_enter Try.func17, Try.ntmps17
  go_wp2_with (first
    | (go_at_call 55; (with_reducible refine (ntell _ _ _).mono ?_); rintro e w1 ⟨rfl, rfl⟩))
  go_ret
  exact ⟨rfl, below_alloc _ _⟩
theorem nwrite (w : World) (s : ByteArray) (n : Int) : Calls Try.prog 18 #[.pointer none, .string s, .int .i64 n, .slice none 0 0] w fun e w' => e = .returned (.int .i64 11) ∧ Below w.heap.size w w' := by
  have hmf := mf_run
  go_enter Try.func18, Try.ntmps18
  go_wp2_with (first
    | (go_at_call 55; (with_reducible refine (ntell _ _ _).mono ?_); rintro e w1 ⟨rfl, rfl⟩))
  go_ret
  exact ⟨rfl, below_alloc _ _⟩
theorem nsync (w : World) (s : ByteArray) : Calls Try.prog 19 #[.pointer none, .string s] w fun e w' => e = .returned (.int .i64 11) ∧ Below w.heap.size w w' := by
  have hmf := mf_run
  go_enter Try.func19, Try.ntmps19
  go_wp2_with (first
    | (go_at_call 55; (with_reducible refine (ntell _ _ _).mono ?_); rintro e w1 ⟨rfl, rfl⟩))
  go_ret
  exact ⟨rfl, below_alloc _ _⟩
theorem nrename (w : World) (s t : ByteArray) : Calls Try.prog 20 #[.pointer none, .string s, .string t] w fun e w' => e = .returned (.int .i64 11) ∧ Below w.heap.size w w' := by
  have hmf := mf_run
  by_cases hst : s = t
  · subst hst
    go_enter Try.func20, Try.ntmps20
    go_wp2_with (first
      | (go_at_call 52; (with_reducible refine (nask _ _).mono ?_); rintro e w1 ⟨rfl, rfl⟩))
    go_ret
    exact ⟨rfl, below_alloc _ _⟩
  · have hne := str_ne hst
    clear hst
    go_enter Try.func20, Try.ntmps20
    go_wp2_with (first
      | (go_at_call 55; (with_reducible refine (ntell _ _ _).mono ?_); rintro e w1 ⟨rfl, rfl⟩))
    go_ret
    exact ⟨rfl, below_alloc _ _⟩
theorem nremove (w : World) (s : ByteArray) : Calls Try.prog 21 #[.pointer none, .string s] w fun e w' => e = .returned (.int .i64 11) ∧ Below w.heap.size w w' := by
  have hmf := mf_run
  go_enter Try.func21, Try.ntmps21
  go_wp2_with (first
    | (go_at_call 55; (with_reducible refine (ntell _ _ _).mono ?_); rintro e w1 ⟨rfl, rfl⟩))
  go_ret
  exact ⟨rfl, below_alloc _ _⟩
theorem nfail (w : World) (n : Int) : Calls Try.prog 22 #[.pointer none, .int .i64 n] w fun e w' => e = .returned (.int .i64 11) ∧ Below w.heap.size w w' := by
  have hmf := mf_run
  go_enter Try.func22, Try.ntmps22
  go_wp2_with (first
    | (go_at_call 52; (with_reducible refine (nask _ _).mono ?_); rintro e w1 ⟨rfl, rfl⟩))
  go_ret
  exact ⟨rfl, below_alloc _ _⟩
theorem nread (w : World) (s : ByteArray) (n m : Int) : Calls Try.prog 16 #[.pointer none, .string s, .int .i64 n, .int .i64 m] w fun e w' => ∃ v, e = .returned (.tuple #[v, .int .i64 11]) ∧ Below w.heap.size w w' := by
  have hmf := mf_run
  go_enter Try.func16, Try.ntmps16
  go_wp2_with (first
    | (go_at_call 52; (with_reducible refine (nask _ _).mono ?_); rintro e w1 ⟨rfl, rfl⟩))
  go_ret2
  exact ⟨_, rfl, below_alloc _ _⟩
theorem nsize (w : World) (s : ByteArray) : Calls Try.prog 23 #[.pointer none, .string s] w fun e w' => e = .returned (.int .i64 0) ∧ Below w.heap.size w w' := by
  go_enter Try.func23, Try.ntmps23
  go_wp2
  go_ret
  exact ⟨rfl, Below.refl _ _⟩
theorem nlist0 (w : World) : Calls Try.prog 24 #[.pointer none] w fun e w' => e = .returned (.slice none 0 0) ∧ w = w' := by
  go_enter Try.func24, Try.ntmps24
  go_wp2
  go_ret
  exact ⟨rfl, rfl⟩
theorem nused (w : World) : Calls Try.prog 26 #[.pointer none] w fun e w' => e = .returned (.int .i64 0) ∧ Below w.heap.size w w' := by
  go_enter Try.func26, Try.ntmps26
  go_wp2
  go_ret
  exact ⟨rfl, Below.refl _ _⟩
theorem nops (w : World) : Calls Try.prog 28 #[.pointer none] w fun e w' => e = .returned (.int .i64 0) ∧ Below w.heap.size w w' := by
  go_enter Try.func28, Try.ntmps28
  go_wp2
  go_ret
  exact ⟨rfl, Below.refl _ _⟩
theorem ndown (w : World) : Calls Try.prog 29 #[.pointer none] w fun e w' => e = .returned (.bool false) ∧ Below w.heap.size w w' := by
  go_enter Try.func29, Try.ntmps29
  go_wp2
  go_ret
  exact ⟨rfl, Below.refl _ _⟩
theorem nclone (w : World) : Calls Try.prog 15 #[.pointer none] w fun e w' => e = .returned (.pointer none) ∧ Below w.heap.size w w' := by
  go_enter Try.func15, Try.ntmps15
  go_wp2
  go_ret
  exact ⟨rfl, Below.refl _ _⟩
theorem ncrash (w : World) : Calls Try.prog 14 #[.pointer none, .agg #[.slice none 0 0, .int .i64 0, .int .i64 0]] w fun e w' => e = .returned (.tuple #[]) ∧ Below w.heap.size w w' := by
  go_enter Try.func14, Try.ntmps14
  go_wp2
  exact bodyPost_ret (results_none rfl _ _ _) rfl ⟨rfl, below_alloc _ _⟩
theorem nfiles0 (w : World) : Calls Try.prog 25 #[.pointer none] w fun e w' => e = .returned (.slice none 0 0) ∧ w = w' := by
  go_enter Try.func25, Try.ntmps25
  go_wp2_with (first
    | (go_at_call 24; (with_reducible refine (nlist0 _).mono ?_); rintro e w1 ⟨rfl, rfl⟩))
  go_loopw [3, 12] (fun v iv wr => v = .slice none 0 0 ∧ iv = .int .i64 0 ∧ w = wr) (fun _ _ _ => 0)
  case atStart => exact ⟨rfl, rfl, rfl⟩
  case round =>
    obtain ⟨rfl, rfl, rfl⟩ := hrel
    go_wp2
    go_ret
    exact ⟨rfl, rfl⟩
theorem nwaits0 (w : World) : Calls Try.prog 48 #[.pointer none] w fun e w' => e = .returned (.slice none 0 0) ∧ w = w' := by
  go_enter Try.func48, Try.ntmps48
  go_wp2_with (first
    | (go_at_call 24; (with_reducible refine (nlist0 _).mono ?_); rintro e w1 ⟨rfl, rfl⟩))
  go_loopw [3, 11] (fun v iv wr => v = .slice none 0 0 ∧ iv = .int .i64 0 ∧ w = wr) (fun _ _ _ => 0)
  case atStart => exact ⟨rfl, rfl, rfl⟩
  case round =>
    obtain ⟨rfl, rfl, rfl⟩ := hrel
    go_wp2
    go_ret
    exact ⟨rfl, rfl⟩
theorem nwaiting (w : World) : Calls Try.prog 27 #[.pointer none] w fun e w' => e = .returned (.int .i64 0) ∧ Below w.heap.size w w' := by
  go_enter Try.func27, Try.ntmps27
  go_wp2_with (first
    | (go_at_call 48; (with_reducible refine (nwaits0 _).mono ?_); rintro e w1 ⟨rfl, rfl⟩))
  go_ret
  exact ⟨rfl, Below.refl _ _⟩
theorem nil_says : NilSays where
  make := nmake
  write := nwrite
  read := nread
  sync := nsync
  rename := nrename
  remove := nremove
  fail := nfail
  crash := ncrash
  size := nsize
  list w := (nlist0 w).mono (by rintro e w' ⟨rfl, rfl⟩; exact ⟨_, _, rfl, Below.refl _ _⟩)
  files w := (nfiles0 w).mono (by rintro e w' ⟨rfl, rfl⟩; exact ⟨_, _, rfl, Below.refl _ _⟩)
  used := nused
  waiting := nwaiting
  ops := nops
  down := ndown
  clone := nclone
end Go.Proofs.Ytpnialanmidekaa
/-
  LAYER 8 (disk): the program's own disk is what the laws' walks ask for. No condition.
-/
namespace Go.Proofs.Ytpnialanmidekaa
open Go.RowKit
/-! of what doesn't wait what is seen is lasting, behind each call -/
theorem Calm.of_L {d d' : AD} (h : Calm d) (hl : d'.L = d.L) : Calm d' := by unfold Calm at *; rw [hl]; exact h
theorem Calm.op {d : AD} (h : Calm d) : Calm d.opd := h.of_L d.opd_L
theorem Calm.without {d : AD} (h : Calm d) (s : ByteArray) : Calm (d.without s) := fun f hf => h f (mem_without.1 hf).1
theorem Calm.put {d : AD} (h : Calm d) {f : AF} (hf : CalmF f) : Calm (d.withF f) := by
  intro g hg
  rcases mem_ins.1 hg with rfl | hg
  · exact hf
  · exact h g (mem_without.1 hg).1
theorem opR_calm {d : AD} (h : Calm d) (g : AD → AD) (hg : ∀ x : AD, x = d.opd → Calm x → Calm (g x)) : Calm (d.opR g).1 := by
  unfold AD.opR
  split
  · exact h.op
  · exact hg _ rfl h.op
theorem calm_new (s : ByteArray) (n : Nat) : CalmF (newF s n) := fun _ _ _ => rfl
theorem Calm.make {d : AD} (h : Calm d) (s : ByteArray) (n : Int) : Calm (d.makeR s n).1 := by
  unfold AD.makeR
  split
  · exact h
  split
  · exact h
  split
  · exact h
  split
  · exact h
  split
  · exact h
  · exact opR_calm h _ fun x _ hx => hx.put (calm_new _ _)
theorem Calm.sync {d : AD} (h : Calm d) (s : ByteArray) : Calm (d.syncR s).1 := by
  unfold AD.syncR
  split
  · exact h
  split
  · exact h
  · exact opR_calm h _ fun x _ hx => hx.put fun _ _ _ => rfl
theorem Calm.remove {d : AD} (h : Calm d) (s : ByteArray) : Calm (d.removeR s).1 := by
  unfold AD.removeR
  split
  · exact h
  split
  · exact h
  · exact opR_calm h _ fun x _ hx => hx.without s
theorem Calm.fail {d : AD} (h : Calm d) (n : Int) : Calm (d.failR n).1 := by
  unfold AD.failR
  split
  · exact h
  split
  · exact h
  · exact h
theorem Calm.rename {d : AD} (h : Calm d) (s t : ByteArray) : Calm (d.renameR s t).1 := by
  unfold AD.renameR
  split
  · exact h
  split
  · exact h
  rename_i hh
  split
  · exact h
  split
  · exact h
  · have hcf : CalmF (d.get s) := h _ (get_mem (Decidable.not_not.1 hh))
    exact opR_calm h _ fun x _ hx => (hx.without s).put (fun i hi hw => hcf i hi hw)
theorem calm_written {f : AF} (h : CalmF f) (p m : Nat) (fs : List Int) (hf : fs.length = m * 64) (hs : f.seen.length = f.n * 64) (hw : f.ws.length = f.n) (hp : p + m ≤ f.n) : CalmF (f.written p m fs) := by
  intro i hi hwi
  have h1 := wrS2_all f p m fs hf hs hw hp
  have h2 := wrS2_get f p fs m i hi
  rw [h1, secsOf_get (f.written p m fs) i hi] at h2
  by_cases hc : p ≤ i ∧ i < p + m
  · rw [if_pos hc] at h2
    simp only [Option.some.injEq, Sc.mk.injEq] at h2
    rw [h2.2.2] at hwi; simp at hwi
  · rw [if_neg hc] at h2
    simp only [Option.some.injEq, Sc.mk.injEq] at h2
    rw [h2.2.1, h2.1]
    exact h i hi (by rw [← h2.2.2]; exact hwi)
theorem Calm.write {d : AD} (h : Calm d) (hg : Good d) (s : ByteArray) (at_ : Int) (m : Nat) (fs : List Int) (hf : fs.length = m * 64) : Calm (d.writeR s at_ m fs).1 := by
  unfold AD.writeR
  split
  · exact h
  split
  · exact h
  rename_i hh
  split
  · exact h
  rename_i hc
  have hm := get_mem (Decidable.not_not.1 hh)
  have hgf := hg.file _ hm
  exact opR_calm h _ fun x _ hx => hx.put (calm_written (h _ hm) at_.toNat m fs hf hgf.seen hgf.ws (by omega))
theorem Calm.crash (d : AD) (kb : List Int) (torn cut : Int) : Calm (d.crashR kb torn cut) := by
  intro f hf
  have : ∀ k, ∀ f ∈ (crL kb torn cut d.L k).1, CalmF f := by
    intro k
    induction k with
    | zero => intro f hf; simp [crL] at hf
    | succ k ih =>
      intro f hf
      cases hq : d.L[k]? with
      | none => simp only [crL, hq] at hf; exact ih f hf
      | some g =>
        rw [crL_step kb torn cut d.L k g hq] at hf
        rcases List.mem_append.1 hf with hf | hf
        · exact ih f hf
        · simp only [List.mem_singleton] at hf
          subst hf
          intro _ _ _; rfl
  exact this _ f hf
theorem Calm.still {d : AD} (h : Still d) : Calm d := fun f hf i _ _ => by rw [(h.file f hf).2]
/-- the program's disk -/
def DKq (w : World) (p : Addr) (F : Nat → Bool) (d : AD) : Prop := DKp w p F d ∧ Calm d
theorem disk_says : DiskSays DKq where
  keep h hs hk := ⟨h.1.keep hs hk, h.2⟩
  foot h := h.1.1
  new c w hc := (pnew_any c w hc).mono (by
    rintro e w' ⟨b, bm, rfl, hl⟩
    obtain ⟨F, h1, h2⟩ := hl.dkp
    exact ⟨_, F, rfl, ⟨h1, fun f hf => by simp [AD.newD] at hf⟩, h2⟩)
  lay M c v l w hM hl hc hll hlf := (klay_any M c v l w hM hl hc hll hlf).mono (by
    rintro e w' (⟨h1, rfl, h2⟩ | ⟨h1, b, bm, lm, rfl, h2⟩)
    · exact .inl ⟨h1, rfl, h2⟩
    · obtain ⟨F, h3, h4⟩ := h2.dkp
      have hlen : ∀ f ∈ l, f.2.2.length = f.2.1 * 64 ∧ Bytes f.2.2 := fun f hf => by
        obtain ⟨i, hi⟩ := List.getElem?_of_mem hf
        obtain ⟨a, k, rfl, _⟩ := hl.form
        obtain ⟨_, _, _, _, _, _, _, hfs⟩ := hl.at_ i f hi
        exact ⟨hfs.length, (hlf f hf).2.2⟩
      exact .inr ⟨h1, _, F, rfl, ⟨h3, Calm.still (lay_good c hc l hlen h1).2⟩, h4⟩)
  make w p F d s n h hg hs hn := (kmake_any w p F d s n h.1 hg hs hn).mono (by
    rintro e w' ⟨F', rfl, h1, h2⟩; exact ⟨F', rfl, ⟨h1, h.2.make s n⟩, h2⟩)
  write w p F d s at_ v m fs h hg hs ha hf _ hm := (kwrite_any w p F d s at_ v m fs h.1 hg hs ha hf hm).mono (by
    rintro e w' ⟨F', rfl, h1, h2⟩; exact ⟨F', rfl, ⟨h1, h.2.write hg s at_ m fs hf.length⟩, h2⟩)
  sync w p F d s h hg hs := (ksync_any w p F d s h.1 hg hs).mono (by
    rintro e w' ⟨F', rfl, h1, h2⟩; exact ⟨F', rfl, ⟨h1, h.2.sync s⟩, h2⟩)
  rename w p F d s t h hg hs ht := (krename_any w p F d s t h.1 hg hs ht).mono (by
    rintro e w' ⟨F', rfl, h1, h2⟩; exact ⟨F', rfl, ⟨h1, h.2.rename s t⟩, h2⟩)
  remove w p F d s h hg hs := (kremove_any w p F d s h.1 hg hs).mono (by
    rintro e w' ⟨F', rfl, h1, h2⟩; exact ⟨F', rfl, ⟨h1, h.2.remove s⟩, h2⟩)
  fail w p F d n h _ hn := (kfail_any w p F d n h.1 hn).mono (by
    rintro e w' ⟨F', rfl, h1, h2⟩; exact ⟨F', rfl, ⟨h1, h.2.fail n⟩, h2⟩)
  crash w p F d v len kb torn cut h hg hv hkb ht hc := (kcrash_any w p F d v len kb torn cut h.1 hg h.2 hv hkb ht hc).mono (by
    rintro e w' ⟨F', rfl, h1, h2⟩; exact ⟨F', rfl, ⟨h1, Calm.crash d kb torn cut⟩, h2⟩)
  read w p F d s at_ n h hg hs ha hn := kread_any w p F d s at_ n h.1 hg hs ha hn
  size w p F d s h hg hs := by
    obtain ⟨⟨_, b, bm, l, rfl, hd, _⟩, _⟩ := h
    exact (psize_any w b bm l d s hd hs).mono (by rintro e w' ⟨rfl, rfl⟩; exact ⟨rfl, Below.refl _ _⟩)
  list w p F d h hg := by
    obtain ⟨⟨_, b, bm, l, rfl, hd, _⟩, _⟩ := h
    exact plist_any w b bm l d hd hg
  files w p F d h hg := by
    obtain ⟨⟨_, b, bm, l, rfl, hd, _⟩, _⟩ := h
    exact pfiles_any w b bm l d hd hg
  used w p F d h hg := by
    obtain ⟨⟨_, b, bm, l, rfl, hd, _⟩, _⟩ := h
    exact pused_any w b bm l d hd hg
  waiting w p F d h hg := by
    obtain ⟨⟨_, b, bm, l, rfl, hd, _⟩, _⟩ := h
    exact pWaiting_any w b bm l d hd hg
  ops w p F d h _ := by
    obtain ⟨⟨_, b, bm, l, rfl, hd, _⟩, _⟩ := h
    exact (pops_any w b bm l d hd).mono (by rintro e w' ⟨rfl, rfl⟩; exact ⟨rfl, Below.refl _ _⟩)
  down w p F d h _ := by
    obtain ⟨⟨_, b, bm, l, rfl, hd, _⟩, _⟩ := h
    exact (pdown_any w b bm l d hd).mono (by rintro e w' ⟨rfl, rfl⟩; exact ⟨rfl, Below.refl _ _⟩)
  clone w p F d h hg := by
    obtain ⟨⟨_, b, bm, l, rfl, hd, _⟩, hc⟩ := h
    exact (kclone_any w b bm l d hd hg).mono (by
      rintro e w' ⟨cb, cm, lc, rfl, hl⟩
      obtain ⟨G, h1, h2⟩ := hl.dkp
      exact ⟨_, G, rfl, ⟨h1, hc⟩, h2⟩)
end Go.Proofs.Ytpnialanmidekaa
