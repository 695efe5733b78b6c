/-
  LAYER 8 (disk): what was laid is as it may be, and a crash leaves it as it is (plain mathematics). No condition.
-/
import Derived.Test.YtpnialanmidekaaDiskGood
namespace Go.Proofs.Ytpnialanmidekaa
open Go.RowKit
/-- nothing waits, and what is seen is lasting -/
structure Still (d : AD) : Prop where
  down : d.down = false
  told : d.told = false
  after : d.after = 0
  file : ∀ f ∈ d.L, f.ws = List.replicate f.n false ∧ f.seen = f.las
theorem crS_still (kb : List Int) (torn cut : Int) (f : AF) (i0 : Nat) (hw : f.ws = List.replicate f.n false) : ∀ j, crS kb torn cut f i0 j = (f.las.take (j * 64), i0)
  | 0 => by simp [crS]
  | j + 1 => by
    have hg : f.ws.getD j false = false := by rw [hw]; simp [List.getD, List.getElem?_replicate]; split <;> rfl
    simp only [crS, crS_still kb torn cut f i0 hw j, hg]
    have e : f.las.take ((j + 1) * 64) = f.las.take (j * 64) ++ chunk f.las j := by
      unfold chunk; rw [show (j + 1) * 64 = j * 64 + 64 from by omega, List.take_add]
    simp [secC, e]
theorem crL_still (kb : List Int) (torn cut : Int) (L : List AF) (hL : ∀ f ∈ L, f.ws = List.replicate f.n false ∧ f.seen = f.las ∧ f.las.length = f.n * 64) : ∀ k, k ≤ L.length → crL kb torn cut L k = (L.take k, 0)
  | 0, _ => by simp [crL]
  | k + 1, h => by
    obtain ⟨f, hf⟩ := row_some (L := L) (i := k) (by omega)
    obtain ⟨h1, h2, h3⟩ := hL f (List.mem_of_getElem? hf)
    rw [crL_step kb torn cut L k f hf, crL_still kb torn cut L hL k (by omega)]
    have e : crFile kb torn cut f 0 = f := by
      unfold crFile
      rw [crS_still kb torn cut f 0 h1, List.take_of_length_le (by omega)]
      obtain ⟨nm, n, las, seen, ws⟩ := f
      simp only at h1 h2 ⊢
      rw [h1, h2]
    obtain ⟨hk, rfl⟩ := List.getElem?_eq_some_iff.1 hf
    rw [List.take_succ_eq_append_getElem hk]
    simp only [crS_still kb torn cut _ 0 h1, e]
theorem Still.crash {d : AD} (s : Still d) (h : Good d) (kb : List Int) (torn cut : Int) : d.crashR kb torn cut = d := by
  have hL := crL_still kb torn cut d.L (fun f hf => ⟨(s.file f hf).1, (s.file f hf).2, (h.file f hf).las⟩) d.L.length (Nat.le_refl _)
  unfold AD.crashR
  rw [hL, List.take_length]
  have h1 := s.down; have h2 := s.told; have h3 := s.after
  obtain ⟨L, cap, ops, down, told, after⟩ := d
  simp only at h1 h2 h3
  subst h1; subst h2; subst h3
  rfl
theorem Still.new (c : Int) : Still (AD.newD c) := ⟨rfl, rfl, rfl, fun f hf => by simp [AD.newD] at hf⟩
theorem Still.put {d : AD} (s : Still d) {f : AF} (hf : f.ws = List.replicate f.n false ∧ f.seen = f.las) : Still (d.withF f) :=
  ⟨s.down, s.told, s.after, fun g hg => by
    rcases mem_ins.1 hg with rfl | hg
    · exact hf
    · exact s.file g (mem_without.1 hg).1⟩
theorem Still.op {d : AD} (s : Still d) : Still d.opd := by
  unfold AD.opd
  rw [if_neg (by rw [s.told]; simp)]
  exact ⟨s.down, s.told, by show (if d.told = true then wrap64 (d.after - 1) else d.after) = 0; rw [s.told]; simpa using s.after, s.file⟩
/-- a file is laid -/
theorem lay_step {d : AD} (h : Good d) (s : Still d) (nm : ByteArray) (n : Nat) (fs : List Int) (he : (d.makeR nm n).2 = 0) (hl : fs.length = n * 64) (hb : Bytes fs) :
    Good ((d.makeR nm n).1.withF ⟨nm, n, fs, fs, List.replicate n false⟩) ∧ Still ((d.makeR nm n).1.withF ⟨nm, n, fs, fs, List.replicate n false⟩) := by
  have hg := h.make nm n
  unfold AD.makeR at he hg ⊢
  split at he
  · simp at he
  rw [if_neg ‹_›] at hg ⊢
  split at he
  · simp at he
  rename_i hr
  rw [if_neg hr] at hg ⊢
  split at he
  · simp at he
  rw [if_neg ‹_›] at hg ⊢
  split at he
  · simp at he
  rename_i hn
  rw [if_neg hn] at hg ⊢
  split at he
  · simp at he
  rw [if_neg ‹_›] at hg ⊢
  by_cases ho : d.ope = 0
  · rw [AD.opR_done d _ ho] at hg ⊢
    simp only [Int.toNat_natCast] at hg ⊢
    have hgf : GF ⟨nm, n, fs, fs, List.replicate n false⟩ := ⟨by simpa using hr, by show 1 ≤ n; omega, by show n ≤ 64; omega, hl, hl, by simp, hb, hb⟩
    exact ⟨hg.re (f := newF nm n) (mem_ins.2 (.inl rfl)) rfl hgf rfl, (s.op.put ⟨rfl, rfl⟩).put ⟨rfl, rfl⟩⟩
  · rw [AD.opR_not d _ ho] at he
    simp at he
theorem layFrom_good (c : Int) (l : List LFile) (hl : ∀ f ∈ l, f.2.2.length = f.2.1 * 64 ∧ Bytes f.2.2) : ∀ k i, Good (layD c l i) → Still (layD c l i) → (layFrom c l i k).2 = 0 → Good (layFrom c l i k).1 ∧ Still (layFrom c l i k).1
  | 0, i, h, s, _ => ⟨⟨h.asc, h.file, h.few, h.cap0, h.cap1, h.used, by show I63 0; unfold I63; omega, h.after⟩, ⟨s.down, s.told, s.after, s.file⟩⟩
  | k + 1, i, h, s, he => by
    unfold layFrom at he ⊢
    by_cases hq : layE c l i ≠ 0
    · rw [if_pos hq] at he; exact absurd he hq
    · rw [if_neg hq] at he ⊢
      have hq2 : layE c l i = 0 := Decidable.not_not.1 hq
      have h2 : Good (layD c l (i + 1)) ∧ Still (layD c l (i + 1)) := by
        cases hf : l[i]? with
        | none => simp only [layD, hf]; exact ⟨h, s⟩
        | some f =>
          rw [layD_step c l i f hf]
          simp only [layE, hf] at hq2
          obtain ⟨h3, h4⟩ := hl f (List.mem_of_getElem? hf)
          exact lay_step h s f.1 f.2.1 f.2.2 hq2 h3 h4
      exact layFrom_good c l hl k (i + 1) h2.1 h2.2 he
theorem lay_good (c : Int) (hc : I63 c) (l : List LFile) (hl : ∀ f ∈ l, f.2.2.length = f.2.1 * 64 ∧ Bytes f.2.2) (he : (layR c l).2 = 0) : Good (layR c l).1 ∧ Still (layR c l).1 :=
  layFrom_good c l hl l.length 0 (Good.new c hc) (Still.new c) he
end Go.Proofs.Ytpnialanmidekaa
