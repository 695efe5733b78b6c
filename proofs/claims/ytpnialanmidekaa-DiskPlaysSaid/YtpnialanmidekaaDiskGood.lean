/-
  LAYER 8 (disk): what holds of every disk that calls come to (plain mathematics): names rise, each is a name, a file has 1 to 64 sectors, no more than the capacity. Nothing here speaks of the program's functions. No condition.
-/
import Derived.Test.YtpnialanmidekaaDiskLay
import Derived.Test.YtpnialanmidekaaDiskCr
import Derived.Sort.Walk0
namespace Go.Proofs.Ytpnialanmidekaa
open Go.RowKit
theorem gtN_iff (n m : ByteArray) : gtN n m = true ↔ m.toList < n.toList := by
  unfold gtN
  rw [Proofs.bytesLess_eq]
  simp only [Bool.not_eq_true', Bool.or_eq_false_iff, decide_eq_false_iff_not, beq_eq_false_iff_ne]
  constructor
  · rintro ⟨h1, h2⟩
    rcases List.le_iff_lt_or_eq.1 (List.not_lt.1 h1) with h | h
    · exact h
    · exact absurd h.symm h2
  · intro h
    exact ⟨fun h2 => List.lt_irrefl _ (List.lt_trans h h2), fun h2 => List.lt_irrefl _ (h2 ▸ h)⟩
theorem gtN_trans {a b c : ByteArray} (h : gtN a b = true) (k : gtN b c = true) : gtN a c = true :=
  (gtN_iff _ _).2 (List.lt_trans ((gtN_iff _ _).1 k) ((gtN_iff _ _).1 h))
theorem toList_inj {a b : ByteArray} (h : a.toList = b.toList) : a = b := by
  by_cases hq : a = b
  · exact hq
  · have := str_ne hq; rw [h] at this; simp at this
theorem gtN_total {a b : ByteArray} (h : gtN a b = false) (hne : a ≠ b) : gtN b a = true := by
  rw [gtN_iff]
  have h1 : ¬ b.toList < a.toList := fun h2 => by rw [(gtN_iff a b).2 h2] at h; exact absurd h (by simp)
  rcases List.le_iff_lt_or_eq.1 (List.not_lt.1 h1) with h2 | h2
  · exact h2
  · exact absurd (toList_inj h2) hne
theorem gtN_ne {a b : ByteArray} (h : gtN a b = true) : a ≠ b := by
  rintro rfl; exact List.lt_irrefl _ ((gtN_iff _ _).1 h)
/-- names rise -/
def Asc (L : List AF) : Prop := L.Pairwise fun f g => gtN g.name f.name = true
/-- a file as it may be -/
structure GF (f : AF) : Prop where
  name : rightB f.name = true
  n1 : 1 ≤ f.n
  n64 : f.n ≤ 64
  las : f.las.length = f.n * 64
  seen : f.seen.length = f.n * 64
  ws : f.ws.length = f.n
  blas : Bytes f.las
  bseen : Bytes f.seen
structure Good (d : AD) : Prop where
  asc : Asc d.L
  file : ∀ f ∈ d.L, GF f
  few : d.L.length ≤ 64
  cap0 : 0 ≤ d.cap
  cap1 : d.cap ≤ 1048576
  used : (usedN d.L : Int) ≤ d.cap
  ops : I63 d.ops
  after : I63 d.after
theorem Asc.without {L : List AF} (h : Asc L) (s : ByteArray) : Asc (withoutF L s) := h.sublist List.filter_sublist
theorem mem_without {L : List AF} {s : ByteArray} {f : AF} : f ∈ withoutF L s ↔ f ∈ L ∧ f.name ≠ s := by
  unfold withoutF; simp [List.mem_filter]
theorem Asc.ins {L : List AF} (h : Asc L) (f : AF) (hn : ∀ g ∈ L, g.name ≠ f.name) : Asc (insF L f) := by
  have hd := List.take_append_drop (insK L f) L
  have h1 : ∀ g ∈ L.take (insK L f), gtN f.name g.name = true := by
    intro g hg
    obtain ⟨j, hj, rfl⟩ := List.getElem_of_mem hg
    rw [List.length_take] at hj
    rw [List.getElem_take]
    exact gtN_total (insK_not L f j (by omega)) (hn _ (List.getElem_mem _))
  have h2 : ∀ g ∈ L.drop (insK L f), gtN g.name f.name = true := by
    intro g hg
    by_cases hk : insK L f < L.length
    · have h3 := insK_at L f hk
      rw [List.drop_eq_getElem_cons hk] at hg
      rcases List.mem_cons.1 hg with rfl | hg
      · exact h3
      · have h4 : Asc (L.drop (insK L f)) := h.sublist (List.drop_sublist _ _)
        rw [List.drop_eq_getElem_cons hk] at h4
        exact gtN_trans ((List.pairwise_cons.1 h4).1 g hg) h3
    · rw [List.drop_eq_nil_of_le (by omega)] at hg; simp at hg
  unfold insF Asc
  rw [List.pairwise_append]
  refine ⟨h.sublist (List.take_sublist _ _), List.pairwise_cons.2 ⟨h2, h.sublist (List.drop_sublist _ _)⟩, ?_⟩
  intro a ha b hb
  rcases List.mem_cons.1 hb with rfl | hb
  · exact h1 a ha
  · exact gtN_trans (h2 b hb) (h1 a ha)
theorem mem_ins {L : List AF} {f g : AF} : g ∈ insF L f ↔ g = f ∨ g ∈ L := by
  unfold insF
  rw [List.mem_append, List.mem_cons]
  have hd : g ∈ L ↔ g ∈ L.take (insK L f) ∨ g ∈ L.drop (insK L f) := by rw [← List.mem_append, List.take_append_drop]
  rw [hd]
  constructor
  · rintro (h | h | h)
    · exact .inr (.inl h)
    · exact .inl h
    · exact .inr (.inr h)
  · rintro (h | h | h)
    · exact .inr (.inl h)
    · exact .inl h
    · exact .inr (.inr h)
theorem ins_len (L : List AF) (f : AF) : (insF L f).length = L.length + 1 := by unfold insF; have := insK_le L f; simp; omega
/-- a file set aside leaves its room -/
theorem without_room : ∀ (L : List AF) (f : AF), f ∈ L → usedN (withoutF L f.name) + f.n ≤ usedN L ∧ (withoutF L f.name).length + 1 ≤ L.length
  | [], _, h => by simp at h
  | x :: t, f, h => by
    have h3 := usedN_without t f.name
    have h4 : (withoutF t f.name).length ≤ t.length := List.length_filter_le ..
    unfold withoutF usedN at h3
    unfold withoutF at h4
    unfold withoutF usedN
    rcases List.mem_cons.1 h with rfl | h
    · simp only [List.filter_cons, decide_true, Bool.not_true, Bool.false_eq_true, if_false, List.map_cons, List.sum_cons, List.length_cons]
      omega
    · obtain ⟨h1, h2⟩ := without_room t f h
      unfold withoutF usedN at h1
      unfold withoutF at h2
      simp only [List.filter_cons]
      split <;> simp only [List.map_cons, List.sum_cons, List.length_cons] <;> omega
theorem Good.without {d : AD} (h : Good d) (s : ByteArray) : Good (d.without s) :=
  ⟨h.asc.without s, fun f hf => h.file f (mem_without.1 hf).1, Nat.le_trans (List.length_filter_le ..) h.few, h.cap0, h.cap1, by
    have := usedN_without d.L s; have h2 := h.used; show ((usedN (withoutF d.L s) : Nat) : Int) ≤ d.cap; omega, h.ops, h.after⟩
theorem Good.put {d : AD} (h : Good d) {f : AF} (hf : GF f) (hu : ((usedN (withoutF d.L f.name) + f.n : Nat) : Int) ≤ d.cap) (hl : (withoutF d.L f.name).length + 1 ≤ 64) : Good (d.withF f) :=
  ⟨(h.asc.without f.name).ins f fun g hg => (mem_without.1 hg).2, fun g hg => by
    rcases mem_ins.1 hg with rfl | hg
    · exact hf
    · exact h.file g (mem_without.1 hg).1, by show (insF (withoutF d.L f.name) f).length ≤ 64; rw [ins_len]; exact hl, h.cap0, h.cap1, by
    show ((usedN (insF (withoutF d.L f.name) f) : Nat) : Int) ≤ d.cap; rw [usedN_insF]; exact hu, h.ops, h.after⟩
theorem wrap64_I63 (x : Int) : I63 (wrap64 x) := by unfold wrap64 I63; omega
theorem Good.op {d : AD} (h : Good d) : Good d.opd := by
  unfold AD.opd
  split
  · exact ⟨h.asc, h.file, h.few, h.cap0, h.cap1, h.used, h.ops, h.after⟩
  · refine ⟨h.asc, h.file, h.few, h.cap0, h.cap1, h.used, wrap64_I63 _, ?_⟩
    show I63 (if d.told = true then wrap64 (d.after - 1) else d.after)
    split
    · exact wrap64_I63 _
    · exact h.after
theorem Good.new (c : Int) (_h : I63 c) : Good (AD.newD c) :=
  ⟨List.Pairwise.nil, fun f hf => by simp [AD.newD] at hf, by simp [AD.newD], by simp only [AD.newD]; omega, by simp only [AD.newD]; omega, by simp only [AD.newD, usedN]; simp; omega, by simp [AD.newD, I63], by simp [AD.newD, I63]⟩
theorem opR_good {d : AD} (h : Good d) (g : AD → AD) (hg : ∀ x : AD, x = d.opd → Good x → Good (g x)) : Good (d.opR g).1 := by
  unfold AD.opR
  split
  · exact h.op
  · exact hg _ rfl h.op
theorem opd_cap (d : AD) : d.opd.cap = d.cap := by unfold AD.opd; split <;> rfl
theorem get_mem {d : AD} {s : ByteArray} (h : d.has s) : d.get s ∈ d.L := List.mem_of_getElem? (d.get_at s h)
theorem has_mem {d : AD} {s : ByteArray} (h : ¬ d.has s) : ∀ f ∈ d.L, f.name ≠ s := by
  intro f hf e
  apply h
  unfold AD.has idxN
  exact List.findIdx_lt_length.2 ⟨f, hf, by simpa using e⟩
theorem without_not {L : List AF} {s : ByteArray} (h : ∀ f ∈ L, f.name ≠ s) : withoutF L s = L := by
  unfold withoutF; rw [List.filter_eq_self]; intro f hf; simp [h f hf]
theorem bytes_iff (l : List Int) : Bytes l ↔ ∀ x ∈ l, 0 ≤ x ∧ x ≤ 255 := by
  constructor
  · intro h x hx
    obtain ⟨i, hi, rfl⟩ := List.getElem_of_mem hx
    have := h i
    simpa [List.getD, hi] using this
  · intro h i
    by_cases hi : i < l.length
    · have := h _ (List.getElem_mem hi)
      simpa [List.getD, hi] using this
    · simp [List.getD, List.getElem?_eq_none (Nat.not_lt.1 hi)]
theorem Bytes.zeros (n : Nat) : Bytes (List.replicate n 0) := by
  rw [bytes_iff]; intro x hx; rw [List.mem_replicate] at hx; obtain ⟨_, rfl⟩ := hx; omega
theorem newF_good (s : ByteArray) (n : Int) (hs : rightB s = true) (h : ¬ (n < 1 ∨ 64 < n)) : GF (newF s n.toNat) :=
  ⟨hs, by show 1 ≤ n.toNat; omega, by show n.toNat ≤ 64; omega, by simp [newF], by simp [newF], by simp [newF], Bytes.zeros _, Bytes.zeros _⟩
theorem Good.make {d : AD} (h : Good d) (s : ByteArray) (n : Int) : Good (d.makeR s n).1 := by
  unfold AD.makeR
  split
  · exact h
  split
  · exact h
  rename_i hr
  split
  · exact h
  rename_i hh
  split
  · exact h
  rename_i hn
  split
  · exact h
  rename_i hc
  refine opR_good h _ fun x hx hg => ?_
  subst hx
  have hL : withoutF d.L (newF s n.toNat).name = d.L := without_not (has_mem hh)
  refine hg.put (newF_good s n (by simpa using hr) hn) ?_ ?_
  · rw [AD.opd_L, hL, opd_cap]; show ((usedN d.L + n.toNat : Nat) : Int) ≤ d.cap; omega
  · rw [AD.opd_L, hL]; omega
/-- a file takes the place of one that is there -/
theorem Good.re {d : AD} (h : Good d) {f g : AF} (hf : f ∈ d.L) (hn : g.name = f.name) (hg : GF g) (hk : g.n = f.n) : Good (d.withF g) := by
  obtain ⟨h1, h2⟩ := without_room d.L f hf
  refine h.put hg ?_ ?_
  · rw [hn, hk]; have := h.used; omega
  · rw [hn]; have := h.few; omega
theorem Good.fail {d : AD} (h : Good d) (n : Int) (hn : I63 n) : Good (d.failR n).1 := by
  unfold AD.failR
  split
  · exact h
  split
  · exact h
  · exact ⟨h.asc, h.file, h.few, h.cap0, h.cap1, h.used, h.ops, hn⟩
theorem Good.remove {d : AD} (h : Good d) (s : ByteArray) : Good (d.removeR s).1 := by
  unfold AD.removeR
  split
  · exact h
  split
  · exact h
  · exact opR_good h _ fun x _ hg => hg.without s
theorem has_opd {d : AD} {s : ByteArray} (h : d.has s) : d.get s ∈ d.opd.L := by rw [AD.opd_L]; exact get_mem h
theorem Good.sync {d : AD} (h : Good d) (s : ByteArray) : Good (d.syncR s).1 := by
  unfold AD.syncR
  split
  · exact h
  split
  · exact h
  rename_i hh
  refine opR_good h _ fun x hx hg => ?_
  subst hx
  have hf := h.file _ (get_mem (Decidable.not_not.1 hh))
  exact hg.re (has_opd (Decidable.not_not.1 hh)) rfl ⟨hf.name, hf.n1, hf.n64, hf.seen, hf.seen, by simp, hf.bseen, hf.bseen⟩ rfl
theorem Good.rename {d : AD} (h : Good d) (s t : ByteArray) : Good (d.renameR s t).1 := by
  unfold AD.renameR
  split
  · exact h
  split
  · exact h
  rename_i hh
  split
  · exact h
  rename_i hr
  split
  · exact h
  refine opR_good h _ fun x hx hg => ?_
  subst hx
  have hf := h.file _ (get_mem (Decidable.not_not.1 hh))
  have hm := has_opd (Decidable.not_not.1 hh)
  have hnm := d.get_name s (Decidable.not_not.1 hh)
  obtain ⟨h1, h2⟩ := without_room d.opd.L _ hm
  rw [hnm] at h1 h2
  have h3 := usedN_without (withoutF d.opd.L s) t
  have h4 : (withoutF (withoutF d.opd.L s) t).length ≤ (withoutF d.opd.L s).length := List.length_filter_le ..
  have h5 := hg.used
  have h6 := hg.few
  refine (hg.without s).put (f := { d.get s with name := t }) ⟨by simpa using hr, hf.n1, hf.n64, hf.las, hf.seen, hf.ws, hf.blas, hf.bseen⟩ ?_ ?_
  · show ((usedN (withoutF (withoutF d.opd.L s) t) + (d.get s).n : Nat) : Int) ≤ d.opd.cap; omega
  · show (withoutF (withoutF d.opd.L s) t).length + 1 ≤ 64; omega
theorem Bytes.take {l : List Int} (h : Bytes l) (n : Nat) : Bytes (l.take n) := (bytes_iff _).2 fun x hx => (bytes_iff _).1 h x (List.mem_of_mem_take hx)
theorem Bytes.drop {l : List Int} (h : Bytes l) (n : Nat) : Bytes (l.drop n) := (bytes_iff _).2 fun x hx => (bytes_iff _).1 h x (List.mem_of_mem_drop hx)
theorem Bytes.app {l m : List Int} (h : Bytes l) (k : Bytes m) : Bytes (l ++ m) := (bytes_iff _).2 fun x hx => by
  rcases List.mem_append.1 hx with hx | hx
  · exact (bytes_iff _).1 h x hx
  · exact (bytes_iff _).1 k x hx
theorem Good.write {d : AD} (h : Good d) (s : ByteArray) (at_ : Int) (m : Nat) (fs : List Int) (hl : fs.length = m * 64) (hb : Bytes fs) : Good (d.writeR s at_ m fs).1 := by
  unfold AD.writeR
  split
  · exact h
  split
  · exact h
  rename_i hh
  split
  · exact h
  rename_i ha
  refine opR_good h _ fun x hx hg => ?_
  subst hx
  have hf := h.file _ (get_mem (Decidable.not_not.1 hh))
  have h1 := hf.seen
  have h2 := hf.ws
  refine hg.re (f := d.get s) (has_opd (Decidable.not_not.1 hh)) rfl ⟨hf.name, hf.n1, hf.n64, hf.las, ?_, ?_, hf.blas, ((hf.bseen.take _).app hb).app (hf.bseen.drop _)⟩ rfl
  · simp only [List.length_append, List.length_take, List.length_drop]; omega
  · simp only [List.length_append, List.length_take, List.length_drop, List.length_replicate]; omega
theorem crL_map (kb : List Int) (torn cut : Int) (L : List AF) : ∀ k, k ≤ L.length → (crL kb torn cut L k).1.map (fun f => (f.name, f.n)) = (L.take k).map fun f => (f.name, f.n)
  | 0, _ => by simp [crL]
  | k + 1, h => by
    obtain ⟨f, hf⟩ := row_some (L := L) (i := k) (by omega)
    rw [crL_step kb torn cut L k f hf, List.map_append, crL_map kb torn cut L k (by omega)]
    obtain ⟨hk, rfl⟩ := List.getElem?_eq_some_iff.1 hf
    rw [List.take_succ_eq_append_getElem hk, List.map_append]
    rfl
theorem mix_bytes (a b : List Int) (k : Nat) (ha : Bytes a) (hb : Bytes b) : Bytes (mixN a b k) := by
  unfold mixN
  exact (hb.take _).app (ha.drop _)
theorem chunk_bytes {l : List Int} (h : Bytes l) (j : Nat) : Bytes (chunk l j) := (h.drop _).take _
theorem crS_bytes (kb : List Int) (torn cut : Int) (f : AF) (i0 : Nat) (hl : Bytes f.las) (hs : Bytes f.seen) : ∀ j, Bytes (crS kb torn cut f i0 j).1
  | 0 => (bytes_iff _).2 fun x hx => by simp [crS] at hx
  | j + 1 => by
    simp only [crS]
    refine (crS_bytes kb torn cut f i0 hl hs j).app ?_
    unfold secC
    split
    · split
      · exact mix_bytes _ _ _ (chunk_bytes hl j) (chunk_bytes hs j)
      · split
        · exact chunk_bytes hs j
        · exact chunk_bytes hl j
    · exact chunk_bytes hl j
theorem crL_file (kb : List Int) (torn cut : Int) (L : List AF) (hL : ∀ f ∈ L, GF f) : ∀ k, k ≤ L.length → ∀ f ∈ (crL kb torn cut L k).1, GF f
  | 0, _ => by intro f hf; simp [crL] at hf
  | k + 1, h => by
    obtain ⟨g, hg⟩ := row_some (L := L) (i := k) (by omega)
    have hgf := hL g (List.mem_of_getElem? hg)
    rw [crL_step kb torn cut L k g hg]
    intro f hf
    rcases List.mem_append.1 hf with hf | hf
    · exact crL_file kb torn cut L hL k (by omega) f hf
    · simp only [List.mem_singleton] at hf
      subst hf
      have h1 := crS_length kb torn cut g (crL kb torn cut L k).2 hgf.las hgf.seen g.n (Nat.le_refl _)
      have h2 := crS_bytes kb torn cut g (crL kb torn cut L k).2 hgf.blas hgf.bseen g.n
      exact ⟨hgf.name, hgf.n1, hgf.n64, h1, h1, by simp [crFile], h2, h2⟩
theorem Good.crash {d : AD} (h : Good d) (kb : List Int) (torn cut : Int) : Good (d.crashR kb torn cut) := by
  have hm := crL_map kb torn cut d.L d.L.length (Nat.le_refl _)
  rw [List.take_length] at hm
  have hu : usedN (crL kb torn cut d.L d.L.length).1 = usedN d.L := by
    unfold usedN
    have h2 := congrArg (List.map Prod.snd) hm
    rw [List.map_map, List.map_map] at h2
    exact congrArg List.sum h2
  refine ⟨?_, fun f hf => crL_file kb torn cut d.L h.file _ (Nat.le_refl _) f hf, ?_, h.cap0, h.cap1, ?_, h.ops, by show I63 0; unfold I63; omega⟩
  · have h1 := h.asc
    have e : ∀ L : List AF, Asc L ↔ (L.map fun f => (f.name, f.n)).Pairwise fun a b => gtN b.1 a.1 = true := fun L => by rw [List.pairwise_map]; rfl
    show Asc (crL kb torn cut d.L d.L.length).1
    rw [e, hm, ← e]; exact h1
  · show (crL kb torn cut d.L d.L.length).1.length ≤ 64
    rw [crL_length kb torn cut d.L _ (Nat.le_refl _)]; exact h.few
  · show ((usedN (crL kb torn cut d.L d.L.length).1 : Nat) : Int) ≤ d.cap
    rw [hu]; exact h.used
end Go.Proofs.Ytpnialanmidekaa
